/- The laws of layer 3, continued: ShareParts, ShareChooses, ShareRises: for every input each returns true, and its arguments read as before. No further condition. -/
import Derived.Test.YtpeidcjpkgcajaaShareChoose
import Derived.Test.YtpeidcjpkgcajaaLaws03
namespace Go.Proofs.Ytpeidcjpkgcajaa
open Go.ChangeShapes Go.WideShapes Go.ChangeAt Go.RowKit
open Go.ChangeMaps (open_string shut_string)
open FM
set_option linter.unusedVariables false

/-- A block that a call has just made reads as its floats. -/
theorem Fsl_new (w : World) (t : TypeId) (l : List Nat) (n : Nat) (hn : l.length = n) (hm : n ≤ maxLen) (hl : ∀ b ∈ l, b < 18446744073709551616) : Fsl (w.alloc (.cells (fcel l).toArray t)) (some ⟨w.heap.size, 0, none⟩) n n l := by
  refine ⟨hn, Nat.le_refl _, hm, (fun h => by cases h), hl, fun a ha j u hu => ?_⟩
  obtain rfl := Option.some.inj ha
  rw [Addr.add_lit, cell_of_row _ w.heap.size (0 + j) (fcel l).toArray t (0, 0) (heap_alloc_new _ _)]
  simpa using hu

theorem head_share (w : World) (t : TypeId) : Calls Try.prog 27 #[.int .i64 1, .slice (some ⟨w.heap.size, 0, none⟩) 2 2] (w.alloc (.cells #[fl 4607182418800017408, fl 4613937818241073152] t)) fun e w' => e = .returned (.tuple #[fl 4604930618986332160, .int .i64 0]) ∧ Below w.heap.size w w' := by
  have h := share_any 1 _ 2 2 [4607182418800017408, 4613937818241073152] _ (Fsl_new w t [4607182418800017408, 4613937818241073152] 2 rfl (by decide) (by decide))
  rw [show shareR 1 [4607182418800017408, 4613937818241073152] = (4604930618986332160, 0) by decide +kernel] at h
  refine Calls.mono h ?_
  rintro e w' ⟨rfl, bel⟩
  exact ⟨rfl, ((Below.refl _ _).alloc (Nat.le_refl _) _).trans (bel.mono (by simp))⟩
theorem head_choose (w : World) (t : TypeId) : Calls Try.prog 29 #[fl 4602678819172646912, .slice (some ⟨w.heap.size, 0, none⟩) 2 2] (w.alloc (.cells #[fl 4607182418800017408, fl 4607182418800017408] t)) fun e w' => e = .returned (.tuple #[.int .i64 1, .int .i64 0]) ∧ Below w.heap.size w w' := by
  have h := choose_any 4602678819172646912 (by decide) _ 2 2 [4607182418800017408, 4607182418800017408] _ (Fsl_new w t [4607182418800017408, 4607182418800017408] 2 rfl (by decide) (by decide))
  rw [show chooseR 4602678819172646912 [4607182418800017408, 4607182418800017408] = (1, 0) by decide +kernel] at h
  refine Calls.mono h ?_
  rintro e w' ⟨rfl, bel⟩
  exact ⟨rfl, ((Below.refl _ _).alloc (Nat.le_refl _) _).trans (bel.mono (by simp))⟩

theorem row_len {k : IntKind} {w : World} {a : Option Addr} {len cap : Nat} {zs : List Int} (h : IsRow k w a len cap zs) : len ≤ cap := by
  rcases h with ⟨_, rfl, rfl, _⟩ | ⟨_, _, h, _⟩ <;> omega

set_option maxHeartbeats 1000000 in
theorem ShareParts_walk (a0 : Int) (a1 : Option Addr) (len1 cap1 : Nat) (z1 : List Int) (w : World) (w0 : (Lit.int .i64 a0).wf = true) (w1 : IsRow .u64 w a1 len1 cap1 z1) (s1 : cap1 * 8 ≤ 140737488351232) :
    Calls Try.prog 7 #[.int .i64 a0, .slice a1 len1 cap1] w fun e w' => e = .returned (.bool true) ∧ Below w.heap.size w w' := by
  have hf := floats_any a1 len1 cap1 z1 w w1 (by have := row_len w1; omega)
  have oeq : (FloatKind.f64.format.order 4604930618986332160 4604930618986332160 == some .eq) = true := by decide
  clear w0 w1 s1
  go_enter Try.func7, Try.ntmps7
  go_wp2_with fail
  refine hf.mono ?_
  rintro e w2 ⟨ao, cap, l, rfl, hfs, bel⟩
  have h1 := fun w hb => share_any a0 ao len1 cap l w hb
  have h2 := fun w hb => rshare_any a0 ao len1 cap l w hb
  have hl := shareR_lt a0 l
  generalize shareR a0 l = r at *
  obtain ⟨r, E⟩ := r
  have hs := same_any r r hl hl rfl
  go_wp2_with fail
  refine (head_share _ _).mono ?_
  rintro e w3 ⟨rfl, bel3⟩
  have hfs3 := hfs.below bel3 (Nat.le_refl _)
  have bel03 := bel.trans (bel3.mono bel.size)
  clear hfs bel bel3
  go_wp2_with fail
  refine (h1 _ hfs3).mono ?_
  rintro e w4 ⟨rfl, bel4⟩
  have hfs4 := hfs3.below bel4 (Nat.le_refl _)
  have bel04 := bel03.trans (bel4.mono bel03.size)
  clear hfs3 bel03 bel4
  go_wp2_with fail
  refine (h2 _ hfs4).mono ?_
  rintro e w5 ⟨rfl, bel5⟩
  have bel05 := bel04.trans (bel5.mono bel04.size)
  clear hfs4 bel04 bel5
  go_wp2_with fail
  refine (hs _).mono ?_
  rintro e w' ⟨rfl, rfl⟩
  go_wp2_with fail
  go_ret
  exact ⟨rfl, bel05⟩

set_option maxHeartbeats 1000000 in
theorem ShareChooses_walk (a0 : Int) (a1 : Option Addr) (len1 cap1 : Nat) (z1 : List Int) (w : World) (w0 : (Lit.int .u64 a0).wf = true) (w1 : IsRow .u64 w a1 len1 cap1 z1) (s1 : cap1 * 8 ≤ 140737488351232) :
    Calls Try.prog 8 #[.int .u64 a0, .slice a1 len1 cap1] w fun e w' => e = .returned (.bool true) ∧ Below w.heap.size w w' := by
  obtain ⟨p, rfl, hp⟩ := nat_u64 w0
  have hf := floats_any a1 len1 cap1 z1 w w1 (by have := row_len w1; omega)
  have f1 := run_frombits p
  clear w0 w1 s1
  go_enter Try.func8, Try.ntmps8
  go_wp2_with fail
  refine hf.mono ?_
  rintro e w2 ⟨ao, cap, l, rfl, hfs, bel⟩
  have h1 := fun w hb => choose_any p hp ao len1 cap l w hb
  have h2 := fun w hb => rchoose_any p hp ao len1 cap l w hb
  generalize chooseR p l = r at *
  obtain ⟨r, E⟩ := r
  go_wp2_with fail
  refine (head_choose _ _).mono ?_
  rintro e w3 ⟨rfl, bel3⟩
  have hfs3 := hfs.below bel3 (Nat.le_refl _)
  have bel03 := bel.trans (bel3.mono bel.size)
  clear hfs bel bel3
  go_wp2_with fail
  refine (h1 _ hfs3).mono ?_
  rintro e w4 ⟨rfl, bel4⟩
  have hfs4 := hfs3.below bel4 (Nat.le_refl _)
  have bel04 := bel03.trans (bel4.mono bel03.size)
  clear hfs3 bel03 bel4
  go_wp2_with fail
  refine (h2 _ hfs4).mono ?_
  rintro e w5 ⟨rfl, bel5⟩
  have bel05 := bel04.trans (bel5.mono bel04.size)
  clear hfs4 bel04 bel5
  go_wp2_with fail
  go_ret
  exact ⟨rfl, bel05⟩

/-! A greater part chooses no earlier place. -/
theorem mul_zero (s : Nat) (hs : 0 < s ∧ s < 9218868437227405312) : D.mul 0 s = some 0 := by
  unfold Ieee.Format.mul
  obtain ⟨m', e', h0', -⟩ := read_pos s hs.2
  have r0 : D.read 0 = .number false 0 (-1074) := by decide
  rw [h0', r0]
  simp only [Ieee.Datum.product, Option.map_some, Ieee.Format.write, Nat.zero_mul]
  rfl

theorem prod_key (p q s : Nat) (hp : partOK p = true) (hq : partOK q = true) (hs : pos s = true) (h : (FloatKind.f64.format.order p q == some .gt) = false) :
    key (prod p s) ≤ key (prod q s) ∧ isNan (prod p s) = false ∧ isNan (prod q s) = false := by
  have hp' : p < 4607182418800017408 ∨ p = 9223372036854775808 := of_decide_eq_true hp
  have hq' : q < 4607182418800017408 ∨ q = 9223372036854775808 := of_decide_eq_true hq
  have hs' : 0 < s ∧ s < 9218868437227405312 := of_decide_eq_true hs
  obtain ⟨a, a1, a2, a3, a4, a5⟩ := mul_some p s (by omega) hs'
  obtain ⟨b, b1, b2, b3, b4, b5⟩ := mul_some q s (by omega) hs'
  have ea : prod p s = a := by unfold prod; rw [a1]; rfl
  have eb : prod q s = b := by unfold prod; rw [b1]; rfl
  rw [ea, eb]
  refine ⟨?_, a3, b3⟩
  have np : isNan p = false := decide_eq_false (by omega)
  have nq : isNan q = false := decide_eq_false (by omega)
  have h : (D.order p q == some .gt) = false := h
  rw [gt_key p q (by omega) (by omega) np nq, decide_eq_false_iff_not] at h
  have kb : 0 ≤ key b := by
    rcases hq' with h1 | h1
    · have := b4 (by omega)
      rw [key_pos (by omega)]; omega
    · rw [b5 h1]; decide
  rcases hp' with h1 | h1
  · rw [key_pos (by omega : p < 9223372036854775808)] at h
    rcases hq' with h2 | h2
    · rw [key_pos (by omega : q < 9223372036854775808)] at h
      have := mul_mono p q s a b (by omega) (by omega) (by omega) hs' a1 b1
      have := b4 (by omega)
      rw [key_pos (by omega : a < 9223372036854775808), key_pos (by omega : b < 9223372036854775808)]
      omega
    · rw [h2, show key 9223372036854775808 = 0 by decide] at h
      have : p = 0 := by omega
      subst this
      rw [mul_zero s hs'] at a1
      cases a1
      exact kb
  · rw [a5 h1, show key 9223372036854775808 = 0 by decide]
    exact kb

theorem sums_le {l : List Nat} (h : ∀ k, k < l.length → pos (l[k]?.getD 0) = true) : ∀ k, k ≤ l.length → sums (l.take k) ≤ 9218868437227405312
  | 0, _ => by simp [sums]
  | k + 1, hk => by
    rw [sums_take l k (by omega)]
    exact (ad_some _ _ (sums_le h k (by omega)) (h k (by omega))).2

theorem pickF_ge (b : Nat) (l : List Nat) : ∀ f i, f + i = l.length → 0 < f → i ≤ pickF b l f i
  | 0, i, _, h => by omega
  | 1, i, h, _ => by
    unfold pickF
    split
    · exact Nat.le_refl _
    · unfold pickF; omega
  | f + 2, i, h, _ => by
    unfold pickF
    split
    · exact Nat.le_refl _
    · have := pickF_ge b l (f + 1) (i + 1) (by omega) (by omega)
      omega
theorem pickF_mono (b c : Nat) (l : List Nat) (hm : ∀ k, k ≤ l.length → gtB (sums (l.take k)) c = true → gtB (sums (l.take k)) b = true) : ∀ f i, f + i = l.length → pickF b l f i ≤ pickF c l f i
  | 0, i, _ => Nat.le_refl _
  | f + 1, i, h => by
    have ge := pickF_ge c l (f + 1) i h (by omega)
    by_cases hb : gtB (sums (l.take (i + 1))) b = true
    · have : pickF b l (f + 1) i = i := by unfold pickF; rw [if_pos hb]
      omega
    · have hc : ¬ gtB (sums (l.take (i + 1))) c = true := fun hc => hb (hm _ (by omega) hc)
      have e1 : pickF b l (f + 1) i = pickF b l f (i + 1) := by
        show (if gtB (sums (l.take (i + 1))) b = true then i else pickF b l f (i + 1)) = _
        rw [if_neg hb]
      have e2 : pickF c l (f + 1) i = pickF c l f (i + 1) := by
        show (if gtB (sums (l.take (i + 1))) c = true then i else pickF c l f (i + 1)) = _
        rw [if_neg hc]
      rw [e1, e2]
      exact pickF_mono b c l hm f (i + 1) (by omega)

/-- What two parts choose: one of them nothing, or the first is greater, or the first chooses no later place. -/
theorem rises (p q : Nat) (hp : p < 18446744073709551616) (hq : q < 18446744073709551616) (l : List Nat) (h : (FloatKind.f64.format.order p q == some .gt) = false) :
    ((chooseR p l).2 = 2 ∨ (chooseR q l).2 = 2) ∨ (chooseR p l).2 = 0 ∧ (chooseR q l).2 = 0 ∧ (chooseR p l).1 ≤ (chooseR q l).1 := by
  by_cases h1 : okW l = true ∧ partOK p = true
  · by_cases h2 : okW l = true ∧ partOK q = true
    · refine .inr ?_
      have e1 : chooseR p l = (((pick (prod p (sums l)) l : Nat) : Int), 0) := by simp only [chooseR, if_pos h1]
      have e2 : chooseR q l = (((pick (prod q (sums l)) l : Nat) : Int), 0) := by simp only [chooseR, if_pos h2]
      rw [e1, e2]
      refine ⟨rfl, rfl, ?_⟩
      have hs := okW_sum h1.1
      obtain ⟨hk, n1, n2⟩ := prod_key p q (sums l) h1.2 h2.2 hs h
      have b1 := (prod_some p _ h1.2 hs).2
      have b2 := (prod_some q _ h2.2 hs).2
      show ((pick (prod p (sums l)) l : Nat) : Int) ≤ ((pick (prod q (sums l)) l : Nat) : Int)
      have := pickF_mono (prod p (sums l)) (prod q (sums l)) l (fun k hkk hg => by
        have hle := sums_le (fun k hk => okW_at h1.1 hk) k hkk
        have ns : isNan (sums (l.take k)) = false := decide_eq_false (by omega)
        have hg : (D.order (sums (l.take k)) (prod q (sums l)) == some .gt) = true := hg
        show (D.order (sums (l.take k)) (prod p (sums l)) == some .gt) = true
        rw [gt_key _ _ (by omega) b2 ns n2, decide_eq_true_eq] at hg
        rw [gt_key _ _ (by omega) b1 ns n1, decide_eq_true_eq]
        omega) l.length 0 (by omega)
      unfold pick
      omega
    · exact .inl (.inr (by simp only [chooseR, if_neg h2]))
  · exact .inl (.inl (by simp only [chooseR, if_neg h1]))

theorem chooseR_code (p : Nat) (l : List Nat) : (chooseR p l).2 = 0 ∨ (chooseR p l).2 = 2 := by
  unfold chooseR
  split
  · exact .inl rfl
  · exact .inr rfl

set_option maxHeartbeats 2000000 in
theorem ShareRises_walk (a0 a1 : Int) (a2 : Option Addr) (len2 cap2 : Nat) (z2 : List Int) (w : World) (w0 : (Lit.int .u64 a0).wf = true) (w1 : (Lit.int .u64 a1).wf = true) (w2 : IsRow .u64 w a2 len2 cap2 z2) (s2 : cap2 * 8 ≤ 140737488351232) :
    Calls Try.prog 10 #[.int .u64 a0, .int .u64 a1, .slice a2 len2 cap2] w fun e w' => e = .returned (.bool true) ∧ Below w.heap.size w w' := by
  obtain ⟨p, rfl, hp⟩ := nat_u64 w0
  obtain ⟨q, rfl, hq⟩ := nat_u64 w1
  have hf := floats_any a2 len2 cap2 z2 w w2 (by have := row_len w2; omega)
  have f1 := run_frombits p
  have f2 := run_frombits q
  clear w0 w1 w2 s2
  go_enter Try.func10, Try.ntmps10
  go_wp2_with fail
  refine hf.mono ?_
  rintro e w2 ⟨ao, cap, l, rfl, hfs, bel⟩
  have h1 := fun w hb => choose_any p hp ao len2 cap l w hb
  have h2 := fun w hb => choose_any q hq ao len2 cap l w hb
  obtain ⟨g, hg⟩ : ∃ g, (FloatKind.f64.format.order p q == some .gt) = g := ⟨_, rfl⟩
  have hr := fun h => rises p q hp hq l h
  have c1 := chooseR_code p l
  have c2 := chooseR_code q l
  generalize chooseR p l = r1 at *
  generalize chooseR q l = r2 at *
  obtain ⟨r1, E1⟩ := r1
  obtain ⟨r2, E2⟩ := r2
  have hway : Hid (E1 = 2 ∨ (E1 = 0 ∧ E2 = 2) ∨ (E1 = 0 ∧ E2 = 0 ∧ g = true) ∨ (E1 = 0 ∧ E2 = 0 ∧ g = false ∧ r1 ≤ r2)) := by
    have c1 : E1 = 0 ∨ E1 = 2 := c1
    have c2 : E2 = 0 ∨ E2 = 2 := c2
    cases g with
    | true =>
      rcases c1 with rfl | rfl
      · rcases c2 with rfl | rfl
        · exact .inr (.inr (.inl ⟨rfl, rfl, rfl⟩))
        · exact .inr (.inl ⟨rfl, rfl⟩)
      · exact .inl rfl
    | false =>
      have hr : (E1 = 2 ∨ E2 = 2) ∨ E1 = 0 ∧ E2 = 0 ∧ r1 ≤ r2 := hr hg
      rcases c1 with rfl | rfl
      · rcases c2 with rfl | rfl
        · exact .inr (.inr (.inr ⟨rfl, rfl, rfl, by omega⟩))
        · exact .inr (.inl ⟨rfl, rfl⟩)
      · exact .inl rfl
  clear hr c1 c2
  go_wp2_with fail
  refine (head_choose _ _).mono ?_
  rintro e w3 ⟨rfl, bel3⟩
  have hfs3 := hfs.below bel3 (Nat.le_refl _)
  have bel03 := bel.trans (bel3.mono bel.size)
  clear hfs bel bel3
  go_wp2_with fail
  refine (h1 _ hfs3).mono ?_
  rintro e w4 ⟨rfl, bel4⟩
  have hfs4 := hfs3.below bel4 (Nat.le_refl _)
  have bel04 := bel03.trans (bel4.mono bel03.size)
  clear hfs3 bel03 bel4
  go_wp2_with fail
  refine (h2 _ hfs4).mono ?_
  rintro e w5 ⟨rfl, bel5⟩
  have bel05 := bel04.trans (bel5.mono bel04.size)
  clear hfs4 bel04 bel5
  rcases hway.out with rfl | ⟨rfl, rfl⟩ | ⟨rfl, rfl, rfl⟩ | ⟨rfl, rfl, rfl, hle⟩
  all_goals
    clear hway
    go_wp2_with fail
    go_ret
    exact ⟨rfl, bel05⟩

set_option maxRecDepth 100000 in
theorem ShareParts_lifted (os : Os) (started : os.Started) (H : Type) (enc : TypeId × Value → H) :
    ReturnsInHanded {} Try.checked os 7 .any (Rows.sharePartsSpec.pre6 enc Try.prog Try.f7 Rows.sharePartsRow.domain false) (Rows.sharePartsSpec.post enc Try.prog Try.f7 false true false false) := by
  refine returnsInHanded_of_change_sized (C := Try.checked) (by kernel_rfl) started (by kernel_rfl) Try.func7
    (ChangeSpec.witness6 (enc := enc) (C := Try.checked) false ⟨#[], #[.int .i64 0, .slice none 0 0], []⟩ 8 (by kernel_rfl) (by kernel_rfl) (by kernel_rfl) (by kernel_rfl)) ?_
  intro W base args ds gs before hval0 hW hcnd hsz0 _
  have hsz : (DataW.weightsEach Try.prog (Try.f7.params.toList ++ Rows.sharePartsSpec.plain.varTypes Try.prog) (ds ++ gs)).all (· ≤ reachBytes) = true := hsz0
  clear hsz0
  have hval : ∀ (j : Nat) t v, Try.f7.params[j]? = some t → args[j]? = some v → Value.okWide Try.prog W .any base t v := hval0
  have hW' := hW
  obtain ⟨p, q, hA0, hV, rfl, hfz, hnd⟩ := hW
  have hA : DataW.TrodAll enc Try.prog W 0 (fun _ => true) true Try.f7.params.toList args.toList ds p := hA0
  rw [Try.params7] at hA hval hsz
  obtain ⟨v0, vs0, d0, ds0, p0, q0, hargs, rfl, rfl, h0, r0⟩ := trodAll_cons hA
  obtain ⟨v1, vs1, d1, ds1, p1, q1, rfl, rfl, rfl, h1, r1⟩ := trodAll_cons r0
  obtain ⟨rfl, rfl, rfl⟩ := trodAll_nil r1
  obtain rfl : args = #[v0, v1] := by cases args; simp_all
  obtain ⟨rfl, rfl⟩ := trodVars_none hV
  obtain ⟨a0, rfl, rfl, rfl, w0⟩ := open_int Try.underlying3 (hval 0 3 v0 rfl rfl) h0
  obtain ⟨a1, len1, cap1, rfl⟩ := okWide_slice Try.underlying37 (hval 1 37 v1 rfl rfl)
  have k1 := h1
  have lt1 : ∀ x ∈ p1, x.block < W.heap.size := by obtain ⟨m, hm⟩ := k1; exact DataW.trod_lt m _ _ _ hm
  obtain ⟨z1, w1, s1⟩ : ∃ zs, IsRow .u64 W a1 len1 cap1 zs ∧ cap1 * 8 ≤ 140737488351232 := by
    obtain ⟨fuel, hf⟩ := h1
    rcases open_ints Try.underlying37 Try.underlying22 (by kernel_rfl) hf with ⟨hcs, _⟩ | ⟨x, l, c, zs, hcs, _, hl, hm, hz, hx, hcell, hwz⟩
    · simp [Value.cells] at hcs
      obtain ⟨rfl, rfl, rfl⟩ := hcs
      exact ⟨[], .inl ⟨rfl, rfl, rfl, rfl⟩, by simp⟩
    · simp [Value.cells] at hcs
      obtain ⟨rfl, rfl, rfl⟩ := hcs
      have hs := sized_slice hsz (j := 1) (t := 37) (e := 22) rfl (congrArg some (Prod.mk.inj hx).1) Try.underlying37
      rw [show Try.prog.bytesOf 22 = 8 from by kernel_rfl] at hs
      have hz2 : zs.length = cap1 := by simpa using hz
      simp only [lits, List.length_map, List.length_take, List.length_drop, reachBytes] at hs
      exact ⟨zs, .inr ⟨_, rfl, hl, hm, hz2, hcell, hwz⟩, by omega⟩
  clear hA0 hval0
  refine (ShareParts_walk a0 a1 len1 cap1 z1 W w0 w1 s1).mono fun e W' ⟨he, bel⟩ => ?_
  subst he
  exact ⟨_, rfl, _, _, _, [], _, [], hW', trodAll_mk1 (shut_bool Try.underlying4 _), (trodAll_cons_mk (shut_int Try.underlying3 w0) (trodAll_cons_mk (Below.trod laidOut (by kernel_rfl) (of_decide_eq_true (by kernel_rfl)) k1 bel lt1) trodAll_mk0)), rfl, bel.frame _, fun h => by cases h⟩

/-- The given statement of ShareParts. -/
theorem ShareParts_holds : Rows.SharePartsSaid :=
  OpenClaim.holds_of_wide 7 Try.f7 rfl rfl rfl rfl rfl rfl rfl ⟨rfl, rfl, rfl, rfl, rfl⟩ rfl rfl rfl rfl rfl (by kernel_rfl) Try.func7 (by kernel_rfl)
    (of_decide_eq_true (by kernel_rfl)) (by unfold Func.isWrapper; first | (rw [if_pos (by decide +kernel)]; kernel_rfl) | (rw [if_neg (by decide +kernel)]; exact ⟨rfl, rfl⟩))
    (fun os started H enc _ => ShareParts_lifted os started H enc)

set_option maxRecDepth 100000 in
theorem ShareChooses_lifted (os : Os) (started : os.Started) (H : Type) (enc : TypeId × Value → H) :
    ReturnsInHanded {} Try.checked os 8 .any (Rows.shareChoosesSpec.pre6 enc Try.prog Try.f8 Rows.shareChoosesRow.domain false) (Rows.shareChoosesSpec.post enc Try.prog Try.f8 false true false false) := by
  refine returnsInHanded_of_change_sized (C := Try.checked) (by kernel_rfl) started (by kernel_rfl) Try.func8
    (ChangeSpec.witness6 (enc := enc) (C := Try.checked) false ⟨#[], #[.int .u64 0, .slice none 0 0], []⟩ 8 (by kernel_rfl) (by kernel_rfl) (by kernel_rfl) (by kernel_rfl)) ?_
  intro W base args ds gs before hval0 hW hcnd hsz0 _
  have hsz : (DataW.weightsEach Try.prog (Try.f8.params.toList ++ Rows.shareChoosesSpec.plain.varTypes Try.prog) (ds ++ gs)).all (· ≤ reachBytes) = true := hsz0
  clear hsz0
  have hval : ∀ (j : Nat) t v, Try.f8.params[j]? = some t → args[j]? = some v → Value.okWide Try.prog W .any base t v := hval0
  have hW' := hW
  obtain ⟨p, q, hA0, hV, rfl, hfz, hnd⟩ := hW
  have hA : DataW.TrodAll enc Try.prog W 0 (fun _ => true) true Try.f8.params.toList args.toList ds p := hA0
  rw [Try.params8] at hA hval hsz
  obtain ⟨v0, vs0, d0, ds0, p0, q0, hargs, rfl, rfl, h0, r0⟩ := trodAll_cons hA
  obtain ⟨v1, vs1, d1, ds1, p1, q1, rfl, rfl, rfl, h1, r1⟩ := trodAll_cons r0
  obtain ⟨rfl, rfl, rfl⟩ := trodAll_nil r1
  obtain rfl : args = #[v0, v1] := by cases args; simp_all
  obtain ⟨rfl, rfl⟩ := trodVars_none hV
  obtain ⟨a0, rfl, rfl, rfl, w0⟩ := open_int Try.underlying22 (hval 0 22 v0 rfl rfl) h0
  obtain ⟨a1, len1, cap1, rfl⟩ := okWide_slice Try.underlying37 (hval 1 37 v1 rfl rfl)
  have k1 := h1
  have lt1 : ∀ x ∈ p1, x.block < W.heap.size := by obtain ⟨m, hm⟩ := k1; exact DataW.trod_lt m _ _ _ hm
  obtain ⟨z1, w1, s1⟩ : ∃ zs, IsRow .u64 W a1 len1 cap1 zs ∧ cap1 * 8 ≤ 140737488351232 := by
    obtain ⟨fuel, hf⟩ := h1
    rcases open_ints Try.underlying37 Try.underlying22 (by kernel_rfl) hf with ⟨hcs, _⟩ | ⟨x, l, c, zs, hcs, _, hl, hm, hz, hx, hcell, hwz⟩
    · simp [Value.cells] at hcs
      obtain ⟨rfl, rfl, rfl⟩ := hcs
      exact ⟨[], .inl ⟨rfl, rfl, rfl, rfl⟩, by simp⟩
    · simp [Value.cells] at hcs
      obtain ⟨rfl, rfl, rfl⟩ := hcs
      have hs := sized_slice hsz (j := 1) (t := 37) (e := 22) rfl (congrArg some (Prod.mk.inj hx).1) Try.underlying37
      rw [show Try.prog.bytesOf 22 = 8 from by kernel_rfl] at hs
      have hz2 : zs.length = cap1 := by simpa using hz
      simp only [lits, List.length_map, List.length_take, List.length_drop, reachBytes] at hs
      exact ⟨zs, .inr ⟨_, rfl, hl, hm, hz2, hcell, hwz⟩, by omega⟩
  clear hA0 hval0
  refine (ShareChooses_walk a0 a1 len1 cap1 z1 W w0 w1 s1).mono fun e W' ⟨he, bel⟩ => ?_
  subst he
  exact ⟨_, rfl, _, _, _, [], _, [], hW', trodAll_mk1 (shut_bool Try.underlying4 _), (trodAll_cons_mk (shut_int Try.underlying22 w0) (trodAll_cons_mk (Below.trod laidOut (by kernel_rfl) (of_decide_eq_true (by kernel_rfl)) k1 bel lt1) trodAll_mk0)), rfl, bel.frame _, fun h => by cases h⟩

/-- The given statement of ShareChooses. -/
theorem ShareChooses_holds : Rows.ShareChoosesSaid :=
  OpenClaim.holds_of_wide 8 Try.f8 rfl rfl rfl rfl rfl rfl rfl ⟨rfl, rfl, rfl, rfl, rfl⟩ rfl rfl rfl rfl rfl (by kernel_rfl) Try.func8 (by kernel_rfl)
    (of_decide_eq_true (by kernel_rfl)) (by unfold Func.isWrapper; first | (rw [if_pos (by decide +kernel)]; kernel_rfl) | (rw [if_neg (by decide +kernel)]; exact ⟨rfl, rfl⟩))
    (fun os started H enc _ => ShareChooses_lifted os started H enc)

set_option maxRecDepth 100000 in
theorem ShareRises_lifted (os : Os) (started : os.Started) (H : Type) (enc : TypeId × Value → H) :
    ReturnsInHanded {} Try.checked os 10 .any (Rows.shareRisesSpec.pre6 enc Try.prog Try.f10 Rows.shareRisesRow.domain false) (Rows.shareRisesSpec.post enc Try.prog Try.f10 false true false false) := by
  refine returnsInHanded_of_change_sized (C := Try.checked) (by kernel_rfl) started (by kernel_rfl) Try.func10
    (ChangeSpec.witness6 (enc := enc) (C := Try.checked) false ⟨#[], #[.int .u64 0, .int .u64 0, .slice none 0 0], []⟩ 8 (by kernel_rfl) (by kernel_rfl) (by kernel_rfl) (by kernel_rfl)) ?_
  intro W base args ds gs before hval0 hW hcnd hsz0 _
  have hsz : (DataW.weightsEach Try.prog (Try.f10.params.toList ++ Rows.shareRisesSpec.plain.varTypes Try.prog) (ds ++ gs)).all (· ≤ reachBytes) = true := hsz0
  clear hsz0
  have hval : ∀ (j : Nat) t v, Try.f10.params[j]? = some t → args[j]? = some v → Value.okWide Try.prog W .any base t v := hval0
  have hW' := hW
  obtain ⟨p, q, hA0, hV, rfl, hfz, hnd⟩ := hW
  have hA : DataW.TrodAll enc Try.prog W 0 (fun _ => true) true Try.f10.params.toList args.toList ds p := hA0
  rw [Try.params10] at hA hval hsz
  obtain ⟨v0, vs0, d0, ds0, p0, q0, hargs, rfl, rfl, h0, r0⟩ := trodAll_cons hA
  obtain ⟨v1, vs1, d1, ds1, p1, q1, rfl, rfl, rfl, h1, r1⟩ := trodAll_cons r0
  obtain ⟨v2, vs2, d2, ds2, p2, q2, rfl, rfl, rfl, h2, r2⟩ := trodAll_cons r1
  obtain ⟨rfl, rfl, rfl⟩ := trodAll_nil r2
  obtain rfl : args = #[v0, v1, v2] := by cases args; simp_all
  obtain ⟨rfl, rfl⟩ := trodVars_none hV
  obtain ⟨a0, rfl, rfl, rfl, w0⟩ := open_int Try.underlying22 (hval 0 22 v0 rfl rfl) h0
  obtain ⟨a1, rfl, rfl, rfl, w1⟩ := open_int Try.underlying22 (hval 1 22 v1 rfl rfl) h1
  obtain ⟨a2, len2, cap2, rfl⟩ := okWide_slice Try.underlying37 (hval 2 37 v2 rfl rfl)
  have k2 := h2
  have lt2 : ∀ x ∈ p2, x.block < W.heap.size := by obtain ⟨m, hm⟩ := k2; exact DataW.trod_lt m _ _ _ hm
  obtain ⟨z2, w2, s2⟩ : ∃ zs, IsRow .u64 W a2 len2 cap2 zs ∧ cap2 * 8 ≤ 140737488351232 := by
    obtain ⟨fuel, hf⟩ := h2
    rcases open_ints Try.underlying37 Try.underlying22 (by kernel_rfl) hf with ⟨hcs, _⟩ | ⟨x, l, c, zs, hcs, _, hl, hm, hz, hx, hcell, hwz⟩
    · simp [Value.cells] at hcs
      obtain ⟨rfl, rfl, rfl⟩ := hcs
      exact ⟨[], .inl ⟨rfl, rfl, rfl, rfl⟩, by simp⟩
    · simp [Value.cells] at hcs
      obtain ⟨rfl, rfl, rfl⟩ := hcs
      have hs := sized_slice hsz (j := 2) (t := 37) (e := 22) rfl (congrArg some (Prod.mk.inj hx).1) Try.underlying37
      rw [show Try.prog.bytesOf 22 = 8 from by kernel_rfl] at hs
      have hz2 : zs.length = cap2 := by simpa using hz
      simp only [lits, List.length_map, List.length_take, List.length_drop, reachBytes] at hs
      exact ⟨zs, .inr ⟨_, rfl, hl, hm, hz2, hcell, hwz⟩, by omega⟩
  clear hA0 hval0
  refine (ShareRises_walk a0 a1 a2 len2 cap2 z2 W w0 w1 w2 s2).mono fun e W' ⟨he, bel⟩ => ?_
  subst he
  exact ⟨_, rfl, _, _, _, [], _, [], hW', trodAll_mk1 (shut_bool Try.underlying4 _), (trodAll_cons_mk (shut_int Try.underlying22 w0) (trodAll_cons_mk (shut_int Try.underlying22 w1) (trodAll_cons_mk (Below.trod laidOut (by kernel_rfl) (of_decide_eq_true (by kernel_rfl)) k2 bel lt2) trodAll_mk0))), rfl, bel.frame _, fun h => by cases h⟩

/-- The given statement of ShareRises. -/
theorem ShareRises_holds : Rows.ShareRisesSaid :=
  OpenClaim.holds_of_wide 10 Try.f10 rfl rfl rfl rfl rfl rfl rfl ⟨rfl, rfl, rfl, rfl, rfl⟩ rfl rfl rfl rfl rfl (by kernel_rfl) Try.func10 (by kernel_rfl)
    (of_decide_eq_true (by kernel_rfl)) (by unfold Func.isWrapper; first | (rw [if_pos (by decide +kernel)]; kernel_rfl) | (rw [if_neg (by decide +kernel)]; exact ⟨rfl, rfl⟩))
    (fun os started H enc _ => ShareRises_lifted os started H enc)

end Go.Proofs.Ytpeidcjpkgcajaa

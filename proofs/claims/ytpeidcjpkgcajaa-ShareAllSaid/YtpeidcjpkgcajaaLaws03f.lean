/- The laws of layer 3, continued: ShareAll: for every input it returns true, and its arguments read as before. No further condition. -/
import Derived.Test.YtpeidcjpkgcajaaAllMath
import Derived.Test.YtpeidcjpkgcajaaLaws03d
namespace Go.Proofs.Ytpeidcjpkgcajaa
open Go.ChangeShapes Go.WideShapes Go.ChangeAt Go.RowKit
open Go.ChangeMaps (open_string shut_string)
open FM
set_option linter.unusedVariables false

/-- So many weights of 1. -/
def ones (n : Nat) : List Nat := List.replicate n 4607182418800017408
theorem ones_length (n : Nat) : (ones n).length = n := by simp [ones]
theorem ones_snoc (n : Nat) : ones n ++ [4607182418800017408] = ones (n + 1) := by
  unfold ones
  rw [List.replicate_succ']
theorem ones_lt (n : Nat) : ∀ b ∈ ones n, b < 18446744073709551616 := by
  intro b hb
  rw [List.eq_of_mem_replicate hb]
  decide
theorem ones_take (n k : Nat) (h : k ≤ n) : (ones n).take k = ones k := by
  unfold ones
  rw [List.take_replicate, Nat.min_eq_left h]
theorem ones_sum : ∀ k, k < 202 → sums (ones k) = fN k
  | 0, _ => by decide
  | k + 1, h => by
    have ih := ones_sum k (by omega)
    unfold sums at *
    rw [← ones_snoc, List.foldl_append, ih]
    show ad (fN k) 4607182418800017408 = fN (k + 1)
    unfold ad
    rw [fN_one k (by omega)]; rfl
theorem ones_ok (n : Nat) (h0 : 0 < n) (h : n < 202) : okW (ones n) = true := by
  unfold okW
  rw [ones_sum n h, Bool.and_eq_true]
  refine ⟨?_, ?_⟩
  · rw [List.all_eq_true]
    intro b hb
    rw [List.eq_of_mem_replicate hb]
    decide
  · have := fN_facts n h
    exact decide_eq_true ⟨by have := this.2.1 h0; omega, this.1⟩

theorem gt_nat' (x y : Nat) (hx : x < 9218868437227405312) (hy : y < 9218868437227405312) : gtB x y = decide (y < x) := by
  show (D.order x y == some .gt) = _
  rw [gt_key x y (by omega) (by omega) (decide_eq_false (by omega)) (decide_eq_false (by omega)), key_pos (by omega), key_pos (by omega)]
  simp

theorem pick_ones (n i b : Nat) (hn : n ≤ 200) (hi : i < n) (h1 : fN i ≤ b) (h2 : b < fN (i + 1)) (hb : b < 9218868437227405312) : ∀ f k, f + k = n → k ≤ i → pickF b (ones n) f k = i
  | 0, k, h, hk => by omega
  | f + 1, k, h, hk => by
    have hk1 := fN_facts (k + 1) (by omega)
    show (if gtB (sums ((ones n).take (k + 1))) b = true then k else pickF b (ones n) f (k + 1)) = i
    rw [ones_take n (k + 1) (by omega), ones_sum (k + 1) (by omega), gt_nat' _ _ hk1.1 hb]
    rcases Nat.lt_or_eq_of_le hk with h3 | h3
    · have := fN_le (k + 1) i (by omega) (by omega)
      rw [decide_eq_false (by omega), if_neg (by decide)]
      exact pick_ones n i b hn hi h1 h2 hb f (k + 1) (by omega) (by omega)
    · subst h3
      rw [decide_eq_true h2, if_pos rfl]

/-- A whole number's float. -/
theorem fi_fN : ∀ i : Nat, i < 202 → floatOfInt .f64 (i : Int) = fN i := by decide +kernel

theorem choose_ones (n i p : Nat) (hn : n ≤ 200) (hi : i < n) (hp : D.div (hN i) (fN n) = some p) : p < 18446744073709551616 ∧ chooseR p (ones n) = ((i : Int), 0) := by
  obtain ⟨p', b, h1, h2, h3, h4, h5, h6⟩ := all_part n i hn hi
  rw [hp] at h1
  cases h1
  refine ⟨by omega, ?_⟩
  have hok := ones_ok n (by omega) (by omega)
  have hpp : partOK p = true := decide_eq_true (.inl h2)
  have hb : prod p (sums (ones n)) = b := by
    rw [ones_sum n (by omega)]
    unfold prod
    rw [h3]; rfl
  have e : chooseR p (ones n) = (((pick (prod p (sums (ones n))) (ones n) : Nat) : Int), 0) := by simp [chooseR, hok, hpp]
  rw [e, hb]
  unfold pick
  rw [ones_length, pick_ones n i b hn hi h4 h5 h6 n 0 (by omega) (by omega)]

set_option maxHeartbeats 2000000 in
theorem all_in (n i : Nat) (hn : n ≤ 200) (hi : i < n) (w : World) :
    Calls Try.prog 13 #[.int .i64 n, .int .i64 i] w fun e w' => e = .returned (.bool true) ∧ Below w.heap.size w w' := by
  obtain ⟨i0, hi0, hz0, hz1, hz2⟩ := info_parts info_f64
  obtain ⟨p, -, hp, -⟩ := all_part n i hn hi
  obtain ⟨hpl, hc⟩ := choose_ones n i p hn hi hp
  have c1 : floatBits .add .f64 (fN i) 4602678819172646912 = some (hN i) := fN_half i (by omega)
  have c2 : floatBits .quo .f64 (hN i) (fN n) = some p := hp
  have e1 : floatOfInt .f64 (i : Int) = fN i := fi_fN i (by omega)
  have e2 : floatOfInt .f64 (n : Int) = fN n := fi_fN n (by omega)
  have hch := fun ao cap w hb => choose_any p hpl ao n cap (ones n) w hb
  rw [hc] at hch
  clear hc hp
  generalize fN i = x at *
  generalize fN n = y at *
  generalize hN i = z at *
  have d1 : decide ((n : Int) < 1) = false := decide_eq_false (by omega)
  have d2 : decide (200 < (n : Int)) = false := decide_eq_false (by omega)
  have d3 : decide ((i : Int) < 0) = false := decide_eq_false (by omega)
  have d4 : decide (n ≤ i) = false := decide_eq_false (by omega)
  have c1 := W_hid c1
  have c2 := W_hid c2
  go_enter Try.func13, Try.ntmps13
  go_wp2_with fail
  refine (head_choose _ _).mono ?_
  rintro e w1 ⟨rfl, bel1⟩
  go_wp2_with fail
  go_loopw [7, 8] (fun v i wr => ∃ k : Nat, k ≤ n ∧ i = .int .i64 k ∧ wr.ownsRow w.heap.size 23 1 v k (fcel (ones k)) ∧ Below w.heap.size w wr) (fun _ i _ => n - (intOf i).toNat)
  case atStart => exact ⟨0, Nat.zero_le _, rfl, World.ownsRow_nil _ _ _ _, bel1⟩
  case round =>
    obtain ⟨k, hk, rfl, hown, bel⟩ := hrel
    by_cases hlt : k < n
    · go_wp2_with (at_builtin; refine wpList_append_own_wide _ rfl (.tmp 38) (.tmp 39) 38 rfl w.heap.size 23 i0 (.float .f64 0) 1 8 Try.underlying38 hi0 hz0 hz1 hz2 rfl (by decide) u7 k (fcel (ones k)) rfl (hown.alloc _) ⟨wr.heap.size, 0, none⟩ 1 1 [fl 4607182418800017408] rfl rfl (cell_one_new _ _ _) (by intro u hu; simp at hu; subst hu; rfl) (by unfold maxLen; omega) (by omega) (by simp; have := bel.size; omega) ?_; intro v2 w2 hown2 hgrow2 hnn)
      have hown3 : w2.ownsRow w.heap.size 23 1 v2 (k + 1) (fcel (ones (k + 1))) := by rw [← ones_snoc, fcel_append]; exact hown2
      have bel3 : Below w.heap.size w w2 := (bel.alloc bel.size _).grown hgrow2 (by simp; have := bel.size; omega) (fun g hg => own_ge hown g hg)
      clear hown2 hgrow2 hnn hown bel
      go_wp2
      go_roundw
      case rel => exact ⟨k + 1, by omega, by go_num, hown3, bel3⟩
      case measure => simp [intOf]; omega
    · have hkn : k = n := by omega
      subst hkn
      obtain ⟨ao, cap, rfl, hfs⟩ := Fsl_of_own hown (ones_lt k)
      have hcall := hch ao cap _ hfs
      clear hown hfs hch
      go_wp2_with (first
        | (with_reducible show wpList _ _ _ _ _ _; refine wpList_float_some (x := .tmp 43) rfl rfl (.inl rfl) rfl rfl c1.out ?_)
        | (with_reducible show wpList _ _ _ _ _ _; refine wpList_float_some (x := .tmp 44) rfl rfl (.inr (.inr rfl)) rfl rfl c2.out ?_))
      refine hcall.mono ?_
      rintro e w3 ⟨rfl, bel3⟩
      have bel' := bel.trans (bel3.mono bel.size)
      go_wp2_with fail
      go_ret
      exact ⟨rfl, bel'⟩

set_option maxHeartbeats 1000000 in
theorem all_out (a b : Int) (h : a < 1 ∨ 200 < a ∨ b < 0 ∨ a ≤ b) (w : World) :
    Calls Try.prog 13 #[.int .i64 a, .int .i64 b] w fun e w' => e = .returned (.bool true) ∧ Below w.heap.size w w' := by
  rcases (by omega : a < 1 ∨ (¬ a < 1 ∧ 200 < a) ∨ (¬ a < 1 ∧ ¬ 200 < a ∧ b < 0) ∨ (¬ a < 1 ∧ ¬ 200 < a ∧ ¬ b < 0 ∧ a ≤ b)) with h1 | ⟨h1, h2⟩ | ⟨h1, h2, h3⟩ | ⟨h1, h2, h3, h4⟩
  all_goals
    clear h
    go_enter Try.func13, Try.ntmps13
    go_wp2_with fail
    refine (head_choose _ _).mono ?_
    rintro e w1 ⟨rfl, bel1⟩
    go_wp2_with fail
    go_ret
    exact ⟨rfl, bel1⟩

theorem ShareAll_walk (a0 a1 : Int) (w : World) (w0 : (Lit.int .i64 a0).wf = true) (w1 : (Lit.int .i64 a1).wf = true) :
    Calls Try.prog 13 #[.int .i64 a0, .int .i64 a1] w fun e w' => e = .returned (.bool true) ∧ Below w.heap.size w w' := by
  by_cases h : a0 < 1 ∨ 200 < a0 ∨ a1 < 0 ∨ a0 ≤ a1
  · exact all_out a0 a1 h w
  · obtain ⟨n, rfl⟩ : ∃ n : Nat, a0 = n := ⟨a0.toNat, by omega⟩
    obtain ⟨i, rfl⟩ : ∃ i : Nat, a1 = i := ⟨a1.toNat, by omega⟩
    exact all_in n i (by omega) (by omega) w

set_option maxRecDepth 100000 in
theorem ShareAll_lifted (os : Os) (started : os.Started) (H : Type) (enc : TypeId × Value → H) :
    ReturnsInHanded {} Try.checked os 13 .any (Rows.shareAllSpec.pre6 enc Try.prog Try.f13 Rows.shareAllRow.domain false) (Rows.shareAllSpec.post enc Try.prog Try.f13 false true false false) := by
  refine returnsInHanded_of_change (C := Try.checked) (by kernel_rfl) started (by kernel_rfl) Try.func13
    (ChangeSpec.witness6 (enc := enc) (C := Try.checked) false ⟨#[], #[.int .i64 0, .int .i64 0], []⟩ 8 (by kernel_rfl) (by kernel_rfl) (by kernel_rfl) (by kernel_rfl)) ?_
  intro W base args ds gs before hval0 hW hcnd _
  have hval : ∀ (j : Nat) t v, Try.f13.params[j]? = some t → args[j]? = some v → Value.okWide Try.prog W .any base t v := hval0
  have hW' := hW
  obtain ⟨p, q, hA0, hV, rfl, hfz, hnd⟩ := hW
  have hA : DataW.TrodAll enc Try.prog W 0 (fun _ => true) true Try.f13.params.toList args.toList ds p := hA0
  rw [Try.params13] at hA hval
  obtain ⟨v0, vs0, d0, ds0, p0, q0, hargs, rfl, rfl, h0, r0⟩ := trodAll_cons hA
  obtain ⟨v1, vs1, d1, ds1, p1, q1, rfl, rfl, rfl, h1, r1⟩ := trodAll_cons r0
  obtain ⟨rfl, rfl, rfl⟩ := trodAll_nil r1
  obtain rfl : args = #[v0, v1] := by cases args; simp_all
  obtain ⟨rfl, rfl⟩ := trodVars_none hV
  obtain ⟨a0, rfl, rfl, rfl, w0⟩ := open_int Try.underlying3 (hval 0 3 v0 rfl rfl) h0
  obtain ⟨a1, rfl, rfl, rfl, w1⟩ := open_int Try.underlying3 (hval 1 3 v1 rfl rfl) h1
  clear hA0 hval0
  refine (ShareAll_walk a0 a1 W w0 w1).mono fun e W' ⟨he, bel⟩ => ?_
  subst he
  exact ⟨_, rfl, _, _, _, [], _, [], hW', trodAll_mk1 (shut_bool Try.underlying4 _), (trodAll_cons_mk (shut_int Try.underlying3 w0) (trodAll_cons_mk (shut_int Try.underlying3 w1) trodAll_mk0)), rfl, bel.frame _, fun h => by cases h⟩

/-- The given statement of ShareAll. -/
theorem ShareAll_holds : Rows.ShareAllSaid :=
  OpenClaim.holds_of_wide 13 Try.f13 rfl rfl rfl rfl rfl rfl rfl ⟨rfl, rfl, rfl, rfl, rfl⟩ rfl rfl rfl rfl rfl (by kernel_rfl) Try.func13 (by kernel_rfl)
    (of_decide_eq_true (by kernel_rfl)) (by unfold Func.isWrapper; first | (rw [if_pos (by decide +kernel)]; kernel_rfl) | (rw [if_neg (by decide +kernel)]; exact ⟨rfl, rfl⟩))
    (fun os started H enc _ => ShareAll_lifted os started H enc)

end Go.Proofs.Ytpeidcjpkgcajaa

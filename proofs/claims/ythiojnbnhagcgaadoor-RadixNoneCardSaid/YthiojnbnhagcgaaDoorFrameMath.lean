/- Frames as a function that says which are taken: words of marks, runs, the lowest run that is free, counts; free of any program. -/
import Derived.Test.YthiojnbnhagcgaaDoorWordMath
namespace Go.Proofs.YthiojnbnhagcgaaDoor
set_option linter.unusedVariables false
set_option linter.unusedSimpArgs false
namespace FR

/-- A word of marks: bit j of word q is that of frame 64 q + j. -/
def wd (T : Nat → Bool) (q : Nat) : Nat := WM.sum (fun j => (T (64 * q + j)).toNat) 64
/-- All frames of a run are so. -/
def All (T : Nat → Bool) (f k : Nat) (h : Bool) : Prop := ∀ i, i < k → T (f + i) = h
/-- A run made so. -/
def st (T : Nat → Bool) (f k : Nat) (h : Bool) : Nat → Bool := fun x => if f ≤ x ∧ x < f + k then h else T x
def want (h : Bool) (W : Nat) : Nat := if h then 2 ^ W - 1 else 0
/-- How many of a run are taken. -/
def cnt (T : Nat → Bool) (f : Nat) : Nat → Nat
  | 0 => 0
  | k + 1 => cnt T f k + (T (f + k)).toNat

theorem toNat_lt (b : Bool) : b.toNat < 2 := by cases b <;> decide

theorem bit_sum (b : Nat → Nat) (hb : ∀ i, b i < 2) (k i : Nat) (hi : i < k) : WM.bit (WM.sum b k) i = b i := by
  induction k with
  | zero => omega
  | succ k ih =>
    have hl := WM.sum_lt b hb k
    have hbk := hb k
    simp only [WM.sum]
    by_cases h : i = k
    · subst h
      unfold WM.bit
      rw [Nat.add_mul_div_right _ _ (Nat.two_pow_pos i), Nat.div_eq_of_lt hl, Nat.zero_add, Nat.mod_eq_of_lt hbk]
    · have := ih (by omega)
      rw [← this]
      unfold WM.bit
      obtain ⟨d, hd⟩ : ∃ d, k = i + (d + 1) := ⟨k - i - 1, by omega⟩
      have e : b k * 2 ^ k = (b k * 2 ^ (d + 1)) * 2 ^ i := by rw [hd, Nat.pow_add, Nat.mul_assoc, Nat.mul_comm (2 ^ i)]
      rw [e, Nat.add_mul_div_right _ _ (Nat.two_pow_pos i), Nat.pow_succ, ← Nat.mul_assoc, Nat.add_mul_mod_self_right]

theorem wd_lt (T : Nat → Bool) (q : Nat) : wd T q < 18446744073709551616 := by
  have := WM.sum_lt (fun j => (T (64 * q + j)).toNat) (fun i => toNat_lt _) 64
  simpa [wd] using this
theorem wd_bit (T : Nat → Bool) (q j : Nat) (hj : j < 64) : (wd T q).testBit j = T (64 * q + j) := by
  rw [WM.testBit_bit]
  unfold wd
  rw [bit_sum _ (fun i => toNat_lt _) 64 j hj]
  cases T (64 * q + j) <;> rfl
theorem ext64 {x y : Nat} (hx : x < 18446744073709551616) (hy : y < 18446744073709551616) (h : ∀ j, j < 64 → x.testBit j = y.testBit j) : x = y := by
  apply Nat.eq_of_testBit_eq
  intro j
  by_cases hj : j < 64
  · exact h j hj
  · rw [WM.testBit_big x j hx (by omega), WM.testBit_big y j hy (by omega)]

theorem want_bit (h : Bool) (W i : Nat) : (want h W).testBit i = (decide (i < W) && h) := by
  unfold want
  cases h
  · simp
  · simp [Nat.testBit_two_pow_sub_one]
theorem want_lt (h : Bool) (W : Nat) : want h W < 2 ^ W := by
  have := Nat.two_pow_pos W
  unfold want; split <;> omega
theorem want_64 (h : Bool) : want h 64 < 18446744073709551616 := by have := want_lt h 64; simpa using this

theorem take_want (T : Nat → Bool) (q r W : Nat) (h : Bool) (hr : r + W ≤ 64) : WM.take (wd T q) r W = want h W ↔ All T (64 * q + r) W h := by
  constructor
  · intro e j hj
    have := congrArg (fun x => x.testBit j) e
    simp only [WM.take_testBit, want_bit, hj, decide_true, Bool.true_and] at this
    rw [wd_bit T q (r + j) (by omega)] at this
    rw [← this, Nat.add_assoc]
  · intro e
    apply Nat.eq_of_testBit_eq
    intro j
    rw [WM.take_testBit, want_bit]
    by_cases hj : j < W
    · have := e j hj
      simp only [hj, decide_true, Bool.true_and]
      rw [wd_bit T q (r + j) (by omega), ← this, Nat.add_assoc]
    · simp [hj]

theorem take_all (h : Bool) (W : Nat) (hW : W ≤ 64) : WM.take (want h 64) 0 W = want h W := by
  apply Nat.eq_of_testBit_eq
  intro j
  rw [WM.take_testBit, want_bit, want_bit]
  by_cases hj : j < W
  · have : j < 64 := by omega
    simp [hj, this]
  · simp [hj]

theorem put_wd (T : Nat → Bool) (q r W : Nat) (h : Bool) (hr : r + W ≤ 64) : WM.put (wd T q) r W (want h W) = wd (st T (64 * q + r) W h) q := by
  refine ext64 (WM.put_lt _ _ _ _ (wd_lt T q) hr (want_lt h W)) (wd_lt _ _) fun j hj => ?_
  rw [WM.put_testBit _ _ _ _ _ (wd_lt T q) hr (want_lt h W), wd_bit _ _ _ hj, wd_bit _ _ _ hj, want_bit]
  unfold st
  by_cases c : r ≤ j ∧ j < r + W
  · rw [if_pos c, if_pos (by omega)]
    have : j - r < W := by omega
    simp [this]
  · rw [if_neg c, if_neg (by omega)]

theorem wd_congr (T U : Nat → Bool) (q : Nat) (h : ∀ j, j < 64 → T (64 * q + j) = U (64 * q + j)) : wd T q = wd U q :=
  ext64 (wd_lt _ _) (wd_lt _ _) fun j hj => by rw [wd_bit _ _ _ hj, wd_bit _ _ _ hj, h j hj]
theorem wd_other (T : Nat → Bool) (q q' r W : Nat) (h : Bool) (hr : r + W ≤ 64) (hq : q' ≠ q) : wd (st T (64 * q + r) W h) q' = wd T q' := by
  refine wd_congr _ _ _ fun j hj => ?_
  unfold st
  rw [if_neg (by omega)]
theorem wd_free (q : Nat) : wd (fun _ => false) q = 0 := by
  refine ext64 (wd_lt _ _) (by decide) fun j hj => ?_
  rw [wd_bit _ _ _ hj]; simp
theorem wd_full (T : Nat → Bool) (q : Nat) : wd T q = 18446744073709551615 ↔ All T (64 * q) 64 true := by
  have h := take_want T q 0 64 true (by omega)
  have e1 : WM.take (wd T q) 0 64 = wd T q := by
    unfold WM.take
    rw [Nat.pow_zero, Nat.div_one]
    exact Nat.mod_eq_of_lt (by simpa using wd_lt T q)
  rw [e1] at h
  exact h

theorem st_zero (T : Nat → Bool) (f : Nat) (h : Bool) : st T f 0 h = T := by
  funext x; unfold st; rw [if_neg (by omega)]
theorem st_step (T : Nat → Bool) (f a W : Nat) (h : Bool) : st (st T f a h) (f + a) W h = st T f (a + W) h := by
  funext x; unfold st
  by_cases c : f ≤ x ∧ x < f + (a + W)
  · rw [if_pos c]
    by_cases d : f + a ≤ x ∧ x < f + a + W
    · rw [if_pos d]
    · rw [if_neg d, if_pos (by omega)]
  · rw [if_neg c, if_neg (by omega), if_neg (by omega)]
theorem st_in (T : Nat → Bool) (f k : Nat) (h : Bool) : All (st T f k h) f k h := by
  intro i hi; unfold st; rw [if_pos (by omega)]
theorem st_out (T : Nat → Bool) (f k x : Nat) (h : Bool) (hx : ¬ (f ≤ x ∧ x < f + k)) : st T f k h x = T x := by
  unfold st; rw [if_neg hx]
theorem st_back (T : Nat → Bool) (f k : Nat) (h h' : Bool) (ha : All T f k h') : st (st T f k h) f k h' = T := by
  funext x; unfold st
  by_cases c : f ≤ x ∧ x < f + k
  · rw [if_pos c]
    have := ha (x - f) (by omega)
    rw [show f + (x - f) = x by omega] at this
    exact this.symm
  · rw [if_neg c, if_neg c]

theorem all_parts (T : Nat → Bool) (f k W R : Nat) (h : Bool) (hk : k = R * W) : All T f k h ↔ ∀ i, i < R → All T (f + i * W) W h := by
  subst hk
  constructor
  · intro a i hi j hj
    rw [Nat.add_assoc]
    refine a _ ?_
    calc i * W + j < i * W + W := by omega
      _ = (i + 1) * W := by rw [Nat.add_mul, Nat.one_mul]
      _ ≤ R * W := Nat.mul_le_mul_right _ hi
  · intro a x hx
    have hW : 0 < W := by
      rcases Nat.eq_zero_or_pos W with h0 | h0
      · rw [h0, Nat.mul_zero] at hx; omega
      · exact h0
    have h1 : x / W < R := by rw [Nat.div_lt_iff_lt_mul hW]; exact hx
    have h2 := a (x / W) h1 (x % W) (Nat.mod_lt _ hW)
    have h3 := Nat.div_add_mod x W
    rw [Nat.mul_comm] at h3
    rw [show f + x / W * W + x % W = f + x by omega] at h2
    exact h2

/-! Lengths of runs. -/
def Run (k : Nat) : Prop := ∃ j, j ≤ 9 ∧ k = 2 ^ j
theorem run_ten {k : Nat} (h : Run k) : k = 1 ∨ k = 2 ∨ k = 4 ∨ k = 8 ∨ k = 16 ∨ k = 32 ∨ k = 64 ∨ k = 128 ∨ k = 256 ∨ k = 512 := by
  obtain ⟨j, hj, rfl⟩ := h
  match j, hj with
  | 0, _ => decide
  | 1, _ => decide
  | 2, _ => decide
  | 3, _ => decide
  | 4, _ => decide
  | 5, _ => decide
  | 6, _ => decide
  | 7, _ => decide
  | 8, _ => decide
  | 9, _ => decide
theorem ten_run {k : Nat} (h : k = 1 ∨ k = 2 ∨ k = 4 ∨ k = 8 ∨ k = 16 ∨ k = 32 ∨ k = 64 ∨ k = 128 ∨ k = 256 ∨ k = 512) : Run k := by
  rcases h with rfl | rfl | rfl | rfl | rfl | rfl | rfl | rfl | rfl | rfl
  · exact ⟨0, by decide, rfl⟩
  · exact ⟨1, by decide, rfl⟩
  · exact ⟨2, by decide, rfl⟩
  · exact ⟨3, by decide, rfl⟩
  · exact ⟨4, by decide, rfl⟩
  · exact ⟨5, by decide, rfl⟩
  · exact ⟨6, by decide, rfl⟩
  · exact ⟨7, by decide, rfl⟩
  · exact ⟨8, by decide, rfl⟩
  · exact ⟨9, by decide, rfl⟩
theorem run_le {k : Nat} (h : Run k) : 1 ≤ k ∧ k ≤ 512 := by have := run_ten h; omega
theorem run_ones {k : Nat} (h : Run k) : WM.ones k 64 = 1 := by
  obtain ⟨j, hj, rfl⟩ := h
  exact WM.ones_pow j 64 (by omega)
theorem ones_run {k : Nat} (h1 : 1 ≤ k) (h2 : k ≤ 512) (h : WM.ones k 64 = 1) : Run k := by
  obtain ⟨j, hj, rfl⟩ := WM.power k (by omega) h
  refine ⟨j, ?_, rfl⟩
  rcases Nat.lt_or_ge 9 j with hlt | hge
  · have : 2 ^ 10 ≤ 2 ^ j := Nat.pow_le_pow_right (by decide) hlt
    omega
  · exact hge
/-- How a run lies in its words: W marks in each of R. -/
theorem run_lie {k : Nat} (h : Run k) : ∃ W R, min k 64 = W ∧ 1 ≤ W ∧ W ≤ 64 ∧ 1 ≤ R ∧ R ≤ 8 ∧ k / W = R ∧ k = R * W ∧ ∀ f, f % k = 0 → f % 64 + W ≤ 64 ∧ ∀ i, i < R → 64 * (f / 64 + i) + f % 64 = f + i * W := by
  rcases run_ten h with rfl | rfl | rfl | rfl | rfl | rfl | rfl | rfl | rfl | rfl
  · exact ⟨1, 1, rfl, by decide, by decide, by decide, by decide, rfl, rfl, fun f hf => ⟨by omega, fun i hi => by omega⟩⟩
  · exact ⟨2, 1, rfl, by decide, by decide, by decide, by decide, rfl, rfl, fun f hf => ⟨by omega, fun i hi => by omega⟩⟩
  · exact ⟨4, 1, rfl, by decide, by decide, by decide, by decide, rfl, rfl, fun f hf => ⟨by omega, fun i hi => by omega⟩⟩
  · exact ⟨8, 1, rfl, by decide, by decide, by decide, by decide, rfl, rfl, fun f hf => ⟨by omega, fun i hi => by omega⟩⟩
  · exact ⟨16, 1, rfl, by decide, by decide, by decide, by decide, rfl, rfl, fun f hf => ⟨by omega, fun i hi => by omega⟩⟩
  · exact ⟨32, 1, rfl, by decide, by decide, by decide, by decide, rfl, rfl, fun f hf => ⟨by omega, fun i hi => by omega⟩⟩
  · exact ⟨64, 1, rfl, by decide, by decide, by decide, by decide, rfl, rfl, fun f hf => ⟨by omega, fun i hi => by omega⟩⟩
  · exact ⟨64, 2, rfl, by decide, by decide, by decide, by decide, rfl, rfl, fun f hf => ⟨by omega, fun i hi => by omega⟩⟩
  · exact ⟨64, 4, rfl, by decide, by decide, by decide, by decide, rfl, rfl, fun f hf => ⟨by omega, fun i hi => by omega⟩⟩
  · exact ⟨64, 8, rfl, by decide, by decide, by decide, by decide, rfl, rfl, fun f hf => ⟨by omega, fun i hi => by omega⟩⟩
/-- How the runs of one length lie in groups of S frames: G in each, and a word that is full has none. -/
theorem run_step {k : Nat} (h : Run k) : ∃ S G, max k 64 = S ∧ 64 ≤ S ∧ S ≤ 512 ∧ S % 64 = 0 ∧ 512 % S = 0 ∧ 1 ≤ G ∧ G ≤ 64 ∧ S / k = G ∧ S = G * k ∧ k ≤ S ∧ S % k = 0 ∧
    (∀ F f, F % S = 0 → f % k = 0 → F ≤ f → f < F + S → f < F + 64) ∧ (∀ F f, F % k = 0 → f % k = 0 → F ≤ f → f < F + k → f = F) := by
  rcases run_ten h with rfl | rfl | rfl | rfl | rfl | rfl | rfl | rfl | rfl | rfl
  · exact ⟨64, 64, by decide, by decide, by decide, by decide, by decide, by decide, by decide, by decide, by decide, by decide, by decide, fun F f _ _ _ _ => by omega, fun F f _ _ _ _ => by omega⟩
  · exact ⟨64, 32, by decide, by decide, by decide, by decide, by decide, by decide, by decide, by decide, by decide, by decide, by decide, fun F f _ _ _ _ => by omega, fun F f _ _ _ _ => by omega⟩
  · exact ⟨64, 16, by decide, by decide, by decide, by decide, by decide, by decide, by decide, by decide, by decide, by decide, by decide, fun F f _ _ _ _ => by omega, fun F f _ _ _ _ => by omega⟩
  · exact ⟨64, 8, by decide, by decide, by decide, by decide, by decide, by decide, by decide, by decide, by decide, by decide, by decide, fun F f _ _ _ _ => by omega, fun F f _ _ _ _ => by omega⟩
  · exact ⟨64, 4, by decide, by decide, by decide, by decide, by decide, by decide, by decide, by decide, by decide, by decide, by decide, fun F f _ _ _ _ => by omega, fun F f _ _ _ _ => by omega⟩
  · exact ⟨64, 2, by decide, by decide, by decide, by decide, by decide, by decide, by decide, by decide, by decide, by decide, by decide, fun F f _ _ _ _ => by omega, fun F f _ _ _ _ => by omega⟩
  · exact ⟨64, 1, by decide, by decide, by decide, by decide, by decide, by decide, by decide, by decide, by decide, by decide, by decide, fun F f _ _ _ _ => by omega, fun F f _ _ _ _ => by omega⟩
  · exact ⟨128, 1, by decide, by decide, by decide, by decide, by decide, by decide, by decide, by decide, by decide, by decide, by decide, fun F f _ _ _ _ => by omega, fun F f _ _ _ _ => by omega⟩
  · exact ⟨256, 1, by decide, by decide, by decide, by decide, by decide, by decide, by decide, by decide, by decide, by decide, by decide, fun F f _ _ _ _ => by omega, fun F f _ _ _ _ => by omega⟩
  · exact ⟨512, 1, by decide, by decide, by decide, by decide, by decide, by decide, by decide, by decide, by decide, by decide, by decide, fun F f _ _ _ _ => by omega, fun F f _ _ _ _ => by omega⟩

/-! The lowest run that is free. -/
def Low (T : Nat → Bool) (N k f : Nat) : Prop := f % k = 0 ∧ f + k ≤ N ∧ All T f k false ∧ ∀ f', f' < f → f' % k = 0 → ¬ All T f' k false
def NoLow (T : Nat → Bool) (N k : Nat) : Prop := ∀ f, f % k = 0 → f + k ≤ N → ¬ All T f k false
theorem low_or (T : Nat → Bool) (N k : Nat) : (∃ f, Low T N k f) ∨ NoLow T N k := by
  have key : ∀ B, (∃ f, Low T N k f) ∨ ∀ f, f < B → f % k = 0 → f + k ≤ N → ¬ All T f k false := by
    intro B
    induction B with
    | zero => exact .inr fun f hf => by omega
    | succ B ih =>
      rcases ih with h | h
      · exact .inl h
      · by_cases c : B % k = 0 ∧ B + k ≤ N ∧ All T B k false
        · exact .inl ⟨B, c.1, c.2.1, c.2.2, fun f' h1 h2 => h f' h1 h2 (by omega)⟩
        · refine .inr fun f h1 h2 h3 h4 => ?_
          rcases Nat.lt_or_ge f B with hlt | hge
          · exact h f hlt h2 h3 h4
          · obtain rfl : f = B := by omega
            exact c ⟨h2, h3, h4⟩
  rcases key (N + 1) with h | h
  · exact .inl h
  · exact .inr fun f h1 h2 h3 => h f (by omega) h1 h2 h3
theorem Low.wide {T : Nat → Bool} {N M k f : Nat} (h : Low T N k f) (hM : N ≤ M) : Low T M k f := ⟨h.1, Nat.le_trans h.2.1 hM, h.2.2.1, h.2.2.2⟩
theorem NoLow.wide {T : Nat → Bool} {N M k : Nat} (h : NoLow T N k) (h1 : 1 ≤ k) (hp : ∀ x, N ≤ x → x < M → T x = true) : NoLow T M k := by
  intro f h2 h3 h4
  rcases Nat.lt_or_ge N (f + k) with hlt | hge
  · have := h4 (k - 1) (by omega)
    rw [hp _ (by omega) (by omega)] at this
    cases this
  · exact h f h2 hge h4

/-- No run that begins below B is free. -/
def Non (T : Nat → Bool) (k B : Nat) : Prop := ∀ f, f < B → f % k = 0 → ¬ All T f k false
theorem Non.step {T : Nat → Bool} {k B : Nat} (h : Non T k B) (hu : ∀ F f, F % k = 0 → f % k = 0 → F ≤ f → f < F + k → f = F) (hB : B % k = 0) (hn : ¬ All T B k false) : Non T k (B + k) := by
  intro f h1 h2 h3
  rcases Nat.lt_or_ge f B with hlt | hge
  · exact h f hlt h2 h3
  · obtain rfl := hu B f hB h2 hge h1
    exact hn h3
theorem Non.full {T : Nat → Bool} {k S B : Nat} (h : Non T k B) (h1 : 1 ≤ k) (hu : ∀ F f, F % S = 0 → f % k = 0 → F ≤ f → f < F + S → f < F + 64) (hB : B % S = 0) (hf : All T B 64 true) : Non T k (B + S) := by
  intro f h2 h3 h4
  rcases Nat.lt_or_ge f B with hlt | hge
  · exact h f hlt h3 h4
  · have h5 := hu B f hB h3 hge h2
    have h6 := hf (f - B) (by omega)
    have h7 := h4 0 (by omega)
    rw [show B + (f - B) = f by omega] at h6
    rw [Nat.add_zero, h6] at h7
    cases h7
/-- What lowest answers. -/
def Ans (T : Nat → Bool) (N k a : Nat) (yes : Bool) : Prop := (yes = true ∧ Low T N k a) ∨ (yes = false ∧ a = 0 ∧ NoLow T N k)
theorem Ans.found {T : Nat → Bool} {N k a f : Nat} {yes : Bool} (h : Ans T N k a yes) (h1 : f % k = 0) (h2 : f + k ≤ N) (h3 : All T f k false) (h4 : Non T k f) : yes = true ∧ a = f := by
  rcases h with ⟨rfl, hl⟩ | ⟨-, -, hn⟩
  · refine ⟨rfl, ?_⟩
    rcases Nat.lt_trichotomy a f with hlt | e | hgt
    · exact absurd hl.2.2.1 (h4 a hlt hl.1)
    · exact e
    · exact absurd h3 (hl.2.2.2 f hgt h1)
  · exact absurd h3 (hn f h1 h2)
theorem Ans.none {T : Nat → Bool} {N k a : Nat} {yes : Bool} (h : Ans T N k a yes) (h1 : 1 ≤ k) (h4 : Non T k N) : yes = false ∧ a = 0 := by
  rcases h with ⟨rfl, hl⟩ | ⟨rfl, rfl, -⟩
  · exact absurd hl.2.2.1 (h4 a (by have := hl.2.1; omega) hl.1)
  · exact ⟨rfl, rfl⟩

/-! Counts. -/
theorem cnt_le (T : Nat → Bool) (f k : Nat) : cnt T f k ≤ k := by
  induction k with
  | zero => simp [cnt]
  | succ k ih => have := toNat_lt (T (f + k)); simp only [cnt]; omega
theorem cnt_congr (T U : Nat → Bool) (f k : Nat) (h : ∀ i, i < k → T (f + i) = U (f + i)) : cnt T f k = cnt U f k := by
  induction k with
  | zero => rfl
  | succ k ih => simp only [cnt]; rw [ih (fun i hi => h i (by omega)), h k (by omega)]
theorem cnt_add (T : Nat → Bool) (f a b : Nat) : cnt T f (a + b) = cnt T f a + cnt T (f + a) b := by
  induction b with
  | zero => rfl
  | succ b ih => rw [← Nat.add_assoc]; simp only [cnt]; rw [ih, Nat.add_assoc f a b]; omega
theorem cnt_all (T : Nat → Bool) (f k : Nat) (h : Bool) (ha : All T f k h) : cnt T f k = if h then k else 0 := by
  induction k with
  | zero => cases h <;> rfl
  | succ k ih =>
    simp only [cnt]
    rw [ih (fun i hi => ha i (by omega)), ha k (by omega)]
    cases h <;> simp
theorem cnt_zero (T : Nat → Bool) (f k : Nat) : cnt T f k = 0 ↔ All T f k false := by
  constructor
  · induction k with
    | zero => exact fun _ i hi => by omega
    | succ k ih =>
      intro h i hi
      simp only [cnt] at h
      by_cases e : i = k
      · subst e
        cases hT : T (f + i)
        · rfl
        · rw [hT] at h; simp at h
      · exact ih (by omega) i (by omega)
  · intro h; rw [cnt_all T f k false h]; rfl
theorem cnt_full (T : Nat → Bool) (f k : Nat) : cnt T f k = k ↔ All T f k true := by
  constructor
  · induction k with
    | zero => exact fun _ i hi => by omega
    | succ k ih =>
      intro h i hi
      have h1 := cnt_le T f k
      have h2 := toNat_lt (T (f + k))
      simp only [cnt] at h
      by_cases e : i = k
      · subst e
        cases hT : T (f + i)
        · rw [hT] at h; simp at h; omega
        · rfl
      · exact ih (by omega) i (by omega)
  · intro h; rw [cnt_all T f k true h]; rfl
theorem cnt_st (T : Nat → Bool) (n f k : Nat) (h : Bool) (hf : f + k ≤ n) : cnt (st T f k h) 0 n + cnt T f k = cnt T 0 n + if h then k else 0 := by
  obtain ⟨d, rfl⟩ : ∃ d, n = f + k + d := ⟨n - (f + k), by omega⟩
  rw [cnt_add, cnt_add, cnt_add T 0 (f + k) d, cnt_add T 0 f k, Nat.zero_add, Nat.zero_add]
  rw [cnt_all (st T f k h) f k h (st_in T f k h)]
  rw [cnt_congr (st T f k h) T 0 f (fun i hi => st_out T f k _ h (by omega)), cnt_congr (st T f k h) T (f + k) d (fun i hi => st_out T f k _ h (by omega))]
  omega

/-! What the calls do. -/
def RunI (k : Int) : Prop := ∃ q : Nat, k = q ∧ Run q
/-- Alloc: number a, error e, and what is taken then. -/
def Gets (T : Nat → Bool) (n : Nat) (k : Int) (a e : Nat) (T' : Nat → Bool) : Prop :=
  (e = 2 ∧ a = 0 ∧ T' = T ∧ ¬ RunI k) ∨ (e = 24 ∧ a = 0 ∧ T' = T ∧ ∃ q : Nat, k = q ∧ Run q ∧ NoLow T n q) ∨ (e = 0 ∧ ∃ q : Nat, k = q ∧ Run q ∧ Low T n q a ∧ T' = st T a q true)
/-- Free. -/
def Puts (T : Nat → Bool) (n f : Nat) (k : Int) (e : Nat) (T' : Nat → Bool) : Prop :=
  (e = 2 ∧ T' = T ∧ ¬ RunI k) ∨ (e = 2 ∧ T' = T ∧ ∃ q : Nat, k = q ∧ Run q ∧ ¬ (f % q = 0 ∧ f + q ≤ n)) ∨ (e = 101 ∧ T' = T ∧ ∃ q : Nat, k = q ∧ Run q ∧ f % q = 0 ∧ f + q ≤ n ∧ ¬ All T f q true) ∨
  (e = 0 ∧ ∃ q : Nat, k = q ∧ Run q ∧ f % q = 0 ∧ f + q ≤ n ∧ All T f q true ∧ T' = st T f q false)
theorem gets_some (T : Nat → Bool) (n : Nat) (k : Int) : ∃ a e T', Gets T n k a e T' := by
  by_cases h : RunI k
  · obtain ⟨q, hq, hr⟩ := h
    rcases low_or T n q with ⟨f, hf⟩ | hn
    · exact ⟨f, 0, _, .inr (.inr ⟨rfl, q, hq, hr, hf, rfl⟩)⟩
    · exact ⟨0, 24, T, .inr (.inl ⟨rfl, rfl, rfl, q, hq, hr, hn⟩)⟩
  · exact ⟨0, 2, T, .inl ⟨rfl, rfl, rfl, h⟩⟩
theorem puts_some (T : Nat → Bool) (n f : Nat) (k : Int) : ∃ e T', Puts T n f k e T' := by
  by_cases h : RunI k
  · obtain ⟨q, hq, hr⟩ := h
    by_cases h1 : f % q = 0 ∧ f + q ≤ n
    · by_cases h2 : All T f q true
      · exact ⟨0, _, .inr (.inr (.inr ⟨rfl, q, hq, hr, h1.1, h1.2, h2, rfl⟩))⟩
      · exact ⟨101, T, .inr (.inr (.inl ⟨rfl, rfl, q, hq, hr, h1.1, h1.2, h2⟩))⟩
    · exact ⟨2, T, .inr (.inl ⟨rfl, rfl, q, hq, hr, h1⟩)⟩
  · exact ⟨2, T, .inl ⟨rfl, rfl, h⟩⟩
theorem Gets.pad {T T' : Nat → Bool} {n m a e : Nat} {k : Int} (h : Gets T n k a e T') (hp : ∀ x, n ≤ x → x < m → T x = true) : ∀ x, n ≤ x → x < m → T' x = true := by
  intro x h1 h2
  rcases h with ⟨-, -, rfl, -⟩ | ⟨-, -, rfl, -⟩ | ⟨-, q, -, -, hl, rfl⟩
  · exact hp x h1 h2
  · exact hp x h1 h2
  · rw [st_out _ _ _ _ _ (by have := hl.2.1; omega)]; exact hp x h1 h2
theorem Puts.pad {T T' : Nat → Bool} {n m f e : Nat} {k : Int} (h : Puts T n f k e T') (hp : ∀ x, n ≤ x → x < m → T x = true) : ∀ x, n ≤ x → x < m → T' x = true := by
  intro x h1 h2
  rcases h with ⟨-, rfl, -⟩ | ⟨-, rfl, -⟩ | ⟨-, rfl, -⟩ | ⟨-, q, -, -, -, hl, -, rfl⟩
  · exact hp x h1 h2
  · exact hp x h1 h2
  · exact hp x h1 h2
  · rw [st_out _ _ _ _ _ (by omega)]; exact hp x h1 h2

end FR
end Go.Proofs.YthiojnbnhagcgaaDoor

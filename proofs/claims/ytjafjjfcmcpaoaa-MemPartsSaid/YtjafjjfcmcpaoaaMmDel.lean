/- Stage 18: slices.Delete of one number. -/
import Derived.Test.YtjafjjfcmcpaoaaMmMem
import Derived.Test.YtjafjjfcmcpaoaaRowCopy
import Derived.StillTail
import Derived.Lib.Overlaps
import Derived.Deep.DeepMust
import Derived.Deep.RegionHeld3
namespace Go.Proofs.Ytjafjjfcmcpaoaa
open Go.ChangeShapes Go.WideShapes Go.ChangeAt Go.RowKit
set_option linter.unusedVariables false
set_option linter.unusedSimpArgs false
set_option maxRecDepth 100000
namespace MC
open IN (lt_of_some)
open RL
abbrev delF : Nat := 30
abbrev TIs : TypeId := 23
theorem elem_ints : Try.prog.elem TIs = TI := by kernel_rfl
theorem own_cur {w : World} {base e size n g cap : Nat} {xs : List Value} (h : w.ownsRow base e size (.slice (some ⟨g, 0, none⟩) n cap) n xs) : ∃ cur : List Value, w.heap[g]? = some (.cells cur.toArray e (0, 0)) ∧ base ≤ g ∧ cur.length = cap * size ∧ cur.take (n * size) = xs ∧ n ≤ cap ∧ cap ≤ maxLen := by
  rcases h.2 with ⟨h2, h0⟩ | ⟨g', cap', cur, h2, hb, hg, hnc, hm, hcs, ht⟩
  · cases h2
  · cases h2; exact ⟨cur.toList, by simpa using hg, hb, by simpa using hcs, ht, hnc, hm⟩
theorem src_cells {w : World} {size m c : Nat} {ad : Addr} {ys : List Value} (h : Own.Src w size (.slice (some ad) m c) m ys) : ys.length = m * size ∧ ∀ j v, ys[j]? = some v → w.cell? (ad.add j) = some v := by
  rcases h with ⟨h1, -, -⟩ | ⟨ad', c', h1, h2, h3⟩
  · cases h1
  · cases h1; exact ⟨h2, h3⟩
theorem zint_one : ∀ v ∈ (Value.int .i64 0).cells, v.oneCell' = true := by
  intro v hv
  have e : (Value.int .i64 0).cells = #[.int .i64 0] := rfl
  rw [e] at hv
  simp at hv
  subst hv
  rfl
theorem slice_lh (W : World) (g m k cap len : Nat) (mm kk : Int) (hmm : mm = m) (hkk : kk = k) (h1 : m ≤ k) (h2 : k ≤ cap) (h3 : m < cap) :
    (Instr.slice TIs (.slice (some ⟨g, 0, none⟩) len cap) (some (.int .i64 mm)) (some (.int .i64 kk)) none).run Try.prog W = .ok (.slice (some ⟨g, m, none⟩) (k - m) (cap - m)) W := by
  subst hmm hkk
  obtain ⟨i0, hi0, -, hsize, -, -, -⟩ := info_int
  have hs : (sizeOf (Try.prog.elem TIs)).run Try.prog W = .ok 1 W := by rw [elem_ints]; simp [sizeOf, typeInfo, hi0, hsize]
  have hr := run_slice_lh (P := Try.prog) W TIs (some ⟨g, 0, none⟩) len cap (by rw [elem_ints]; exact und_ints) .i64 .i64 (m : Int) (k : Int) (by omega) (by omega) (by omega)
  rw [hs] at hr
  simp only [Result.andThen, sliced, Int.toNat_natCast, if_neg (show ¬ cap = m by omega), Option.map_some, Addr.add_lit, Nat.zero_add, Nat.mul_one] at hr
  exact hr
theorem slice_lhm (W : World) (t : TypeId) (g m k x cap len : Nat) (mm kk : Int) (hmm : mm = m) (hkk : kk = k) (h1 : m ≤ k) (h2 : k ≤ x) (h3 : x ≤ cap) (hu : Try.prog.underlying t = some (.slice (Try.prog.elem t))) (size : Nat) (hs : (sizeOf (Try.prog.elem t)).run Try.prog W = .ok size W) :
    (Instr.slice t (.slice (some ⟨g, 0, none⟩) len cap) (some (.int .i64 mm)) (some (.int .i64 kk)) (some (.int .i64 (x : Int)))).run Try.prog W = .ok (sliced (some ⟨g, 0, none⟩) m k x size) W := by
  subst hmm hkk
  have hr := run_slice_lhm (P := Try.prog) W t (some ⟨g, 0, none⟩) len cap hu .i64 .i64 .i64 (m : Int) (k : Int) (x : Int) (by omega) (by omega) (by omega) (by omega)
  rw [hs] at hr
  simpa only [Result.andThen, Int.toNat_natCast] using hr
section
variable {base : Nat} {w : World}
set_option maxRecDepth 100000 in
set_option maxHeartbeats 8000000 in
theorem delete_any {g m cap i : Nat} {xs : List Value} (hown : w.ownsRow base TI 1 (.slice (some ⟨g, 0, none⟩) (m + 1) cap) (m + 1) xs) (hx1 : ∀ u ∈ xs, u.oneCell' = true) (hn : m ≤ 60000) (hi : i ≤ m) :
    Calls Try.prog delF #[.slice (some ⟨g, 0, none⟩) (m + 1) cap, .int .i64 (i : Int), .int .i64 ((i : Int) + 1)] w fun e w' => e = .returned (.slice (some ⟨g, 0, none⟩) m cap) ∧ w'.ownsRow base TI 1 (.slice (some ⟨g, 0, none⟩) m cap) m (xs.take (i * 1) ++ xs.drop ((i + 1) * 1)) ∧ w.grownBy w' (some g) := by
  obtain ⟨cur, hcur, hbg, hcl, hct, hmc, hcm⟩ := own_cur hown
  have hxl := hown.1
  have hcm2 : cap ≤ 9223372036854775807 := by unfold maxLen at hcm; omega
  have hu : Try.prog.underlying TIs = some (.slice (Try.prog.elem TIs)) := by rw [elem_ints]; exact und_ints
  have hsz : ∀ W : World, (sizeOf (Try.prog.elem TIs)).run Try.prog W = .ok 1 W := fun W => by
    obtain ⟨i0, hi0, -, hsize, -, -, -⟩ := info_int
    rw [elem_ints]; simp [sizeOf, typeInfo, hi0, hsize]
  obtain ⟨v0, hv0⟩ : ∃ v, sliced (some ⟨g, 0, none⟩) i (i + 1) (m + 1) 1 = v := ⟨_, rfl⟩
  have hs0 : ∀ W : World, (Instr.slice TIs (.slice (some ⟨g, 0, none⟩) (m + 1) cap) (some (.int .i64 (i : Int))) (some (.int .i64 ((i : Int) + 1))) (some (.int .i64 ((m : Int) + 1)))).run Try.prog W = .ok v0 W := fun W => by
    have := slice_lhm W TIs g i (i + 1) (m + 1) cap (m + 1) (i : Int) ((i : Int) + 1) rfl (by omega) (by omega) (by omega) (by omega) hu 1 (hsz W)
    rw [hv0] at this
    exact this
  obtain ⟨ad, hs1, had, had2⟩ := Own.cut_lo (t := TIs) und_ints elem_ints info_int g 0 (m + 1) cap (i + 1) ((i : Int) + 1) (by omega) (by omega) hmc
  have hs2 := Own.cut_hi (t := TIs) und_ints elem_ints info_int (some ⟨g, 0, none⟩) (m + 1) cap i (by omega) hmc (.inr ⟨_, _, rfl⟩)
  have hs3 : ∀ W : World, (Instr.slice TIs (.slice (some ⟨g, 0, none⟩) m cap) (some (.int .i64 (m : Int))) (some (.int .i64 ((m : Int) + 1))) none).run Try.prog W =   .ok (.slice (some ⟨g, m, none⟩) 1 (cap - m)) W := fun W => by
    have := slice_lh W g m (m + 1) cap m (m : Int) ((m : Int) + 1) rfl (by omega) (by omega) hmc (by omega)
    rwa [show m + 1 - m = 1 by omega] at this
  have hc1 := W_hid (Own.cut hown (k := i) (by omega))
  have hsrc := src_cells (Own.src_drop hown (i + 1) (by omega) ad (cap - (i + 1)) had2)
  have hsl : Hid ((xs.drop ((i + 1) * 1)).length = (m - i) * 1) := W_hid (by rw [hsrc.1]; omega)
  have hsc : Hid (∀ j v, (xs.drop ((i + 1) * 1))[j]? = some v → w.drew.cell? (ad.add j) = some v) := W_hid hsrc.2
  have hdx : Hid (∀ u ∈ xs.drop ((i + 1) * 1), u.oneCell' = true) := W_hid fun u hu => hx1 u (List.mem_of_mem_drop hu)
  have hne : ¬ ((i : Int) = (i : Int) + 1) := by omega
  obtain ⟨X, hX⟩ : ∃ X, xs.take (i * 1) = X := ⟨_, rfl⟩
  obtain ⟨Y, hY⟩ : ∃ Y, xs.drop ((i + 1) * 1) = Y := ⟨_, rfl⟩
  rw [hX] at hc1 ⊢
  rw [hY] at hsl hsc hdx ⊢
  obtain ⟨adb, ado, ads⟩ := ad
  simp only at had
  subst had
  replace hcur := W_hid hcur
  have hcast : Hid (((m + 1 : Nat) : Int) = (m : Int) + 1) := W_hid (by omega)
  clear hX hY hx1 hown hct had2 hsrc hv0 hsz hu
  go_enter Try.func30, Try.ntmps30
  go_wp2_with fail
  go_region_held3 (fun w' => True) (trivial) ((go_must (refine step_spare rfl (.tmp 22) (.tmp 25) TIs rfl und_ints info_int base adb i cap X ⟨adb, ado, ads⟩ (m - i) (cap - (i + 1)) Y rfl rfl hc1.out hsl.out hsc.out hdx.out (by omega) ?_); intro w2 ho2 hg2; rw [show i + (m - i) = m by omega] at *; obtain ⟨cur2, hcur2, -, hcl2, hct2, -⟩ := own_cur ho2; have hcur2 := W_hid hcur2; have hcl2 := W_hid hcl2; have hct2 := W_hid hct2; have hg2 := W_hid (Own.undrew hg2)))
  go_wp2_with (with_reducible show wpList _ _ _ _ _ _; (refine wpList_clear_k rfl (.tmp 31) TIs rfl und_ints info_int zint_one adb m 1 (cap - m) (by decide) cur2 TI rfl hcur2.out (by rw [hcl2.out]; omega) ?_); intro w4 cs hcs hb4 hg4; have hb4 := W_hid hb4; have hg4 := W_hid hg4)
  go_ret
  refine ⟨rfl, own_of hbg hb4.out ?_ (by omega) hcm ?_, ?_⟩
  · rw [lay_len (by rw [hcs, hcl2.out]; omega), hcl2.out]
  · rw [Nat.mul_one, lay_take_lo (Nat.le_refl _) (by rw [hcl2.out]; omega)]
    have := hct2.out
    rwa [Nat.mul_one] at this
  · have h3 := hg2.out
    have h4 := hg4.out
    exact ⟨h4.os.trans h3.os, h4.tape.trans h3.tape, h4.output.trans h3.output, Nat.le_trans h3.size h4.size, fun k hk hne => (h4.block k (Nat.lt_of_lt_of_le hk h3.size) hne).trans (h3.block k hk hne)⟩
end
end MC
end Go.Proofs.Ytjafjjfcmcpaoaa

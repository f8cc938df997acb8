/- The law NamesIdle of layer 12 (package haywardlaw12): for every input it returns true, and its arguments read as before. No further condition. -/
import Derived.Test.YtmnmheocmcmpmaaGreatZX01
import Derived.Test.YtmnmheocmcmpmaaGreatZB10

namespace Go.Proofs.YtmnmheocmcmpmaaGreat
open Go.ChangeShapes Go.WideShapes Go.ChangeAt Go.RowKit Go.Maps
open Go.ChangeMaps (open_string shut_string)
set_option linter.unusedVariables false
set_option linter.unusedSimpArgs false
set_option maxRecDepth 100000 in
theorem open_op12 {H : Type} {enc : TypeId × Value → H} {W : World} {r : Reach} {b0 : Nat} {v : Value} {d : DataW H} {p : List MemPlace} (hv : Value.okWide Tryz.prog W r b0 40 v)
    (h : DataW.Trod enc Tryz.prog W 0 (fun _ => true) true 40 v d p) :
    ∃ (a : Int) (b c : ByteArray) (d : Int), v = .agg #[.int .i64 a, .string b, .string c, .int .i64 d] ∧ b.size ≤ maxLen ∧ c.size ≤ maxLen := by
  obtain ⟨cs, rfl, hsz⟩ := okWide_struct Tryz.underlying40 hv
  have hC : Tryz.prog.cellsOf 40 = 4 := by kernel_rfl
  rw [hC] at hsz
  obtain ⟨l, rfl⟩ : ∃ l : List Value, cs = l.toArray := ⟨cs.toList, by simp⟩
  have hlen : l.length = 4 := by simpa using hsz
  obtain ⟨fuel, hf⟩ := h
  obtain ⟨xs, k, hk, hxy, _, hxl, hff⟩ := DataW.trod_struct Tryz.underlying40 hf
  match xs, hxl, l, hlen with
  | [y0, y1, y2, y3], _, [v0, v1, v2, v3], _ =>
    have t0 : Tryz.prog.cellsOf 3 = 1 := by kernel_rfl
    have t1 : Tryz.prog.cellsOf 9 = 1 := by kernel_rfl
    have g0 := hff 0 _ rfl
    have g1 := hff 1 _ rfl
    have g2 := hff 2 _ rfl
    have g3 := hff 3 _ rfl
    simp [t0, t1, Value.cells] at g0 g1 g2 g3
    obtain ⟨z0, q0, -, -⟩ := DataW.trod_int Tryz.underlying3 g0
    obtain ⟨z1, q1, -, b1⟩ := DataW.trod_string Tryz.underlying9 g1
    obtain ⟨z2, q2, -, b2⟩ := DataW.trod_string Tryz.underlying9 g2
    obtain ⟨z3, q3, -, -⟩ := DataW.trod_int Tryz.underlying3 g3
    simp at q0 q1 q2 q3
    subst q0 q1 q2 q3
    exact ⟨z0, z1, z2, z3, rfl, b1, b2⟩
open RN
namespace NT
open IN (Keeps)
end NT
open NT
set_option maxRecDepth 100000 in
set_option maxHeartbeats 32000000 in
theorem NamesIdle_walk (o0 : Option Addr) (n0 c0 : Nat) (l0 : List OpT12) (a1 : Int) (b1 c1 : ByteArray) (d1 : Int) (w : World) (w0 : OS12 w o0 n0 c0 l0) (w1 : b1.size ≤ maxLen ∧ c1.size ≤ maxLen) :
    Calls Tryz.prog 6 #[.slice o0 n0 c0, .agg #[.int .i64 a1, .string b1, .string c1, .int .i64 d1]] w fun e w' => e = .returned (.bool true) ∧ Below w.heap.size w w' := by
  obtain ⟨hs1, hs2⟩ := w1
  have hslash : (⟨#[47]⟩ : ByteArray).size ≤ maxLen := by decide
  obtain ⟨W0, hW0⟩ : ∃ W0, w.alloc (.cells #[.int .i64 a1, .string b1, .string c1, .int .i64 d1] 40) = W0 := ⟨_, rfl⟩
  have hb0 : Below w.heap.size w W0 := by rw [← hW0]; exact (Below.refl _ _).alloc (Nat.le_refl _) _
  have hX0 : Blk W0 w.heap.size 40 [.int .i64 a1, .string b1, .string c1, .int .i64 d1] := by rw [← hW0]; exact Blk.new w _ [.int .i64 a1, .string b1, .string c1, .int .i64 d1] rfl
  have cS := W_hid (shown12 W0)
  have hops := W_hid (fun (W : World) (hb : Below w.heap.size w W) => show OS12 W o0 n0 c0 l0 from by
    obtain ⟨h1, h2, h3⟩ := w0
    refine ⟨h1, h2, fun j hj => ?_⟩
    obtain ⟨blk, off, e, hlt, k0, k1, k2, k3, z⟩ := h3 j hj
    have kk : ∀ {a : Nat} {u : Value}, w.cell? ⟨blk, a, none⟩ = some u → W.cell? ⟨blk, a, none⟩ = some u := fun {a u} hc => by rw [hb.cell (p := ⟨blk, a, none⟩) hlt]; exact hc
    exact ⟨blk, off, e, Nat.lt_of_lt_of_le hlt hb.size, kk k0, kk k1, kk k2, kk k3, z⟩)
  clear w0
  replace hb0 := W_hid hb0
  replace hX0 := W_hid hX0
  go_enter Tryz.func6, Tryz.ntmps6
  go_wp2_with fail
  replace hW0 := W_hid hW0
  refine cS.out.mono ?_
  rintro e w1 ⟨rfl, bb1⟩
  have B1 := W_hid (hb0.out.trans (bb1.mono hb0.out.size))
  have hX1 := W_hid (hX0.out.keep bb1)
  have cR := W_hid (run_any o0 n0 c0 l0 w1 (hops.out w1 B1.out))
  clear bb1 cS hX0 hb0 hops
  go_wp2_with fail
  refine cR.out.mono ?_
  rintro e w2 ⟨b1', tg, sg, mb, S, D, rfl, hb1, hP2, bb2⟩
  have hX2 := W_hid (hX1.out.keep bb2)
  have hB1 : w.heap.size ≤ b1' := Nat.le_trans B1.out.size hb1
  have B2 := W_hid (B1.out.trans (bb2.mono B1.out.size))
  have cA := W_hid (all_p w2 hP2)
  replace hP2 := W_hid hP2
  clear bb2 cR hX1 hb1 B1
  go_wp2_with fail
  refine cA.out.mono ?_
  rintro e w3 ⟨v3, rfl, ho3, bb3⟩
  obtain ⟨a3, k3, rfl⟩ := Own.form ho3
  have hX3 := W_hid (hX2.out.keep bb3)
  have hP3 := W_hid (hP2.out.keep bb3)
  have B3 := W_hid (B2.out.trans (bb3.mono B2.out.size))
  replace ho3 := W_hid ho3
  have cL := W_hid (list_p ⟨#[47]⟩ hslash w3 hP3.out (by decide))
  clear bb3 cA hX2 hP2 B2
  go_wp2_with fail
  refine cL.out.mono ?_
  rintro e w4 ⟨v4, rfl, hN4, bb4⟩
  obtain ⟨a4, k4, rfl⟩ := hN4.form
  have hX4 := W_hid (hX3.out.keep bb4)
  have hP4 := W_hid (hP3.out.keep bb4)
  have ho4 := W_hid (Own.below ho3.out bb4)
  have B4 := W_hid (B3.out.trans (bb4.mono B3.out.size))
  replace hN4 := W_hid hN4
  clear bb4 cL hX3 hP3 ho3 B3
  have y0 := hX4.out.cell (j := 0) rfl
  have y1 := hX4.out.cell (j := 1) rfl
  have y2 := hX4.out.cell (j := 2) rfl
  have y3 := hX4.out.cell (j := 3) rfl
  obtain ⟨hcs, hk1, hk2⟩ := kind7 a1
  obtain ⟨tm, htm⟩ : ∃ tm, a1.tmod 7 = tm := ⟨_, rfl⟩
  rw [htm] at hcs hk1 hk2
  have hlen1 : (IN.lst S 12).length ≤ 12 := IN.lst_len S 12
  have hlen2 := liK_len hP4.out.ti ⟨#[47]⟩
  rcases hcs with e0 | e0 | e0 | e0 | e0 | e0 | e0
  obtain ⟨r, hr⟩ : ∃ r, (mk 12 S D b1 d1).1.2 = r := ⟨_, rfl⟩
  obtain ⟨S', hS'⟩ : ∃ S', (mk 12 S D b1 d1).2.1 = S' := ⟨_, rfl⟩
  obtain ⟨D', hD'⟩ : ∃ D', (mk 12 S D b1 d1).2.2 = D' := ⟨_, rfl⟩
  have hsd : r ≠ 0 → S' = S ∧ D' = D := fun h => by
    have := mk_ne (S := S) (show (mk 12 S D b1 d1).1.2 ≠ 0 by rw [hr]; exact h)
    rw [this] at hS' hD'
    exact ⟨hS'.symm, hD'.symm⟩
  have cX := make_p b1 hs1 d1 w4 hP4.out (by decide)
  rw [hr, hS', hD'] at cX
  generalize (mk 12 S D b1 d1).1.1 = ax at cX
  replace cX := W_hid cX
  clear hr hS' hD'
  go_wp2_with fail
  refine cX.out.mono ?_
  rintro e w5 ⟨rfl, hP5, hK5⟩
  rotate_left
  obtain ⟨r, hr⟩ : ∃ r, (lnk 3 S D b1 c1).1 = r := ⟨_, rfl⟩
  obtain ⟨S', hS'⟩ : ∃ S', (lnk 3 S D b1 c1).2.1 = S' := ⟨_, rfl⟩
  obtain ⟨D', hD'⟩ : ∃ D', (lnk 3 S D b1 c1).2.2 = D' := ⟨_, rfl⟩
  have hsd : r ≠ 0 → S' = S ∧ D' = D := fun h => by
    have := lnk_ne (S := S) (show (lnk 3 S D b1 c1).1 ≠ 0 by rw [hr]; exact h)
    rw [this] at hS' hD'
    exact ⟨hS'.symm, hD'.symm⟩
  have cX := link_p b1 c1 hs1 hs2 w4 hP4.out (by decide)
  rw [hr, hS', hD'] at cX
  replace cX := W_hid cX
  clear hr hS' hD'
  go_wp2_with fail
  refine cX.out.mono ?_
  rintro e w5 ⟨rfl, hP5, hK5⟩
  rotate_left
  obtain ⟨r, hr⟩ : ∃ r, er (unlR D b1) = r := ⟨_, rfl⟩
  obtain ⟨S', hS'⟩ : ∃ S', (unlS S D b1).1 = S' := ⟨_, rfl⟩
  obtain ⟨D', hD'⟩ : ∃ D', (unlS S D b1).2 = D' := ⟨_, rfl⟩
  have hsd : r ≠ 0 → S' = S ∧ D' = D := fun h => by
    have := unl_ne (S := S) (show er (unlR D b1) ≠ 0 by rw [hr]; exact h)
    rw [this] at hS' hD'
    exact ⟨hS'.symm, hD'.symm⟩
  have cX := unlink_p b1 hs1 w4 hP4.out
  rw [hr, hS', hD'] at cX
  replace cX := W_hid cX
  clear hr hS' hD'
  go_wp2_with fail
  refine cX.out.mono ?_
  rintro e w5 ⟨rfl, hP5, hK5⟩
  rotate_left
  obtain ⟨r, hr⟩ : ∃ r, er (rmdR D b1) = r := ⟨_, rfl⟩
  obtain ⟨S', hS'⟩ : ∃ S', (rmdS S D b1).1 = S' := ⟨_, rfl⟩
  obtain ⟨D', hD'⟩ : ∃ D', (rmdS S D b1).2 = D' := ⟨_, rfl⟩
  have hsd : r ≠ 0 → S' = S ∧ D' = D := fun h => by
    have := rmd_ne (S := S) (show er (rmdR D b1) ≠ 0 by rw [hr]; exact h)
    rw [this] at hS' hD'
    exact ⟨hS'.symm, hD'.symm⟩
  have cX := rmdir_p b1 hs1 w4 hP4.out
  rw [hr, hS', hD'] at cX
  replace cX := W_hid cX
  clear hr hS' hD'
  go_wp2_with fail
  refine cX.out.mono ?_
  rintro e w5 ⟨rfl, hP5, hK5⟩
  rotate_left
  obtain ⟨r, hr⟩ : ∃ r, (ren S D b1 c1).1 = r := ⟨_, rfl⟩
  obtain ⟨S', hS'⟩ : ∃ S', (ren S D b1 c1).2.1 = S' := ⟨_, rfl⟩
  obtain ⟨D', hD'⟩ : ∃ D', (ren S D b1 c1).2.2 = D' := ⟨_, rfl⟩
  have hsd : r ≠ 0 → S' = S ∧ D' = D := fun h => by
    have := ren_ne (S := S) (show (ren S D b1 c1).1 ≠ 0 by rw [hr]; exact h)
    rw [this] at hS' hD'
    exact ⟨hS'.symm, hD'.symm⟩
  have cX := rename_p b1 c1 hs1 hs2 w4 hP4.out (by decide)
  rw [hr, hS', hD'] at cX
  replace cX := W_hid cX
  clear hr hS' hD'
  go_wp2_with fail
  refine cX.out.mono ?_
  rintro e w5 ⟨rfl, hP5, hK5⟩
  rotate_left
  obtain ⟨r, hr⟩ : ∃ r, er (findR D b1) = r := ⟨_, rfl⟩
  obtain ⟨S', hS'⟩ : ∃ S', S' = S := ⟨_, rfl⟩
  obtain ⟨D', hD'⟩ : ∃ D', D' = D := ⟨_, rfl⟩
  have hsd : r ≠ 0 → S' = S ∧ D' = D := fun _ => ⟨hS', hD'⟩
  have cX := find_p b1 hs1 w4 hP4.out
  rw [hr] at cX
  generalize nu (findR D b1) = ax at cX
  replace cX := W_hid cX
  replace hr := W_hid hr
  go_wp2_with fail
  refine cX.out.mono ?_
  rintro e w5 ⟨rfl, bb5⟩
  obtain ⟨hP5, hK5⟩ : PO b1' tg sg mb 101 S' D' w4 w5 := by rw [hS', hD']; exact hP4.out.same bb5
  replace hS' := W_hid hS'
  replace hD' := W_hid hD'
  clear bb5
  rotate_left
  obtain ⟨r, hr⟩ : ∃ r, er (listR D b1) = r := ⟨_, rfl⟩
  obtain ⟨S', hS'⟩ : ∃ S', S' = S := ⟨_, rfl⟩
  obtain ⟨D', hD'⟩ : ∃ D', D' = D := ⟨_, rfl⟩
  have hsd : r ≠ 0 → S' = S ∧ D' = D := fun _ => ⟨hS', hD'⟩
  have cX := list_p b1 hs1 w4 hP4.out (by decide)
  rw [hr] at cX
  replace cX := W_hid cX
  replace hr := W_hid hr
  go_wp2_with fail
  refine cX.out.mono ?_
  rintro e w5 ⟨vx, rfl, hNx, bb5⟩
  obtain ⟨ax, kx, rfl⟩ := hNx.form
  obtain ⟨hP5, hK5⟩ : PO b1' tg sg mb 101 S' D' w4 w5 := by rw [hS', hD']; exact hP4.out.same bb5
  replace hS' := W_hid hS'
  replace hD' := W_hid hD'
  clear bb5 hNx
  rotate_left
  all_goals
    have hP5 := W_hid hP5
    have hK5 := W_hid hK5
    have ho5 := W_hid (row_keeps ho4.out (by decide) (by decide) (by decide) hK5.out)
    have hN5 := W_hid (ne_keeps hN4.out hK5.out)
    have B5 := W_hid (B4.out.trans ((below_of (Below.refl _ _) hK5.out (Nat.le_refl _)).mono hB1))
    have cL5 := W_hid (list_p ⟨#[47]⟩ hslash w5 hP5.out (by decide))
    clear y0 y1 y2 y3 hX4 hP4 ho4 hN4 B4 hK5
    go_wp2_with fail
    refine cL5.out.mono ?_
    rintro e w6 ⟨v6, rfl, hN6, bb6⟩
    obtain ⟨a6, k6, rfl⟩ := hN6.form
    have hP6 := W_hid (hP5.out.keep bb6)
    have ho6 := W_hid (Own.below ho5.out bb6)
    have hM6 := W_hid (hN5.out.keep bb6)
    have B6 := W_hid (B5.out.trans (bb6.mono B5.out.size))
    replace hN6 := W_hid hN6
    have cA6 := W_hid (all_p w6 hP6.out)
    clear bb6 cL5 hP5 ho5 hN5 B5
    by_cases hr0 : r = 0
    · subst hr0
      go_wp2_with fail
      go_ret
      exact ⟨rfl, B6.out⟩
    · obtain ⟨rfl, rfl⟩ : S' = S ∧ D' = D := hsd hr0
      have hr1 : (r == 0) = false := by simpa using hr0
      replace hr0 := W_hid hr0
      go_wp2_with fail
      refine cA6.out.mono ?_
      rintro e w7 ⟨v7, rfl, ho7, bb7⟩
      obtain ⟨a7, k7, rfl⟩ := Own.form ho7
      have cE := W_hid (IN.Same_yes _ _ _ _ (IN.lst S' 12) w7 (by omega) ho7 (Own.below ho6.out bb7))
      have hM7 := W_hid (hM6.out.keep bb7)
      have hN7 := W_hid (hN6.out.keep bb7)
      have B7 := W_hid (B6.out.trans (bb7.mono B6.out.size))
      clear bb7 ho7 cA6
      go_wp2_with fail
      refine cE.out.mono ?_
      rintro e w8 ⟨rfl, bb8⟩
      have cF := W_hid (rSame_yes _ _ _ w8 (by omega) (hM7.out.keep bb8) (hN7.out.keep bb8))
      have B8 := W_hid (B7.out.trans (bb8.mono B7.out.size))
      clear bb8 cE
      go_wp2_with fail
      refine cF.out.mono ?_
      rintro e w9 ⟨rfl, bb9⟩
      have B9 := W_hid (B8.out.trans (bb9.mono B8.out.size))
      go_wp2_with fail
      go_ret
      exact ⟨rfl, B9.out⟩
set_option maxRecDepth 100000 in
theorem NamesIdle_lifted (os : Os) (started : os.Started) (H : Type) (enc : TypeId × Value → H) :
    ReturnsInHanded {} Tryz.checked os 6 .any (Rows.namesIdleSpec.pre6 enc Tryz.prog Tryz.f6 Rows.namesIdleRow.domain false) (Rows.namesIdleSpec.post enc Tryz.prog Tryz.f6 false true false false) := by
  refine returnsInHanded_of_change (C := Tryz.checked) (by kernel_rfl) started (by kernel_rfl) Tryz.func6
    (ChangeSpec.witness6 (enc := enc) (C := Tryz.checked) false ⟨#[], #[.slice none 0 0, .agg #[.int .i64 0, .string ByteArray.empty, .string ByteArray.empty, .int .i64 0]], []⟩ 8 (by kernel_rfl) (by kernel_rfl) (by kernel_rfl) (by kernel_rfl)) ?_
  intro W base args ds gs before hval0 hW hcnd _
  have hval : ∀ (j : Nat) t v, Tryz.f6.params[j]? = some t → args[j]? = some v → Value.okWide Tryz.prog W .any base t v := hval0
  have hW' := hW
  obtain ⟨p, q, hA0, hV, rfl, hfz, hnd⟩ := hW
  have hA : DataW.TrodAll enc Tryz.prog W 0 (fun _ => true) true Tryz.f6.params.toList args.toList ds p := hA0
  rw [Tryz.params6] at hA hval
  obtain ⟨v0, vs0, d0, ds0, p0, q0, hargs, rfl, rfl, h0, r0⟩ := trodAll_cons hA
  obtain ⟨v1, vs1, d1, ds1, p1, q1, rfl, rfl, rfl, h1, r1⟩ := trodAll_cons r0
  obtain ⟨rfl, rfl, rfl⟩ := trodAll_nil r1
  obtain rfl : args = #[v0, v1] := by cases args; simp_all
  obtain ⟨rfl, rfl⟩ := trodVars_none hV
  have k0 := h0
  have lt0 : ∀ x ∈ p0, x.block < W.heap.size := by obtain ⟨m, hm⟩ := k0; exact DataW.trod_lt m _ _ _ hm
  obtain ⟨o0, n0, c0, l0, rfl, w0⟩ := open_ops12 (hval 0 22 v0 rfl rfl) h0
  have k1 := h1
  have lt1 : ∀ x ∈ p1, x.block < W.heap.size := by obtain ⟨m, hm⟩ := k1; exact DataW.trod_lt m _ _ _ hm
  obtain ⟨a1, b1, c1, d1, rfl, w1⟩ := open_op12 (hval 1 40 v1 rfl rfl) h1
  clear hA0 hval0
  refine (NamesIdle_walk o0 n0 c0 l0 a1 b1 c1 d1 W w0 w1).mono fun e W' ⟨he, bel⟩ => ?_
  subst he
  exact ⟨_, rfl, _, _, _, [], _, [], hW', trodAll_mk1 (shut_bool Tryz.underlying4 _), (trodAll_cons_mk (Below.trod laidOut (by kernel_rfl) (of_decide_eq_true (by kernel_rfl)) k0 bel lt0) (trodAll_cons_mk (Below.trod laidOut (by kernel_rfl) (of_decide_eq_true (by kernel_rfl)) k1 bel lt1) trodAll_mk0)), rfl, bel.frame _, fun h => by cases h⟩
theorem NamesIdle_holds : Rows.NamesIdleSaid :=
  OpenClaim.holds_of_wide 6 Tryz.f6 rfl rfl rfl rfl rfl rfl rfl ⟨rfl, rfl, rfl, rfl, rfl⟩ rfl rfl rfl rfl rfl (by kernel_rfl) Tryz.func6 (by kernel_rfl)
    (of_decide_eq_true (by kernel_rfl)) (by unfold Func.isWrapper; first | (rw [if_pos (by decide +kernel)]; kernel_rfl) | (rw [if_neg (by decide +kernel)]; exact ⟨rfl, rfl⟩))
    (fun os started H enc _ => NamesIdle_lifted os started H enc)
end Go.Proofs.YtmnmheocmcmpmaaGreat

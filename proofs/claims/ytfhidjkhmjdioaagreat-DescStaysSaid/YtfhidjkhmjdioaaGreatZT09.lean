/- The law DescStays of layer 13 (package haywardlaw13): for every input it returns true, and its arguments read as before. No further condition. -/
import Derived.Test.YtfhidjkhmjdioaaGreatZT08

namespace Go.Proofs.YtfhidjkhmjdioaaGreat
open Go.ChangeShapes Go.WideShapes Go.ChangeAt Go.RowKit
open Go.ChangeMaps (open_string shut_string)
set_option linter.unusedVariables false
set_option linter.unusedSimpArgs false
open IN (cap7)
open DC
theorem DC.blk_do {q : Nat} {K : Cn} {S : Sm} {D : NT.Ds} {P : Ps} {O : Ou} {w w' : World} {g : Nat} {e : TypeId} {l : List Value} (h : Blk w g e l) (hd : DO K q S D P O w w') (hg : g < K.base) : Blk w' g e l := (hd.2.low g hg).trans h
set_option maxRecDepth 100000 in
set_option maxHeartbeats 16000000 in
theorem DescStays_walk (a0 a1 : ByteArray) (w : World) (w0 : a0.size ≤ maxLen) (w1 : a1.size ≤ maxLen) :
    Calls Tryz.prog 5 #[.string a0, .string a1] w fun e w' => e = .returned (.bool true) ∧ Below w.heap.size w w' := by
  have cS := W_hid (DC.shown13 w)
  have cC := fun w => W_hid (DC.caps13 w)
  have cO := fun w => W_hid (show Calls Tryz.prog 15 #[cap7 8 2097152 3 4 6 0 0] w _ from opened13c 2097152 (by decide) w)
  unfold cap7 at cC cO
  go_enter Tryz.func5, Tryz.ntmps5
  go_wp2_with fail
  refine cS.out.mono ?_
  rintro e x1 ⟨rfl, b1⟩
  have B1 := W_hid b1
  clear b1 cS
  go_wp2_with fail
  refine (cC _).out.mono ?_
  rintro e x2 ⟨rfl, b2⟩
  have B2 := W_hid (B1.out.trans (b2.mono B1.out.size))
  clear b2 B1 cC
  go_wp2_with fail
  have hC0 : Hid (Blk (x2.alloc (.cells #[.int .i64 8, .int .i64 2097152, .int .i64 3, .int .i64 4, .int .i64 6, .int .i64 0, .int .i64 0] 25)) x2.heap.size 25 [.int .i64 8, .int .i64 2097152, .int .i64 3, .int .i64 4, .int .i64 6, .int .i64 0, .int .i64 0]) := W_hid (Blk.new x2 25 [.int .i64 8, .int .i64 2097152, .int .i64 3, .int .i64 4, .int .i64 6, .int .i64 0, .int .i64 0] rfl)
  have B2a : Hid (Below w.heap.size w (x2.alloc (.cells #[.int .i64 8, .int .i64 2097152, .int .i64 3, .int .i64 4, .int .i64 6, .int .i64 0, .int .i64 0] 25))) := W_hid (B2.out.alloc B2.out.size _)
  refine (cO _).out.mono ?_
  rintro e x3 ⟨K, rfl, hbase, hK, hd, b3⟩
  have HC3 := W_hid (hC0.out.keep b3)
  have HCL := W_hid (Nat.lt_of_lt_of_le hC0.out.lt hbase)
  have B3 := W_hid (B2a.out.trans (b3.mono B2a.out.size))
  have hbw := W_hid (Nat.le_trans B2a.out.size hbase)
  obtain ⟨cb, hcb⟩ : ∃ cb, x2.heap.size = cb := ⟨_, rfl⟩
  rw [hcb] at HC3 HCL
  have cA := add_s 1 x3 hd i64_one (by decide)
  rw [hK.f, add1] at cA
  replace cA := W_hid cA
  replace hK := W_hid hK
  clear b3 hd B2 cO hbase hC0 B2a
  go_wp2_with fail
  refine cA.out.mono ?_
  rintro e x4 ⟨rfl, hd⟩
  have B4 := W_hid (below_do B3.out hd hbw.out)
  have HC4 := W_hid (blk_do HC3.out hd HCL.out)
  have cA := open_s 1 sF 7 x4 hd.1 i64_one (by decide) i64_seven (by decide)
  rw [hK.out.I, hK.out.f, hK.out.o, opn1] at cA
  have e1 : sF = ⟨#[102]⟩ := rfl
  rw [e1] at cA
  replace cA := W_hid cA
  clear hd B3 HC3
  go_wp2_with fail
  refine cA.out.mono ?_
  rintro e x5 ⟨rfl, hd⟩
  have B5 := W_hid (below_do B4.out hd hbw.out)
  have HC5 := W_hid (blk_do HC4.out hd HCL.out)
  have cA := write_s 1 0 a0 x5 hd.1 i64_one w0 (by decide)
  rw [hK.out.I, hK.out.B] at cA
  clear hd B4 HC4
  by_cases hsz : a0.size ≤ 1048576
  · rw [wri1 (L := [some 0, none, none, none]) 2097152 a0 1 hsz (by omega) lk2 (by decide) (updO_at _ _ _)] at cA
    replace cA := W_hid cA
    go_wp2_with fail
    refine cA.out.mono ?_
    rintro e x6 ⟨rfl, hd⟩
    have B6 := W_hid (below_do B5.out hd hbw.out)
    have HC6 := W_hid (blk_do HC5.out hd HCL.out)
    have cA := unlink_s sF (by decide) x6 hd.1 (by decide)
    rw [unlS5, uF] at cA
    rw [e1] at cA
    replace cA := W_hid (show Calls Tryz.prog 28 #[.pointer (some ⟨K.tg, 0, none⟩), .string ⟨#[102]⟩] x6 fun e w' => e = .returned (.int .i64 0) ∧ DO K _ (S5 a0) D2 P2 _ x6 w' from cA)
    clear hd B5 HC5
    go_wp2_with fail
    refine cA.out.mono ?_
    rintro e x7 ⟨rfl, hd⟩
    have B7 := W_hid (below_do B6.out hd hbw.out)
    have HC7 := W_hid (blk_do HC6.out hd HCL.out)
    have cA := seek_s 1 0 0 0 x7 hd.1 i64_one ⟨by decide, by decide⟩ (by decide)
    rw [sk1 (L := [some 0, none, none, none]) (k := 0) (oF a0.size 1) (xU a0) 0 0 0 lk2 (by decide) (updO_at _ _ _) (S5_2 _) rfl (by decide) (by decide), oF_set] at cA
    replace cA := W_hid cA
    clear hd B6 HC6
    go_wp2_with fail
    refine cA.out.mono ?_
    rintro e x8 ⟨rfl, hd⟩
    have B8 := W_hid (below_do B7.out hd hbw.out)
    have HC8 := W_hid (blk_do HC7.out hd HCL.out)
    have cA := read_s 1 0 (a0.size : Int) x8 hd.1 i64_one ⟨by omega, by omega⟩ (by decide)
    rw [rd1 (L := [some 0, none, none, none]) (k := 0) a0 hsz 0 a0.size (oF (0 + 0) 1) (xU a0) (by omega) lk2 (by decide) (updO_at _ _ _) rfl (by show (bits .and .i64 7 1 == 1) = true; decide) (S5_2 a0) rfl rfl] at cA
    rw [oF_set, show pce a0 0 (min a0.size (a0.size - 0)) = a0 from pce_all a0 _ (by omega)] at cA
    replace cA := W_hid cA
    clear hd B7 HC7
    go_wp2_with fail
    refine cA.out.mono ?_
    rintro e x9 ⟨rfl, hd⟩
    have B9 := W_hid (below_do B8.out hd hbw.out)
    have HC9 := W_hid (blk_do HC8.out hd HCL.out)
    have cA := open_s 1 sF 6 x9 hd.1 i64_one (by decide) ⟨by decide, by decide⟩ (by decide)
    rw [hK.out.I, hK.out.f, hK.out.o, opn3 a0 _ (oF ((0 + min a0.size (a0.size - 0) : Nat) : Int) 1) (by rw [updO_updO, updO_updO, updO_updO])] at cA
    rw [e1] at cA
    replace cA := W_hid cA
    clear hd B8 HC8
    go_wp2_with fail
    refine cA.out.mono ?_
    rintro e x10 ⟨rfl, hd⟩
    have B10 := W_hid (below_do B9.out hd hbw.out)
    have HC10 := W_hid (blk_do HC9.out hd HCL.out)
    have cA := write_s 1 1 a1 x10 hd.1 i64_one w1 (by decide)
    rw [hK.out.I, hK.out.B] at cA
    obtain ⟨a, k, S8, O8, hwr, hk, hS8, hO8⟩ := wri2 a0 a1 _ hsz (updO_at _ 1 (some ⟨3, 0, 6, 1⟩))
    rw [hwr] at cA
    rw [updO_ne (by decide), updO_at] at hO8
    replace cA := W_hid cA
    clear hd B9 HC9 hwr
    go_wp2_with fail
    refine cA.out.mono ?_
    rintro e x11 ⟨rfl, hd⟩
    have B11 := W_hid (below_do B10.out hd hbw.out)
    have HC11 := W_hid (blk_do HC10.out hd HCL.out)
    have cL := all_s x11 hd.1
    rw [hK.out.I] at cL
    have hd11 := W_hid hd.1
    clear hd B10 HC10
    have hlen := len_less hS8
    have hll : (IN.lst S8 8).length ≤ 8 := IN.lst_len S8 8
    generalize hz : IN.lst S8 8 = l8 at *
    replace cL := W_hid cL
    replace hz := W_hid hz
    go_wp2_with fail
    refine cL.out.mono ?_
    rintro e x12 ⟨v, rfl, hown, b12⟩
    obtain ⟨ao, cap, rfl⟩ := Own.form hown
    have B12 := W_hid (B11.out.trans (b12.mono B11.out.size))
    have HC12 := W_hid (HC11.out.keep b12)
    have cA := close_s 1 0 x12 (hd11.out.keep b12) i64_one (by decide)
    rw [cls1 a0 S8 O8 _ hS8 hO8] at cA
    replace cA := W_hid cA
    clear b12 hown B11 HC11 hd11 cL
    go_wp2_with fail
    refine cA.out.mono ?_
    rintro e x13 ⟨rfl, hd⟩
    have B13 := W_hid (below_do B12.out hd hbw.out)
    have HC13 := W_hid (blk_do HC12.out hd HCL.out)
    have cL := all_s x13 hd.1
    rw [hK.out.I] at cL
    have hll2 : (IN.lst (IN.upd S8 2 none) 8).length = l8.length - 1 := by omega
    generalize IN.lst (IN.upd S8 2 none) 8 = l9 at *
    replace cL := W_hid cL
    clear hd B12 HC12
    have cf := HC13.out.cell (j := 1) rfl
    have cf0 := HC13.out.cell (j := 0) rfl
    have cfz := HC13.out.fz
    have hp1 : 1 ≤ l8.length := by omega
    have hw8 : IntKind.i64.wrap ((l8.length : Int) - 1) = (l8.length : Int) - 1 := by rw [IntKind.wrap_i64]; omega
    have hEq : ((l9.length : Int) == (l8.length : Int) - 1) = true := by rw [beq_iff_eq]; omega
    replace hll2 := W_hid hll2
    replace hlen := W_hid hlen
    by_cases hk0 : k = 0
    · subst hk0
      clear hk
      go_wp2_with fail
      refine cL.out.mono ?_
      rintro e x14 ⟨v2, rfl, hown2, b14⟩
      obtain ⟨ao2, cap2, rfl⟩ := Own.form hown2
      have B14 := W_hid (B13.out.trans (b14.mono B13.out.size))
      clear hown2 b14
      go_wp2_with fail
      go_ret
      exact ⟨rfl, B14.out⟩
    · have hkf : (k == 0) = false := by simpa using hk0
      by_cases h2 : (1048576 : Int) < (a1.size : Int)
      · have d2 : decide ((1048576 : Int) < (a1.size : Int)) = true := decide_eq_true h2
        clear hk hk0
        go_wp2_with fail
        refine cL.out.mono ?_
        rintro e x14 ⟨v2, rfl, hown2, b14⟩
        obtain ⟨ao2, cap2, rfl⟩ := Own.form hown2
        have B14 := W_hid (B13.out.trans (b14.mono B13.out.size))
        clear hown2 b14
        go_wp2_with fail
        go_ret
        exact ⟨rfl, B14.out⟩
      · omega
  · have cA2 : Hid (Calls Tryz.prog 27 #[.pointer (some ⟨K.g, 0, none⟩), .int .i64 1, .int .i64 0, .string a0] x5 fun e w' => e = .returned (.tuple #[.int .i64 0, .int .i64 28]) ∧ ∃ S D P O, DO K (0 + 2 + 2 + 2) S D P O x5 w') := W_hid (cA.mono fun e w' hh => by
      obtain ⟨rfl, hd⟩ := hh
      rw [wri1_no (L := [some 0, none, none, none]) 2097152 a0 1 hsz lk2 (by decide) (updO_at _ _ _)]
      exact ⟨rfl, _, _, _, _, hd⟩)
    have hgt : decide ((a0.size : Int) > 1048576) = true := by simp; omega
    have hgt2 : decide ((1048576 : Int) < (a0.size : Int)) = true := by simp; omega
    clear cA
    go_wp2_with fail
    refine cA2.out.mono ?_
    rintro e x6 ⟨rfl, S', D', P', O', hd⟩
    have B6 := W_hid (below_do B5.out hd hbw.out)
    have cA := unlink_s sF (by decide) x6 hd.1 (by decide)
    rw [e1] at cA
    generalize NT.er (NT.unlR D' ⟨#[102]⟩) = r at cA
    replace cA := W_hid cA
    clear hd B5 cA2
    go_wp2_with fail
    refine cA.out.mono ?_
    rintro e x7 ⟨rfl, hd⟩
    have B7 := W_hid (below_do B6.out hd hbw.out)
    clear hd B6
    go_wp2_with fail
    go_ret
    exact ⟨rfl, B7.out⟩
set_option maxRecDepth 100000 in
theorem DescStays_lifted (os : Os) (started : os.Started) (H : Type) (enc : TypeId × Value → H) :
    ReturnsInHanded {} Tryz.checked os 5 .any (Rows.descStaysSpec.pre6 enc Tryz.prog Tryz.f5 Rows.descStaysRow.domain false) (Rows.descStaysSpec.post enc Tryz.prog Tryz.f5 false true false false) := by
  refine returnsInHanded_of_change (C := Tryz.checked) (by kernel_rfl) started (by kernel_rfl) Tryz.func5
    (ChangeSpec.witness6 (enc := enc) (C := Tryz.checked) false ⟨#[], #[.string ByteArray.empty, .string ByteArray.empty], []⟩ 8 (by kernel_rfl) (by kernel_rfl) (by kernel_rfl) (by kernel_rfl)) ?_
  intro W base args ds gs before hval0 hW hcnd _
  have hval : ∀ (j : Nat) t v, Tryz.f5.params[j]? = some t → args[j]? = some v → Value.okWide Tryz.prog W .any base t v := hval0
  have hW' := hW
  obtain ⟨p, q, hA0, hV, rfl, hfz, hnd⟩ := hW
  have hA : DataW.TrodAll enc Tryz.prog W 0 (fun _ => true) true Tryz.f5.params.toList args.toList ds p := hA0
  rw [Tryz.params5] at hA hval
  obtain ⟨v0, vs0, d0, ds0, p0, q0, hargs, rfl, rfl, h0, r0⟩ := trodAll_cons hA
  obtain ⟨v1, vs1, d1, ds1, p1, q1, rfl, rfl, rfl, h1, r1⟩ := trodAll_cons r0
  obtain ⟨rfl, rfl, rfl⟩ := trodAll_nil r1
  obtain rfl : args = #[v0, v1] := by cases args; simp_all
  obtain ⟨rfl, rfl⟩ := trodVars_none hV
  obtain ⟨a0, rfl, rfl, rfl, w0⟩ := open_string Tryz.underlying9 (hval 0 9 v0 rfl rfl) h0
  obtain ⟨a1, rfl, rfl, rfl, w1⟩ := open_string Tryz.underlying9 (hval 1 9 v1 rfl rfl) h1
  clear hA0 hval0
  refine (DescStays_walk a0 a1 W w0 w1).mono fun e W' ⟨he, bel⟩ => ?_
  subst he
  exact ⟨_, rfl, _, _, _, [], _, [], hW', trodAll_mk1 (shut_bool Tryz.underlying4 _), (trodAll_cons_mk (shut_string Tryz.underlying9 w0) (trodAll_cons_mk (shut_string Tryz.underlying9 w1) trodAll_mk0)), rfl, bel.frame _, fun h => by cases h⟩
theorem DescStays_holds : Rows.DescStaysSaid :=
  OpenClaim.holds_of_wide 5 Tryz.f5 rfl rfl rfl rfl rfl rfl rfl ⟨rfl, rfl, rfl, rfl, rfl⟩ rfl rfl rfl rfl rfl (by kernel_rfl) Tryz.func5 (by kernel_rfl)
    (of_decide_eq_true (by kernel_rfl)) (by unfold Func.isWrapper; first | (rw [if_pos (by decide +kernel)]; kernel_rfl) | (rw [if_neg (by decide +kernel)]; exact ⟨rfl, rfl⟩))
    (fun os started H enc _ => DescStays_lifted os started H enc)
end Go.Proofs.YtfhidjkhmjdioaaGreat

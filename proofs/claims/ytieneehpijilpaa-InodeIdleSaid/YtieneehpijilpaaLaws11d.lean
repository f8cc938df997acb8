/- The law InodeIdle of layer 11 (package haywardlaw11): for every input it returns true, and its arguments read as before. No further condition. -/
import Derived.Test.YtieneehpijilpaaInoLeft
namespace Go.Proofs.Ytieneehpijilpaa
open Go.ChangeShapes Go.WideShapes Go.ChangeAt Go.RowKit
open Go.ChangeMaps (open_string shut_string)
set_option linter.unusedVariables false
set_option linter.unusedSimpArgs false

open IN

set_option maxRecDepth 100000 in
set_option maxHeartbeats 32000000 in
theorem InodeIdle_walk (o0 : Option Addr) (n0 c0 : Nat) (l0 : List OpT11) (w : World) (w0 : OS11 w o0 n0 c0 l0) :
    Calls Try.prog 5 #[.slice o0 n0 c0] w fun e w' => e = .returned (.bool true) ∧ Below w.heap.size w w' := by
  obtain ⟨hlen, hll, hops⟩ := w0
  have hlen2 : (n0 : Int) ≤ 9223372036854775807 := by unfold maxLen at hlen; omega
  have cS := W_hid (shown_any w)
  replace hops := W_hid hops
  replace hll := W_hid hll
  clear hlen
  have cap : ∀ w, (Instr.build 23 #[(0, .int .i64 6), (1, .int .i64 60), (2, .int .i64 3)]).run Try.prog w = .ok (.agg #[.int .i64 6, .int .i64 60, .int .i64 3, .int .i64 0, .int .i64 0, .int .i64 0, .int .i64 0]) w := fun w => by kernel_rfl
  go_enter Try.func5, Try.ntmps5
  go_wp2_with fail
  refine cS.out.mono ?_
  rintro e x0 ⟨rfl, b0⟩
  have b1 := b0.alloc b0.size (.cells #[.int .i64 6, .int .i64 60, .int .i64 3, .int .i64 0, .int .i64 0, .int .i64 0, .int .i64 0] 23)
  have hC := Blk.new x0 23 [.int .i64 6, .int .i64 60, .int .i64 3, .int .i64 0, .int .i64 0, .int .i64 0, .int .i64 0] rfl
  have hbase := b1.size
  have cN := New_yes 6 60 3 0 0 0 0 (x0.alloc (.cells #[.int .i64 6, .int .i64 60, .int .i64 3, .int .i64 0, .int .i64 0, .int .i64 0, .int .i64 0] 23)) (by unfold IN.Right; omega)
  have qf := hC.fz
  have q0 := hC.cell (j := 0) rfl
  have q1 := hC.cell (j := 1) rfl
  have q2 := hC.cell (j := 2) rfl
  have q3 := hC.cell (j := 3) rfl
  have q4 := hC.cell (j := 4) rfl
  have q5 := hC.cell (j := 5) rfl
  have q6 := hC.cell (j := 6) rfl
  unfold cap7 at cN
  replace cN := W_hid cN
  replace b1 := W_hid b1
  clear hC b0
  go_wp2_with fail
  refine cN.out.mono ?_
  rintro e x2 ⟨sg, mb, M, rfl, hP, b2⟩
  have b2 := W_hid (b1.out.trans (b2.mono hbase))
  obtain ⟨B0, hB0⟩ : ∃ B0, (x0.alloc (.cells #[.int .i64 6, .int .i64 60, .int .i64 3, .int .i64 0, .int .i64 0, .int .i64 0, .int .i64 0] 23)).heap.size = B0 := ⟨_, rfl⟩
  rw [hB0] at hP hbase
  have hP := W_hid hP
  replace hB0 := W_hid hB0
  clear cN q0 q1 q2 q3 q4 q5 q6 qf
  go_wp2_with fail
  go_loopw [7] (fun v wr => ∃ (j : Nat) (S : Int → Option Nd) (M : Int → Option Nat), j ≤ n0 ∧ j ≤ 100 ∧ v = .int .i64 (j : Int) ∧ Hid (PS B0 wr sg mb M 6 3 60 j S) ∧ Hid (Below w.heap.size w wr)) (fun v _ => n0 - (intOf v).toNat)
  case atStart => exact ⟨0, _, M, by omega, by omega, rfl, hP, b2⟩
  case round =>
    clear hP b2
    obtain ⟨j, S, M1, hj, hj2, rfl, hP, hb⟩ := hrel
    by_cases hlt : j < n0 ∧ j < 100
    · obtain ⟨hl1, hl2⟩ := hlt
      obtain ⟨blk, off, rfl, hblk, hc0, hc1, hc2, hc3, hc4, z1, z2, z3, z4, z5, z6, z7, z8, z9⟩ := hops.out j (by rw [hll.out]; exact hl1)
      obtain ⟨⟨kd, n, f, m, s⟩, hx⟩ : ∃ x, l0[j]'(by rw [hll.out]; exact hl1) = x := ⟨_, rfl⟩
      rw [hx] at hc0 hc1 hc2 hc3 hc4 z1 z2 z3 z4 z5 z6 z7 z8 z9
      simp only at hc0 hc1 hc2 hc3 hc4 z1 z2 z3 z4 z5 z6 z7 z8 z9
      have cA := W_hid (All_any wr hP.out)
      clear hx
      go_wp2_with fail
      refine cA.out.mono ?_
      rintro e x5 ⟨v8, rfl, ho8, b5⟩
      obtain ⟨ao8, c8, rfl⟩ := Own.form ho8
      have hb5 := hb.out.trans (b5.mono hb.out.size)
      have kk : ∀ {a : Nat} {u : Value}, w.cell? ⟨blk, a, none⟩ = some u → x5.cell? ⟨blk, a, none⟩ = some u := fun {a u} hc => by rw [hb5.cell (p := ⟨blk, a, none⟩) hblk]; exact hc
      have k0 := kk hc0
      have k1 := kk hc1
      have k2 := kk hc2
      have k3 := kk hc3
      have k4 := kk hc4
      have b6 := b5.alloc b5.size (.cells #[.int .i64 kd, .int .i64 n, .int .i64 f, .int .i64 m, .string s] 35)
      have hX := Blk.new x5 35 [.int .i64 kd, .int .i64 n, .int .i64 f, .int .i64 m, .string s] rfl
      have y0 := hX.cell (j := 0) rfl
      have y1 := hX.cell (j := 1) rfl
      have y2 := hX.cell (j := 2) rfl
      have y3 := hX.cell (j := 3) rfl
      have y4 := hX.cell (j := 4) rfl
      have hP6 := hP.out.keep b6
      have ho6 := W_hid (Own.below ho8 ((Below.refl _ x5).alloc (Nat.le_refl _) (.cells #[.int .i64 kd, .int .i64 n, .int .i64 f, .int .i64 m, .string s] 35)))
      have hb6 := W_hid (hb.out.trans (b6.mono hb.out.size))
      have hn64 : IS.I64 n := ⟨z3, z4⟩
      obtain ⟨hcs, hk1, hk2⟩ := kind9 kd
      obtain ⟨tm, htm⟩ : ∃ tm, kd.tmod 9 = tm := ⟨_, rfl⟩
      rw [htm] at hcs hk1 hk2
      clear kk hc0 hc1 hc2 hc3 hc4 b5 hb5 ho8 cA hb hX
      have hP6 := W_hid hP6
      rcases hcs with e0 | e0 | e0 | e0 | e0 | e0 | e0 | e0 | e0
      · have cX := W_hid (Make_left n hP6.out (by decide))
        go_wp2_with fail
        refine cX.out.mono ?_
        rintro e x7 ⟨vv, r, rfl, hL⟩
        have hL := W_hid hL
        clear cX
        obtain ⟨S', M', hP7, hK7, hne⟩ := hL.out
        have hb7 := W_hid (hb6.out.trans ((below_keeps hK7).mono hbase))
        by_cases hr : r = 0
        · subst hr
          replace hP7 := W_hid hP7
          clear hL hK7 hne
          go_wp2_with fail
          go_roundw
          case rel => exact ⟨j + 1, S', M', by omega, by omega, by go_num, hP7, hb7⟩
          case measure => simp [intOf]; omega
        · have hS := hne hr
          rw [hS] at hP7
          have cA := W_hid (All_any x7 hP7)
          have ho7 := W_hid (own_keeps ho6.out hK7)
          replace hP7 := W_hid hP7
          have hll6 := lst_len S 6
          clear hL hK7 hne hS
          go_wp2_with fail
          refine cA.out.mono ?_
          rintro e x8 ⟨v9, rfl, ho9, b8⟩
          have cE := W_hid (Same_yes v9 _ _ _ (lst S 6) x8 (by omega) ho9 (Own.below ho7.out b8))
          obtain ⟨ao9, c9, rfl⟩ := Own.form ho9
          have b8' := W_hid b8
          clear cA ho9 ho7 b8
          go_wp2_with fail
          refine cE.out.mono ?_
          rintro e x9 ⟨rfl, b9⟩
          have b10 := b8'.out.trans (b9.mono b8'.out.size)
          have hP10 := W_hid (hP7.out.keep b10)
          have hb10 := W_hid (hb7.out.trans (b10.mono hb7.out.size))
          clear cE b9 b10
          go_wp2_with fail
          go_roundw
          case rel => exact ⟨j + 1, S, M', by omega, by omega, by go_num, hP10, hb10⟩
          case measure => simp [intOf]; omega
      · have cX := W_hid (Link_left n hP6.out hn64)
        go_wp2_with fail
        refine cX.out.mono ?_
        rintro e x7 ⟨r, rfl, hL⟩
        have hL := W_hid hL
        clear cX
        obtain ⟨S', M', hP7, hK7, hne⟩ := hL.out
        have hb7 := W_hid (hb6.out.trans ((below_keeps hK7).mono hbase))
        by_cases hr : r = 0
        · subst hr
          replace hP7 := W_hid hP7
          clear hL hK7 hne
          go_wp2_with fail
          go_roundw
          case rel => exact ⟨j + 1, S', M', by omega, by omega, by go_num, hP7, hb7⟩
          case measure => simp [intOf]; omega
        · have hS := hne hr
          rw [hS] at hP7
          have cA := W_hid (All_any x7 hP7)
          have ho7 := W_hid (own_keeps ho6.out hK7)
          replace hP7 := W_hid hP7
          have hll6 := lst_len S 6
          clear hL hK7 hne hS
          go_wp2_with fail
          refine cA.out.mono ?_
          rintro e x8 ⟨v9, rfl, ho9, b8⟩
          have cE := W_hid (Same_yes v9 _ _ _ (lst S 6) x8 (by omega) ho9 (Own.below ho7.out b8))
          obtain ⟨ao9, c9, rfl⟩ := Own.form ho9
          have b8' := W_hid b8
          clear cA ho9 ho7 b8
          go_wp2_with fail
          refine cE.out.mono ?_
          rintro e x9 ⟨rfl, b9⟩
          have b10 := b8'.out.trans (b9.mono b8'.out.size)
          have hP10 := W_hid (hP7.out.keep b10)
          have hb10 := W_hid (hb7.out.trans (b10.mono hb7.out.size))
          clear cE b9 b10
          go_wp2_with fail
          go_roundw
          case rel => exact ⟨j + 1, S, M', by omega, by omega, by go_num, hP10, hb10⟩
          case measure => simp [intOf]; omega
      · have cX := W_hid (Unlink_left n hP6.out hn64 (by omega))
        go_wp2_with fail
        refine cX.out.mono ?_
        rintro e x7 ⟨r, rfl, hL⟩
        have hL := W_hid hL
        clear cX
        obtain ⟨S', M', hP7, hK7, hne⟩ := hL.out
        have hb7 := W_hid (hb6.out.trans ((below_keeps hK7).mono hbase))
        by_cases hr : r = 0
        · subst hr
          replace hP7 := W_hid hP7
          clear hL hK7 hne
          go_wp2_with fail
          go_roundw
          case rel => exact ⟨j + 1, S', M', by omega, by omega, by go_num, hP7, hb7⟩
          case measure => simp [intOf]; omega
        · have hS := hne hr
          rw [hS] at hP7
          have cA := W_hid (All_any x7 hP7)
          have ho7 := W_hid (own_keeps ho6.out hK7)
          replace hP7 := W_hid hP7
          have hll6 := lst_len S 6
          clear hL hK7 hne hS
          go_wp2_with fail
          refine cA.out.mono ?_
          rintro e x8 ⟨v9, rfl, ho9, b8⟩
          have cE := W_hid (Same_yes v9 _ _ _ (lst S 6) x8 (by omega) ho9 (Own.below ho7.out b8))
          obtain ⟨ao9, c9, rfl⟩ := Own.form ho9
          have b8' := W_hid b8
          clear cA ho9 ho7 b8
          go_wp2_with fail
          refine cE.out.mono ?_
          rintro e x9 ⟨rfl, b9⟩
          have b10 := b8'.out.trans (b9.mono b8'.out.size)
          have hP10 := W_hid (hP7.out.keep b10)
          have hb10 := W_hid (hb7.out.trans (b10.mono hb7.out.size))
          clear cE b9 b10
          go_wp2_with fail
          go_roundw
          case rel => exact ⟨j + 1, S, M', by omega, by omega, by go_num, hP10, hb10⟩
          case measure => simp [intOf]; omega
      · have cX := W_hid (Open_left n hP6.out hn64 (by omega))
        go_wp2_with fail
        refine cX.out.mono ?_
        rintro e x7 ⟨r, rfl, hL⟩
        have hL := W_hid hL
        clear cX
        obtain ⟨S', M', hP7, hK7, hne⟩ := hL.out
        have hb7 := W_hid (hb6.out.trans ((below_keeps hK7).mono hbase))
        by_cases hr : r = 0
        · subst hr
          replace hP7 := W_hid hP7
          clear hL hK7 hne
          go_wp2_with fail
          go_roundw
          case rel => exact ⟨j + 1, S', M', by omega, by omega, by go_num, hP7, hb7⟩
          case measure => simp [intOf]; omega
        · have hS := hne hr
          rw [hS] at hP7
          have cA := W_hid (All_any x7 hP7)
          have ho7 := W_hid (own_keeps ho6.out hK7)
          replace hP7 := W_hid hP7
          have hll6 := lst_len S 6
          clear hL hK7 hne hS
          go_wp2_with fail
          refine cA.out.mono ?_
          rintro e x8 ⟨v9, rfl, ho9, b8⟩
          have cE := W_hid (Same_yes v9 _ _ _ (lst S 6) x8 (by omega) ho9 (Own.below ho7.out b8))
          obtain ⟨ao9, c9, rfl⟩ := Own.form ho9
          have b8' := W_hid b8
          clear cA ho9 ho7 b8
          go_wp2_with fail
          refine cE.out.mono ?_
          rintro e x9 ⟨rfl, b9⟩
          have b10 := b8'.out.trans (b9.mono b8'.out.size)
          have hP10 := W_hid (hP7.out.keep b10)
          have hb10 := W_hid (hb7.out.trans (b10.mono hb7.out.size))
          clear cE b9 b10
          go_wp2_with fail
          go_roundw
          case rel => exact ⟨j + 1, S, M', by omega, by omega, by go_num, hP10, hb10⟩
          case measure => simp [intOf]; omega
      · have cX := W_hid (Close_left n hP6.out hn64 (by omega))
        go_wp2_with fail
        refine cX.out.mono ?_
        rintro e x7 ⟨r, rfl, hL⟩
        have hL := W_hid hL
        clear cX
        obtain ⟨S', M', hP7, hK7, hne⟩ := hL.out
        have hb7 := W_hid (hb6.out.trans ((below_keeps hK7).mono hbase))
        by_cases hr : r = 0
        · subst hr
          replace hP7 := W_hid hP7
          clear hL hK7 hne
          go_wp2_with fail
          go_roundw
          case rel => exact ⟨j + 1, S', M', by omega, by omega, by go_num, hP7, hb7⟩
          case measure => simp [intOf]; omega
        · have hS := hne hr
          rw [hS] at hP7
          have cA := W_hid (All_any x7 hP7)
          have ho7 := W_hid (own_keeps ho6.out hK7)
          replace hP7 := W_hid hP7
          have hll6 := lst_len S 6
          clear hL hK7 hne hS
          go_wp2_with fail
          refine cA.out.mono ?_
          rintro e x8 ⟨v9, rfl, ho9, b8⟩
          have cE := W_hid (Same_yes v9 _ _ _ (lst S 6) x8 (by omega) ho9 (Own.below ho7.out b8))
          obtain ⟨ao9, c9, rfl⟩ := Own.form ho9
          have b8' := W_hid b8
          clear cA ho9 ho7 b8
          go_wp2_with fail
          refine cE.out.mono ?_
          rintro e x9 ⟨rfl, b9⟩
          have b10 := b8'.out.trans (b9.mono b8'.out.size)
          have hP10 := W_hid (hP7.out.keep b10)
          have hb10 := W_hid (hb7.out.trans (b10.mono hb7.out.size))
          clear cE b9 b10
          go_wp2_with fail
          go_roundw
          case rel => exact ⟨j + 1, S, M', by omega, by omega, by go_num, hP10, hb10⟩
          case measure => simp [intOf]; omega
      · have cX := W_hid (Read_left n f m hP6.out hn64 ⟨z5, z6⟩ ⟨z7, z8⟩)
        go_wp2_with fail
        refine cX.out.mono ?_
        rintro e x7 ⟨vv, r, rfl, hL⟩
        have hL := W_hid hL
        clear cX
        obtain ⟨S', M', hP7, hK7, hne⟩ := hL.out
        have hb7 := W_hid (hb6.out.trans ((below_keeps hK7).mono hbase))
        by_cases hr : r = 0
        · subst hr
          replace hP7 := W_hid hP7
          clear hL hK7 hne
          go_wp2_with fail
          go_roundw
          case rel => exact ⟨j + 1, S', M', by omega, by omega, by go_num, hP7, hb7⟩
          case measure => simp [intOf]; omega
        · have hS := hne hr
          rw [hS] at hP7
          have cA := W_hid (All_any x7 hP7)
          have ho7 := W_hid (own_keeps ho6.out hK7)
          replace hP7 := W_hid hP7
          have hll6 := lst_len S 6
          clear hL hK7 hne hS
          go_wp2_with fail
          refine cA.out.mono ?_
          rintro e x8 ⟨v9, rfl, ho9, b8⟩
          have cE := W_hid (Same_yes v9 _ _ _ (lst S 6) x8 (by omega) ho9 (Own.below ho7.out b8))
          obtain ⟨ao9, c9, rfl⟩ := Own.form ho9
          have b8' := W_hid b8
          clear cA ho9 ho7 b8
          go_wp2_with fail
          refine cE.out.mono ?_
          rintro e x9 ⟨rfl, b9⟩
          have b10 := b8'.out.trans (b9.mono b8'.out.size)
          have hP10 := W_hid (hP7.out.keep b10)
          have hb10 := W_hid (hb7.out.trans (b10.mono hb7.out.size))
          clear cE b9 b10
          go_wp2_with fail
          go_roundw
          case rel => exact ⟨j + 1, S, M', by omega, by omega, by go_num, hP10, hb10⟩
          case measure => simp [intOf]; omega
      · have cX := W_hid (Write_left n f s hP6.out hn64 ⟨z5, z6⟩ z9)
        go_wp2_with fail
        refine cX.out.mono ?_
        rintro e x7 ⟨r, rfl, hL⟩
        have hL := W_hid hL
        clear cX
        obtain ⟨S', M', hP7, hK7, hne⟩ := hL.out
        have hb7 := W_hid (hb6.out.trans ((below_keeps hK7).mono hbase))
        by_cases hr : r = 0
        · subst hr
          replace hP7 := W_hid hP7
          clear hL hK7 hne
          go_wp2_with fail
          go_roundw
          case rel => exact ⟨j + 1, S', M', by omega, by omega, by go_num, hP7, hb7⟩
          case measure => simp [intOf]; omega
        · have hS := hne hr
          rw [hS] at hP7
          have cA := W_hid (All_any x7 hP7)
          have ho7 := W_hid (own_keeps ho6.out hK7)
          replace hP7 := W_hid hP7
          have hll6 := lst_len S 6
          clear hL hK7 hne hS
          go_wp2_with fail
          refine cA.out.mono ?_
          rintro e x8 ⟨v9, rfl, ho9, b8⟩
          have cE := W_hid (Same_yes v9 _ _ _ (lst S 6) x8 (by omega) ho9 (Own.below ho7.out b8))
          obtain ⟨ao9, c9, rfl⟩ := Own.form ho9
          have b8' := W_hid b8
          clear cA ho9 ho7 b8
          go_wp2_with fail
          refine cE.out.mono ?_
          rintro e x9 ⟨rfl, b9⟩
          have b10 := b8'.out.trans (b9.mono b8'.out.size)
          have hP10 := W_hid (hP7.out.keep b10)
          have hb10 := W_hid (hb7.out.trans (b10.mono hb7.out.size))
          clear cE b9 b10
          go_wp2_with fail
          go_roundw
          case rel => exact ⟨j + 1, S, M', by omega, by omega, by go_num, hP10, hb10⟩
          case measure => simp [intOf]; omega
      · have cX := W_hid (Trunc_left n f hP6.out hn64 ⟨z5, z6⟩)
        go_wp2_with fail
        refine cX.out.mono ?_
        rintro e x7 ⟨r, rfl, hL⟩
        have hL := W_hid hL
        clear cX
        obtain ⟨S', M', hP7, hK7, hne⟩ := hL.out
        have hb7 := W_hid (hb6.out.trans ((below_keeps hK7).mono hbase))
        by_cases hr : r = 0
        · subst hr
          replace hP7 := W_hid hP7
          clear hL hK7 hne
          go_wp2_with fail
          go_roundw
          case rel => exact ⟨j + 1, S', M', by omega, by omega, by go_num, hP7, hb7⟩
          case measure => simp [intOf]; omega
        · have hS := hne hr
          rw [hS] at hP7
          have cA := W_hid (All_any x7 hP7)
          have ho7 := W_hid (own_keeps ho6.out hK7)
          replace hP7 := W_hid hP7
          have hll6 := lst_len S 6
          clear hL hK7 hne hS
          go_wp2_with fail
          refine cA.out.mono ?_
          rintro e x8 ⟨v9, rfl, ho9, b8⟩
          have cE := W_hid (Same_yes v9 _ _ _ (lst S 6) x8 (by omega) ho9 (Own.below ho7.out b8))
          obtain ⟨ao9, c9, rfl⟩ := Own.form ho9
          have b8' := W_hid b8
          clear cA ho9 ho7 b8
          go_wp2_with fail
          refine cE.out.mono ?_
          rintro e x9 ⟨rfl, b9⟩
          have b10 := b8'.out.trans (b9.mono b8'.out.size)
          have hP10 := W_hid (hP7.out.keep b10)
          have hb10 := W_hid (hb7.out.trans (b10.mono hb7.out.size))
          clear cE b9 b10
          go_wp2_with fail
          go_roundw
          case rel => exact ⟨j + 1, S, M', by omega, by omega, by go_num, hP10, hb10⟩
          case measure => simp [intOf]; omega
      · have cX := W_hid (Stat_left n hP6.out hn64)
        go_wp2_with fail
        refine cX.out.mono ?_
        rintro e x7 ⟨vv, r, rfl, hL⟩
        have hL := W_hid hL
        clear cX
        obtain ⟨S', M', hP7, hK7, hne⟩ := hL.out
        have hb7 := W_hid (hb6.out.trans ((below_keeps hK7).mono hbase))
        by_cases hr : r = 0
        · subst hr
          replace hP7 := W_hid hP7
          clear hL hK7 hne
          go_wp2_with fail
          go_roundw
          case rel => exact ⟨j + 1, S', M', by omega, by omega, by go_num, hP7, hb7⟩
          case measure => simp [intOf]; omega
        · have hS := hne hr
          rw [hS] at hP7
          have cA := W_hid (All_any x7 hP7)
          have ho7 := W_hid (own_keeps ho6.out hK7)
          replace hP7 := W_hid hP7
          have hll6 := lst_len S 6
          clear hL hK7 hne hS
          go_wp2_with fail
          refine cA.out.mono ?_
          rintro e x8 ⟨v9, rfl, ho9, b8⟩
          have cE := W_hid (Same_yes v9 _ _ _ (lst S 6) x8 (by omega) ho9 (Own.below ho7.out b8))
          obtain ⟨ao9, c9, rfl⟩ := Own.form ho9
          have b8' := W_hid b8
          clear cA ho9 ho7 b8
          go_wp2_with fail
          refine cE.out.mono ?_
          rintro e x9 ⟨rfl, b9⟩
          have b10 := b8'.out.trans (b9.mono b8'.out.size)
          have hP10 := W_hid (hP7.out.keep b10)
          have hb10 := W_hid (hb7.out.trans (b10.mono hb7.out.size))
          clear cE b9 b10
          go_wp2_with fail
          go_roundw
          case rel => exact ⟨j + 1, S, M', by omega, by omega, by go_num, hP10, hb10⟩
          case measure => simp [intOf]; omega
    · have hex : (¬ j < n0) ∨ (j < n0 ∧ ¬ j < 100) := by omega
      rcases hex with h1 | ⟨h1, h2⟩
      all_goals
        go_wp2_with fail
        go_ret
        exact ⟨rfl, hb.out⟩

set_option maxRecDepth 100000 in
theorem InodeIdle_lifted (os : Os) (started : os.Started) (H : Type) (enc : TypeId × Value → H) :
    ReturnsInHanded {} Try.checked os 5 .any (Rows.inodeIdleSpec.pre6 enc Try.prog Try.f5 Rows.inodeIdleRow.domain false) (Rows.inodeIdleSpec.post enc Try.prog Try.f5 false true false false) := by
  refine returnsInHanded_of_change (C := Try.checked) (by kernel_rfl) started (by kernel_rfl) Try.func5
    (ChangeSpec.witness6 (enc := enc) (C := Try.checked) false ⟨#[], #[.slice none 0 0], []⟩ 8 (by kernel_rfl) (by kernel_rfl) (by kernel_rfl) (by kernel_rfl)) ?_
  intro W base args ds gs before hval0 hW hcnd _
  have hval : ∀ (j : Nat) t v, Try.f5.params[j]? = some t → args[j]? = some v → Value.okWide Try.prog W .any base t v := hval0
  have hW' := hW
  obtain ⟨p, q, hA0, hV, rfl, hfz, hnd⟩ := hW
  have hA : DataW.TrodAll enc Try.prog W 0 (fun _ => true) true Try.f5.params.toList args.toList ds p := hA0
  rw [Try.params5] at hA hval
  obtain ⟨v0, vs0, d0, ds0, p0, q0, hargs, rfl, rfl, h0, r0⟩ := trodAll_cons hA
  obtain ⟨rfl, rfl, rfl⟩ := trodAll_nil r0
  obtain rfl : args = #[v0] := by cases args; simp_all
  obtain ⟨rfl, rfl⟩ := trodVars_none hV
  have k0 := h0
  have lt0 : ∀ x ∈ p0, x.block < W.heap.size := by obtain ⟨m, hm⟩ := k0; exact DataW.trod_lt m _ _ _ hm
  obtain ⟨o0, n0, c0, l0, rfl, w0⟩ := open_ops11 (hval 0 24 v0 rfl rfl) h0
  clear hA0 hval0
  refine (InodeIdle_walk o0 n0 c0 l0 W w0).mono fun e W' ⟨he, bel⟩ => ?_
  subst he
  exact ⟨_, rfl, _, _, _, [], _, [], hW', trodAll_mk1 (shut_bool Try.underlying4 _), (trodAll_cons_mk (Below.trod laidOut (by kernel_rfl) (of_decide_eq_true (by kernel_rfl)) k0 bel lt0) trodAll_mk0), rfl, bel.frame _, fun h => by cases h⟩

/-- The given statement of InodeIdle. -/
theorem InodeIdle_holds : Rows.InodeIdleSaid :=
  OpenClaim.holds_of_wide 5 Try.f5 rfl rfl rfl rfl rfl rfl rfl ⟨rfl, rfl, rfl, rfl, rfl⟩ rfl rfl rfl rfl rfl (by kernel_rfl) Try.func5 (by kernel_rfl)
    (of_decide_eq_true (by kernel_rfl)) (by unfold Func.isWrapper; first | (rw [if_pos (by decide +kernel)]; kernel_rfl) | (rw [if_neg (by decide +kernel)]; exact ⟨rfl, rfl⟩))
    (fun os started H enc _ => InodeIdle_lifted os started H enc)
end Go.Proofs.Ytieneehpijilpaa

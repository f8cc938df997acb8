/- The laws of layer 6, continued: FrameOnce: for every input it returns true, and its arguments read as before. No further condition. -/
import Derived.Test.YtpmpmjebhdohcaaLaws06b
namespace Go.Proofs.Ytpmpmjebhdohcaa
open Go.ChangeShapes Go.WideShapes Go.ChangeAt Go.RowKit
set_option linter.unusedVariables false
set_option linter.unusedSimpArgs false

set_option maxRecDepth 100000 in
set_option maxHeartbeats 2000000 in
theorem FrameOnce_walk (a0 : Int) (a1 : Option Addr) (len1 cap1 : Nat) (z1 : List Int) (w : World) (w0 : (Lit.int .i64 a0).wf = true) (w1 : IsRow .i64 w a1 len1 cap1 z1) :
    Calls Try.prog 4 #[.int .i64 a0, .slice a1 len1 cap1] w fun e w' => e = .returned (.bool true) ∧ Below w.heap.size w w' := by
  obtain ⟨hlen, hrow⟩ := row_at w1
  have hlen2 : (len1 : Int) ≤ 9223372036854775807 := by unfold maxLen at hlen; omega
  replace hrow := W_hid hrow
  clear w0 w1 hlen
  go_enter Try.func4, Try.ntmps4
  go_wp2_with fail
  refine (shown_any _).mono ?_
  rintro e w1 ⟨rfl, bel1⟩
  by_cases h1 : a0 < 1
  · have d1 : decide (a0 < 1) = true := by simpa using h1
    clear h1
    go_wp2
    go_ret
    exact ⟨rfl, bel1⟩
  by_cases h2 : 1000 < a0
  · have d1 : decide (a0 < 1) = false := by simpa using h1
    have d2 : decide (1000 < a0) = true := by simpa using h2
    clear h1 h2
    go_wp2
    go_ret
    exact ⟨rfl, bel1⟩
  obtain ⟨n, rfl⟩ : ∃ n : Nat, a0 = n := ⟨a0.toNat, by omega⟩
  have d1 : decide ((n : Int) < 1) = false := by simpa using h1
  have d2 : decide (1000 < (n : Int)) = false := by simpa using h2
  have hn1 : 1 ≤ n := by omega
  have hn2 : n ≤ 65536 := by omega
  have hn3 : n ≤ 1000 := by omega
  clear h1 h2
  go_wp2_with fail
  refine (New_yes n hn1 hn2 _).mono ?_
  rintro e w2 ⟨g, rfl, hg, hpl, bel2⟩
  obtain ⟨b, hb⟩ : ∃ b, w1.heap.size = b := ⟨_, rfl⟩
  rw [hb] at hg hpl
  have hwb : w.heap.size ≤ b := by rw [← hb]; exact bel1.size
  obtain ⟨m, hm⟩ : ∃ m, words n = m := ⟨_, rfl⟩
  rw [hm] at hpl
  obtain ⟨X, hmk, hX⟩ := make_bools n hn2
  have hx := hX w2
  have hc0 : FM.cnt (fresh n) 0 n = 0 := fresh_cnt n
  rw [brow_congr _ (fresh n) n (fun x hx => (fresh_low n x hx).symm)] at hx
  obtain ⟨T0, hT0⟩ : ∃ T0, fresh n = T0 := ⟨_, rfl⟩
  rw [hT0] at hpl hx hc0
  replace bel2 : Below w.heap.size w w2 := bel1.trans (bel2.mono bel1.size)
  obtain ⟨c, hc⟩ : ∃ c, w2.heap.size = c := ⟨_, rfl⟩
  have hcg : g < c := by rw [← hc]; exact hpl.box.elim fun lf e => e.2.lt
  have hwc : w.heap.size ≤ c := by omega
  have hplX := hpl.keep ((Below.refl _ w2).alloc (Nat.le_refl _) X)
  have belX := bel2.alloc bel2.size X
  have hmkw := hmk w2
  rw [hc] at hx hmkw
  replace hc0 := W_hid hc0
  clear bel1 hb hm hT0 hX hmk hpl hc
  go_wp2_with fail
  go_loopw [9, 10, 11, 12, 13] (fun gv i _ _ _ wr => ∃ (j : Nat) (T : Nat → Bool), j ≤ len1 ∧ i = .int .i64 j ∧ gv = .int .i64 ((FM.cnt T 0 n : Nat) : Int) ∧ PL wr g b n m T ∧ Blk wr c 4 (brow T n) ∧ Below w.heap.size w wr) (fun _ i _ _ _ _ => len1 - (intOf i).toNat)
  case atStart => exact ⟨0, T0, by omega, rfl, by rw [hc0.out]; rfl, hplX, hx, belX⟩
  case round =>
    obtain ⟨j, T, hj, rfl, rfl, hp, hmet, bel⟩ := hrel
    have hle := FM.cnt_le T 0 n
    have go_on : Hid (∀ w', Two g b wr w' → Below w.heap.size w w') := fun w' two => bel.trans (two.below bel.size (by omega) hwb)
    by_cases hlt : j < len1 ∧ j < 200
    · obtain ⟨hl1, hl2⟩ := hlt
      obtain ⟨blk, off, rfl, hblk, hc, hz1, hz2⟩ := hrow.out j hl1
      obtain ⟨z, hz⟩ : ∃ z, z1.getD j 0 = z := ⟨_, rfl⟩
      rw [hz] at hc hz1 hz2
      have hcell : wr.cell? ⟨blk, off + j, none⟩ = some (.int .i64 z) := by rw [bel.cell (p := ⟨blk, off + j, none⟩) hblk]; exact hc
      obtain ⟨a, e, T', hgets, hA⟩ := alloc_some g b n m T z
      rcases hgets with ⟨rfl, rfl, rfl, -⟩ | ⟨rfl, rfl, rfl, -⟩ | ⟨rfl, q, rfl, hq, hlow, rfl⟩
      case inl | inr.inl =>
        clear hz
        go_wp2_with fail
        refine (hA.out _ hp).mono ?_
        rintro r w4 ⟨rfl, hp4, two⟩
        have hmet4 := hmet.two two (by omega) (by omega)
        have bel4 := go_on.out _ two
        go_wp2
        go_roundw
        case rel => exact ⟨j + 1, _, by omega, by go_num, rfl, hp4, hmet4, bel4⟩
        case measure => simp [intOf]; omega
      have hq2 := (FM.run_le hq).2
      have haq := hlow.2.1
      have hfree := W_hid hlow.2.2.1
      have hcnt := FM.cnt_st T n a q true hlow.2.1
      rw [(FM.cnt_zero T a q).2 hlow.2.2.1, if_pos rfl, Nat.add_zero] at hcnt
      replace hcnt := W_hid hcnt
      clear hz hlow hq
      go_wp2_with fail
      refine (hA.out _ hp).mono ?_
      rintro r w4 ⟨rfl, hp4, two⟩
      have hmet4 := hmet.two two (by omega) (by omega)
      have bel4 := go_on.out _ two
      clear hp hmet hcell bel go_on
      go_wp2_with fail
      go_loopw [9, 13] (fun gv k wx => ∃ t : Nat, t ≤ q ∧ k = .int .u64 ((a : Int) + t) ∧ gv = .int .i64 ((FM.cnt T 0 n : Int) + t) ∧ PL wx g b n m (FM.st T a q true) ∧ Blk wx c 4 (brow (FM.st T a t true) n) ∧ Below w.heap.size w wx) (fun _ k _ => a + q - (intOf k).toNat)
      case atStart => exact ⟨0, by omega, by simp, by simp, hp4, by rw [FM.st_zero]; exact hmet4, bel4⟩
      case round =>
        obtain ⟨t, ht, rfl, rfl, hpx, hmx, belx⟩ := hrel
        have hcell : wr.cell? ⟨blk, off + j, none⟩ = some (.int .i64 q) := by rw [belx.cell (p := ⟨blk, off + j, none⟩) hblk]; exact hc
        by_cases hlt : t < q
        · have hmc : wr.cell? ⟨c, a + t, none⟩ = some (.bool false) := by
            have := hmx.cell (brow_get _ n (a + t) (by omega))
            rwa [FM.st_out _ _ _ _ _ (by omega), hfree.out t hlt] at this
          have hTk := Taken_any g b n m (a + t) (FM.st T a q true) true wr hpx (by omega) (by rw [decide_eq_true (show a + t < n by omega), FM.st_in T a q true t hlt]; rfl)
          rw [Int.natCast_add] at hTk
          replace hTk := W_hid hTk
          have hidx : (a : Int) + t < n := by omega
          have hto : ((a : Int) + t).toNat = a + t := by omega
          have hltq : (a : Int) + t < (a : Int) + q := by omega
          go_wp2_with fail
          refine hTk.out.mono ?_
          rintro r w5 ⟨rfl, bel5⟩
          have hm5 := hmx.keep bel5
          have hp5 := hpx.keep bel5
          have hc5 : w5.cell? ⟨c, a + t, none⟩ = some (.bool false) := by rw [bel5.cell (p := ⟨c, a + t, none⟩) hmx.lt]; exact hmc
          have hf5 := hm5.fz
          have hset := hm5.set (a + t) (.bool true)
          rw [brow_set _ _ _ _ (by omega), FM.st_step] at hset
          have tw : Two c c w5 (w5.setCell ⟨c, a + t, none⟩ (.bool true)) := (Two.refl c c w5).setCell (.inl rfl) _
          have hp6 := hp5.two tw (by omega) (by omega) (by omega) (by omega)
          have bel6 := (belx.trans (bel5.mono belx.size)).setCell (p := ⟨c, a + t, none⟩) hwc (.bool true)
          clear hm5 hp5 tw
          go_wp2
          go_roundw
          case rel => exact ⟨t + 1, by omega, by go_num, by go_num, hp6, hset, bel6⟩
          case measure => simp [intOf]; omega
        · obtain rfl : t = q := by omega
          have hgv : ((FM.cnt T 0 n : Int) + t) = ((FM.cnt (FM.st T a t true) 0 n : Nat) : Int) := by rw [hcnt.out]; omega
          go_wp2
          go_roundw
          case rel => exact ⟨j + 1, FM.st T a t true, by omega, by go_num, by rw [hgv], hpx, hmx, belx⟩
          case measure => simp [intOf]; omega
    · have hL := W_hid (fun w h => Left_any g b n m T w h)
      obtain ⟨G, hG⟩ : ∃ G, FM.cnt T 0 n = G := ⟨_, rfl⟩
      rw [hG] at hL hle ⊢
      obtain ⟨L, hLe⟩ : ∃ L, n - G = L := ⟨_, rfl⟩
      rw [hLe] at hL
      have d5 : ((L : Int) == (n : Int) - G) = true := by simp; omega
      by_cases hx : j < len1
      · have d3 : decide (j < len1) = true := by simpa using hx
        have d4 : decide ((j : Int) < 200) = false := by simp; omega
        clear hlt hx hLe hG
        go_wp2_with fail
        refine (hL.out _ hp).mono ?_
        rintro r w4 ⟨rfl, rfl⟩
        go_wp2
        go_ret
        exact ⟨rfl, bel⟩
      · have d3 : decide (j < len1) = false := by simpa using hx
        clear hlt hx hLe hG
        go_wp2_with fail
        refine (hL.out _ hp).mono ?_
        rintro r w4 ⟨rfl, rfl⟩
        go_wp2
        go_ret
        exact ⟨rfl, bel⟩

set_option maxRecDepth 100000 in
theorem FrameOnce_lifted (os : Os) (started : os.Started) (H : Type) (enc : TypeId × Value → H) :
    ReturnsInHanded {} Try.checked os 4 .any (Rows.frameOnceSpec.pre6 enc Try.prog Try.f4 Rows.frameOnceRow.domain false) (Rows.frameOnceSpec.post enc Try.prog Try.f4 false true false false) := by
  refine returnsInHanded_of_change (C := Try.checked) (by kernel_rfl) started (by kernel_rfl) Try.func4
    (ChangeSpec.witness6 (enc := enc) (C := Try.checked) false ⟨#[], #[.int .i64 0, .slice none 0 0], []⟩ 8 (by kernel_rfl) (by kernel_rfl) (by kernel_rfl) (by kernel_rfl)) ?_
  intro W base args ds gs before hval0 hW hcnd _
  have hval : ∀ (j : Nat) t v, Try.f4.params[j]? = some t → args[j]? = some v → Value.okWide Try.prog W .any base t v := hval0
  have hW' := hW
  obtain ⟨p, q, hA0, hV, rfl, hfz, hnd⟩ := hW
  have hA : DataW.TrodAll enc Try.prog W 0 (fun _ => true) true Try.f4.params.toList args.toList ds p := hA0
  rw [Try.params4] at hA hval
  obtain ⟨v0, vs0, d0, ds0, p0, q0, hargs, rfl, rfl, h0, r0⟩ := trodAll_cons hA
  obtain ⟨v1, vs1, d1, ds1, p1, q1, rfl, rfl, rfl, h1, r1⟩ := trodAll_cons r0
  obtain ⟨rfl, rfl, rfl⟩ := trodAll_nil r1
  obtain rfl : args = #[v0, v1] := by cases args; simp_all
  obtain ⟨rfl, rfl⟩ := trodVars_none hV
  obtain ⟨a0, rfl, rfl, rfl, w0⟩ := open_int Try.underlying3 (hval 0 3 v0 rfl rfl) h0
  obtain ⟨a1, len1, cap1, rfl⟩ := okWide_slice Try.underlying40 (hval 1 40 v1 rfl rfl)
  have k1 := h1
  have lt1 : ∀ x ∈ p1, x.block < W.heap.size := by obtain ⟨m, hm⟩ := k1; exact DataW.trod_lt m _ _ _ hm
  obtain ⟨z1, w1, s1⟩ : ∃ zs, IsRow .i64 W a1 len1 cap1 zs ∧ True := by
    obtain ⟨fuel, hf⟩ := h1
    rcases open_ints Try.underlying40 Try.underlying3 (by kernel_rfl) hf with ⟨hcs, _⟩ | ⟨x, l, c, zs, hcs, _, hl, hm, hz, hx, hcell, hwz⟩
    · simp [Value.cells] at hcs
      obtain ⟨rfl, rfl, rfl⟩ := hcs
      exact ⟨[], .inl ⟨rfl, rfl, rfl, rfl⟩, by simp⟩
    · simp [Value.cells] at hcs
      obtain ⟨rfl, rfl, rfl⟩ := hcs
      exact ⟨zs, .inr ⟨_, rfl, hl, hm, by simpa using hz, hcell, hwz⟩, trivial⟩
  clear hA0 hval0
  refine (FrameOnce_walk a0 a1 len1 cap1 z1 W w0 w1).mono fun e W' ⟨he, bel⟩ => ?_
  subst he
  exact ⟨_, rfl, _, _, _, [], _, [], hW', trodAll_mk1 (shut_bool Try.underlying4 _), (trodAll_cons_mk (shut_int Try.underlying3 w0) (trodAll_cons_mk (Below.trod laidOut (by kernel_rfl) (of_decide_eq_true (by kernel_rfl)) k1 bel lt1) trodAll_mk0)), rfl, bel.frame _, fun h => by cases h⟩

/-- The given statement of FrameOnce. -/
theorem FrameOnce_holds : Rows.FrameOnceSaid :=
  OpenClaim.holds_of_wide 4 Try.f4 rfl rfl rfl rfl rfl rfl rfl ⟨rfl, rfl, rfl, rfl, rfl⟩ rfl rfl rfl rfl rfl (by kernel_rfl) Try.func4 (by kernel_rfl)
    (of_decide_eq_true (by kernel_rfl)) (by unfold Func.isWrapper; first | (rw [if_pos (by decide +kernel)]; kernel_rfl) | (rw [if_neg (by decide +kernel)]; exact ⟨rfl, rfl⟩))
    (fun os started H enc _ => FrameOnce_lifted os started H enc)

end Go.Proofs.Ytpmpmjebhdohcaa

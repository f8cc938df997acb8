/- The laws of layer 6, continued: FrameBack: for every input it returns true, and its arguments read as before. No further condition. -/
import Derived.Test.YtpmpmjebhdohcaaLaws06
namespace Go.Proofs.Ytpmpmjebhdohcaa
open Go.ChangeShapes Go.WideShapes Go.ChangeAt Go.RowKit
set_option linter.unusedVariables false
set_option linter.unusedSimpArgs false

/-- Any call of Alloc: it gives something, and the pool is one again. -/
theorem alloc_some (g b n m : Nat) (T : Nat → Bool) (k : Int) : ∃ (a e : Nat) (T' : Nat → Bool), FM.Gets T n k a e T' ∧ Hid (∀ w, PL w g b n m T → Calls Try.prog 13 #[.pointer (some ⟨g, 0, none⟩), .int .i64 k] w fun r w' =>
    r = .returned (.tuple #[.int .u64 a, .int .i64 e]) ∧ PL w' g b n m T' ∧ Two g b w w') := by
  obtain ⟨a, e, T', h⟩ := FM.gets_some T n k
  exact ⟨a, e, T', h, fun w hp => Alloc_any g b n m T T' k a e w hp h⟩

set_option maxHeartbeats 2000000 in
theorem FrameBack_walk (a0 : Int) (a1 : Option Addr) (len1 cap1 : Nat) (z1 : List Int) (a2 : Int) (w : World) (w0 : (Lit.int .i64 a0).wf = true) (w1 : IsRow .i64 w a1 len1 cap1 z1) (w2 : (Lit.int .i64 a2).wf = true) :
    Calls Try.prog 5 #[.int .i64 a0, .slice a1 len1 cap1, .int .i64 a2] w fun e w' => e = .returned (.bool true) ∧ Below w.heap.size w w' := by
  obtain ⟨hlen, hrow⟩ := row_at w1
  have hlen2 : (len1 : Int) ≤ 9223372036854775807 := by unfold maxLen at hlen; omega
  replace hrow := W_hid hrow
  have ha2 := bounds_i64 w2
  clear w0 w1 w2 hlen
  go_enter Try.func5, Try.ntmps5
  go_wp2_with fail
  refine (shown_any _).mono ?_
  rintro e w1 ⟨rfl, bel1⟩
  by_cases h1 : a0 < 1
  · have d1 : decide (a0 < 1) = true := by simpa using h1
    clear h1
    go_wp2
    go_ret
    exact ⟨rfl, bel1⟩
  by_cases h2 : 1000 < a0
  · have d1 : decide (a0 < 1) = false := by simpa using h1
    have d2 : decide (1000 < a0) = true := by simpa using h2
    clear h1 h2
    go_wp2
    go_ret
    exact ⟨rfl, bel1⟩
  obtain ⟨n, rfl⟩ : ∃ n : Nat, a0 = n := ⟨a0.toNat, by omega⟩
  have d1 : decide ((n : Int) < 1) = false := by simpa using h1
  have d2 : decide (1000 < (n : Int)) = false := by simpa using h2
  have hn1 : 1 ≤ n := by omega
  have hn2 : n ≤ 65536 := by omega
  clear h1 h2
  go_wp2_with fail
  refine (New_yes n hn1 hn2 _).mono ?_
  rintro e w2 ⟨g, rfl, hg, hpl, bel2⟩
  obtain ⟨b, hb⟩ : ∃ b, w1.heap.size = b := ⟨_, rfl⟩
  rw [hb] at hg hpl
  have hwb : w.heap.size ≤ b := by rw [← hb]; exact bel1.size
  obtain ⟨m, hm⟩ : ∃ m, words n = m := ⟨_, rfl⟩
  rw [hm] at hpl
  obtain ⟨T0, hT0⟩ : ∃ T0, fresh n = T0 := ⟨_, rfl⟩
  rw [hT0] at hpl
  replace bel2 : Below w.heap.size w w2 := bel1.trans (bel2.mono bel1.size)
  clear bel1 hb hm hT0
  go_wp2_with fail
  go_loopw [10] (fun i wr => ∃ (j : Nat) (T : Nat → Bool), j ≤ len1 ∧ i = .int .i64 j ∧ PL wr g b n m T ∧ Below w.heap.size w wr) (fun i _ => len1 - (intOf i).toNat)
  case atStart => exact ⟨0, T0, by omega, rfl, hpl, bel2⟩
  case round =>
    obtain ⟨j, T, hj, rfl, hp, bel⟩ := hrel
    have go_on : Hid (∀ w', Two g b wr w' → Below w.heap.size w w') := fun w' two => bel.trans (two.below bel.size (by omega) hwb)
    by_cases hlt : j < len1 ∧ j < 50
    · obtain ⟨hl1, hl2⟩ := hlt
      obtain ⟨blk, off, rfl, hblk, hc, hz1, hz2⟩ := hrow.out j hl1
      obtain ⟨z, hz⟩ : ∃ z, z1.getD j 0 = z := ⟨_, rfl⟩
      rw [hz] at hc hz1 hz2
      have hcell : wr.cell? ⟨blk, off + j, none⟩ = some (.int .i64 z) := by rw [bel.cell (p := ⟨blk, off + j, none⟩) hblk]; exact hc
      obtain ⟨a, e, T', -, hA⟩ := alloc_some g b n m T z
      clear hz hc
      go_wp2_with fail
      refine (hA.out _ hp).mono ?_
      rintro r w4 ⟨rfl, hp4, two⟩
      have bel4 := go_on.out _ two
      go_wp2
      go_roundw
      case rel => exact ⟨j + 1, T', by omega, by go_num, hp4, bel4⟩
      case measure => simp [intOf]; omega
    · have hL := W_hid (fun w h => Left_any g b n m T w h)
      obtain ⟨L, hLe⟩ : ∃ L, n - FM.cnt T 0 n = L := ⟨_, rfl⟩
      rw [hLe] at hL
      obtain ⟨a, e, T', hgets, hA⟩ := alloc_some g b n m T a2
      rcases hgets with ⟨rfl, rfl, rfl, -⟩ | ⟨rfl, rfl, rfl, -⟩ | ⟨rfl, q, rfl, hq, hlow, rfl⟩
      case inl | inr.inl =>
        clear hLe
        by_cases hx : j < len1
        case pos =>
          have d3 : decide (j < len1) = true := by simpa using hx
          have d4 : decide ((j : Int) < 50) = false := by simp; omega
          clear hlt hx
          go_wp2_with fail
          refine (hL.out _ hp).mono ?_
          rintro r w4 ⟨rfl, rfl⟩
          go_wp2_with fail
          refine (hA.out _ hp).mono ?_
          rintro r w5 ⟨rfl, hp5, two⟩
          have bel5 := go_on.out _ two
          go_wp2_with fail
          refine (hL.out _ hp5).mono ?_
          rintro r w6 ⟨rfl, rfl⟩
          go_wp2
          go_ret
          exact ⟨rfl, bel5⟩
        case neg =>
          have d3 : decide (j < len1) = false := by simpa using hx
          clear hlt hx
          go_wp2_with fail
          refine (hL.out _ hp).mono ?_
          rintro r w4 ⟨rfl, rfl⟩
          go_wp2_with fail
          refine (hA.out _ hp).mono ?_
          rintro r w5 ⟨rfl, hp5, two⟩
          have bel5 := go_on.out _ two
          go_wp2_with fail
          refine (hL.out _ hp5).mono ?_
          rintro r w6 ⟨rfl, rfl⟩
          go_wp2
          go_ret
          exact ⟨rfl, bel5⟩
      have hback : FM.st (FM.st T a q true) a q false = T := FM.st_back T a q true false hlow.2.2.1
      have ha : a < 18446744073709551616 := by have := hlow.2.1; omega
      have hq1 := (FM.run_le hq).1
      have hF1 := W_hid (fun w h => Free_any g b n m a (FM.st T a q true) _ (q : Int) 0 w h ha (.inr (.inr (.inr ⟨rfl, q, rfl, hq, hlow.1, hlow.2.1, FM.st_in _ _ _ _, rfl⟩))))
      rw [hback] at hF1
      have hF2 := W_hid (fun w h => Free_any g b n m a T T (q : Int) 101 w h ha (.inr (.inr (.inl ⟨rfl, rfl, q, rfl, hq, hlow.1, hlow.2.1, fun hh => by
        have e1 := hh 0 (by omega)
        rw [hlow.2.2.1 0 (by omega)] at e1
        cases e1⟩))))
      have hL1 := W_hid (fun w h => Left_any g b n m (FM.st T a q true) w h)
      have hcnt := FM.cnt_st T n a q true hlow.2.1
      rw [(FM.cnt_zero T a q).2 hlow.2.2.1, if_pos rfl] at hcnt
      have hcl := FM.cnt_le (FM.st T a q true) 0 n
      obtain ⟨L1, hLe1⟩ : ∃ L1, n - FM.cnt (FM.st T a q true) 0 n = L1 := ⟨_, rfl⟩
      rw [hLe1] at hL1
      have d5 : ((L1 : Int) == (L : Int) - q) = true := by simp; omega
      have d6 : L ≤ 65536 := by omega
      have d7 : q ≤ 65536 := by omega
      have d8 : q ≤ L := by omega
      obtain ⟨T1, hT1⟩ : ∃ T1, FM.st T a q true = T1 := ⟨_, rfl⟩
      rw [hT1] at hA hF1 hL1
      clear hLe hLe1 hcnt hcl hback hlow hq hT1
      by_cases hx : j < len1
      case pos =>
        have d3 : decide (j < len1) = true := by simpa using hx
        have d4 : decide ((j : Int) < 50) = false := by simp; omega
        clear hlt hx
        go_wp2_with fail
        refine (hL.out _ hp).mono ?_
        rintro r w4 ⟨rfl, rfl⟩
        go_wp2_with fail
        refine (hA.out _ hp).mono ?_
        rintro r w5 ⟨rfl, hp5, two5⟩
        go_wp2_with fail
        refine (hF1.out _ hp5).mono ?_
        rintro r w6 ⟨rfl, hp6, two6⟩
        go_wp2_with fail
        refine (hF2.out _ hp6).mono ?_
        rintro r w7 ⟨rfl, hp7, two7⟩
        go_wp2_with fail
        refine (hA.out _ hp7).mono ?_
        rintro r w8 ⟨rfl, hp8, two8⟩
        have bel8 := go_on.out _ (((two5.trans two6).trans two7).trans two8)
        go_wp2_with fail
        refine (hL1.out _ hp8).mono ?_
        rintro r w9 ⟨rfl, rfl⟩
        go_wp2
        go_ret
        exact ⟨rfl, bel8⟩
      case neg =>
        have d3 : decide (j < len1) = false := by simpa using hx
        clear hlt hx
        go_wp2_with fail
        refine (hL.out _ hp).mono ?_
        rintro r w4 ⟨rfl, rfl⟩
        go_wp2_with fail
        refine (hA.out _ hp).mono ?_
        rintro r w5 ⟨rfl, hp5, two5⟩
        go_wp2_with fail
        refine (hF1.out _ hp5).mono ?_
        rintro r w6 ⟨rfl, hp6, two6⟩
        go_wp2_with fail
        refine (hF2.out _ hp6).mono ?_
        rintro r w7 ⟨rfl, hp7, two7⟩
        go_wp2_with fail
        refine (hA.out _ hp7).mono ?_
        rintro r w8 ⟨rfl, hp8, two8⟩
        have bel8 := go_on.out _ (((two5.trans two6).trans two7).trans two8)
        go_wp2_with fail
        refine (hL1.out _ hp8).mono ?_
        rintro r w9 ⟨rfl, rfl⟩
        go_wp2
        go_ret
        exact ⟨rfl, bel8⟩

set_option maxRecDepth 100000 in
theorem FrameBack_lifted (os : Os) (started : os.Started) (H : Type) (enc : TypeId × Value → H) :
    ReturnsInHanded {} Try.checked os 5 .any (Rows.frameBackSpec.pre6 enc Try.prog Try.f5 Rows.frameBackRow.domain false) (Rows.frameBackSpec.post enc Try.prog Try.f5 false true false false) := by
  refine returnsInHanded_of_change (C := Try.checked) (by kernel_rfl) started (by kernel_rfl) Try.func5
    (ChangeSpec.witness6 (enc := enc) (C := Try.checked) false ⟨#[], #[.int .i64 0, .slice none 0 0, .int .i64 0], []⟩ 8 (by kernel_rfl) (by kernel_rfl) (by kernel_rfl) (by kernel_rfl)) ?_
  intro W base args ds gs before hval0 hW hcnd _
  have hval : ∀ (j : Nat) t v, Try.f5.params[j]? = some t → args[j]? = some v → Value.okWide Try.prog W .any base t v := hval0
  have hW' := hW
  obtain ⟨p, q, hA0, hV, rfl, hfz, hnd⟩ := hW
  have hA : DataW.TrodAll enc Try.prog W 0 (fun _ => true) true Try.f5.params.toList args.toList ds p := hA0
  rw [Try.params5] at hA hval
  obtain ⟨v0, vs0, d0, ds0, p0, q0, hargs, rfl, rfl, h0, r0⟩ := trodAll_cons hA
  obtain ⟨v1, vs1, d1, ds1, p1, q1, rfl, rfl, rfl, h1, r1⟩ := trodAll_cons r0
  obtain ⟨v2, vs2, d2, ds2, p2, q2, rfl, rfl, rfl, h2, r2⟩ := trodAll_cons r1
  obtain ⟨rfl, rfl, rfl⟩ := trodAll_nil r2
  obtain rfl : args = #[v0, v1, v2] := by cases args; simp_all
  obtain ⟨rfl, rfl⟩ := trodVars_none hV
  obtain ⟨a0, rfl, rfl, rfl, w0⟩ := open_int Try.underlying3 (hval 0 3 v0 rfl rfl) h0
  obtain ⟨a1, len1, cap1, rfl⟩ := okWide_slice Try.underlying40 (hval 1 40 v1 rfl rfl)
  have k1 := h1
  have lt1 : ∀ x ∈ p1, x.block < W.heap.size := by obtain ⟨m, hm⟩ := k1; exact DataW.trod_lt m _ _ _ hm
  obtain ⟨z1, w1, s1⟩ : ∃ zs, IsRow .i64 W a1 len1 cap1 zs ∧ True := by
    obtain ⟨fuel, hf⟩ := h1
    rcases open_ints Try.underlying40 Try.underlying3 (by kernel_rfl) hf with ⟨hcs, _⟩ | ⟨x, l, c, zs, hcs, _, hl, hm, hz, hx, hcell, hwz⟩
    · simp [Value.cells] at hcs
      obtain ⟨rfl, rfl, rfl⟩ := hcs
      exact ⟨[], .inl ⟨rfl, rfl, rfl, rfl⟩, by simp⟩
    · simp [Value.cells] at hcs
      obtain ⟨rfl, rfl, rfl⟩ := hcs
      exact ⟨zs, .inr ⟨_, rfl, hl, hm, by simpa using hz, hcell, hwz⟩, trivial⟩
  obtain ⟨a2, rfl, rfl, rfl, w2⟩ := open_int Try.underlying3 (hval 2 3 v2 rfl rfl) h2
  clear hA0 hval0
  refine (FrameBack_walk a0 a1 len1 cap1 z1 a2 W w0 w1 w2).mono fun e W' ⟨he, bel⟩ => ?_
  subst he
  exact ⟨_, rfl, _, _, _, [], _, [], hW', trodAll_mk1 (shut_bool Try.underlying4 _), (trodAll_cons_mk (shut_int Try.underlying3 w0) (trodAll_cons_mk (Below.trod laidOut (by kernel_rfl) (of_decide_eq_true (by kernel_rfl)) k1 bel lt1) (trodAll_cons_mk (shut_int Try.underlying3 w2) trodAll_mk0))), rfl, bel.frame _, fun h => by cases h⟩

/-- The given statement of FrameBack. -/
theorem FrameBack_holds : Rows.FrameBackSaid :=
  OpenClaim.holds_of_wide 5 Try.f5 rfl rfl rfl rfl rfl rfl rfl ⟨rfl, rfl, rfl, rfl, rfl⟩ rfl rfl rfl rfl rfl (by kernel_rfl) Try.func5 (by kernel_rfl)
    (of_decide_eq_true (by kernel_rfl)) (by unfold Func.isWrapper; first | (rw [if_pos (by decide +kernel)]; kernel_rfl) | (rw [if_neg (by decide +kernel)]; exact ⟨rfl, rfl⟩))
    (fun os started H enc _ => FrameBack_lifted os started H enc)

end Go.Proofs.Ytpmpmjebhdohcaa

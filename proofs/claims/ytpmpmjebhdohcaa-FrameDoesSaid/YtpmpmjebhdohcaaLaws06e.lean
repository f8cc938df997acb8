/- The laws of layer 6, continued: FrameDoes: for every input it returns true, and its arguments read as before. No further condition. -/
import Derived.Test.YtpmpmjebhdohcaaLaws06d
namespace Go.Proofs.Ytpmpmjebhdohcaa
open Go.ChangeShapes Go.WideShapes Go.ChangeAt Go.RowKit
set_option linter.unusedVariables false
set_option linter.unusedSimpArgs false

/-- Both pools, and a call that was copied. -/
structure St (w0 W : World) (g b n m c x : Nat) (T U : Nat → Bool) (bk : Bool) (f : Nat) (k : Int) : Prop where
  pl : PL W g b n m T
  rl : RL W (c + 1) c n U
  op : Blk W x 33 [.bool bk, .int .u64 f, .int .i64 k]
  bel : Below w0.heap.size w0 W
  h1 : w0.heap.size ≤ b
  h2 : b < g
  h3 : g < c
  h4 : c + 1 < x

section
variable {w0 W W' : World} {g b n m c x : Nat} {T T' U U' : Nat → Bool} {bk : Bool} {f : Nat} {k : Int}
theorem St.cc (h : St w0 W g b n m c x T U bk f k) : W.cell? ⟨x, 1, none⟩ = some (.int .u64 f) ∧ W.cell? ⟨x, 2, none⟩ = some (.int .i64 k) := ⟨h.op.cell rfl, h.op.cell rfl⟩
theorem St.drew (h : St w0 W g b n m c x T U bk f k) : St w0 W.drew g b n m c x T U bk f k := ⟨h.pl.drew, h.rl.drew, h.op, h.bel.drew, h.h1, h.h2, h.h3, h.h4⟩
theorem St.drewN (h : St w0 W g b n m c x T U bk f k) (q : Nat) : St w0 (W.drewN q) g b n m c x T U bk f k := ⟨h.pl.drewN q, h.rl.drewN q, h.op, below_drewN h.bel q, h.h1, h.h2, h.h3, h.h4⟩
theorem St.keep (h : St w0 W g b n m c x T U bk f k) (hb : Below W.heap.size W W') : St w0 W' g b n m c x T U bk f k := ⟨h.pl.keep hb, h.rl.keep hb, h.op.keep hb, h.bel.trans (hb.mono h.bel.size), h.h1, h.h2, h.h3, h.h4⟩
theorem St.one (h : St w0 W g b n m c x T U bk f k) (hp : PL W' g b n m T') (two : Two g b W W') : St w0 W' g b n m c x T' U bk f k := by
  have h1 := h.h1
  have h2 := h.h2
  have h3 := h.h3
  have h4 := h.h4
  exact ⟨hp, h.rl.two two (by omega) (by omega) (by omega) (by omega), h.op.two two (by omega) (by omega), h.bel.trans (two.below h.bel.size (by omega) h1), h1, h2, h3, h4⟩
theorem St.other (h : St w0 W g b n m c x T U bk f k) (hr : RL W' (c + 1) c n U') (two : Two (c + 1) c W W') : St w0 W' g b n m c x T U' bk f k := by
  have h1 := h.h1
  have h2 := h.h2
  have h3 := h.h3
  have h4 := h.h4
  exact ⟨h.pl.two two (by omega) (by omega) (by omega) (by omega), hr, h.op.two two (by omega) (by omega), h.bel.trans (two.below h.bel.size (by omega) (by omega)), h1, h2, h3, h4⟩
end

set_option maxRecDepth 100000 in
set_option maxHeartbeats 4000000 in
theorem FrameDoes_walk (a0 : Int) (o1 : Option Addr) (n1 c1 : Nat) (l1 : List (Bool × Nat × Int)) (w : World) (w0 : (Lit.int .i64 a0).wf = true) (w1 : OS w o1 n1 c1 l1) :
    Calls Try.prog 3 #[.int .i64 a0, .slice o1 n1 c1] w fun e w' => e = .returned (.bool true) ∧ Below w.heap.size w w' := by
  obtain ⟨hlen, hll, hops⟩ := w1
  have hlen2 : (n1 : Int) ≤ 9223372036854775807 := by unfold maxLen at hlen; omega
  replace hops := W_hid hops
  replace hll := W_hid hll
  clear w0 hlen
  go_enter Try.func3, Try.ntmps3
  go_wp2_with fail
  refine (shown_any _).mono ?_
  rintro e w1 ⟨rfl, bel1⟩
  by_cases hin : 1 ≤ a0 ∧ a0 ≤ 65536
  case neg =>
    have hP := W_hid (New_no a0 hin)
    have hR := W_hid (rNew_no a0 hin)
    clear hin
    go_wp2_with fail
    refine (hP.out _).mono ?_
    rintro e w2 ⟨rfl, rfl⟩
    go_wp2_with fail
    refine (hR.out _).mono ?_
    rintro e w2 ⟨rfl, rfl⟩
    go_wp2
    go_ret
    exact ⟨rfl, bel1⟩
  obtain ⟨n, rfl⟩ : ∃ n : Nat, a0 = n := ⟨a0.toNat, by omega⟩
  have hn1 : 1 ≤ n := by omega
  have hn2 : n ≤ 65536 := by omega
  clear hin
  go_wp2_with fail
  refine (New_yes n hn1 hn2 _).mono ?_
  rintro e w2 ⟨g, rfl, hg, hpl, bel2⟩
  obtain ⟨b, hb⟩ : ∃ b, w1.heap.size = b := ⟨_, rfl⟩
  rw [hb] at hg hpl
  have hwb : w.heap.size ≤ b := by rw [← hb]; exact bel1.size
  replace bel2 : Below w.heap.size w w2 := bel1.trans (bel2.mono bel1.size)
  clear bel1 hb
  go_wp2_with fail
  refine (rNew_yes n hn1 hn2 _).mono ?_
  rintro e w3 ⟨rfl, hrl, bel3⟩
  have hgl : g < w2.heap.size := hpl.box.elim fun lf e => e.2.lt
  replace hpl := hpl.keep bel3
  obtain ⟨c, hc⟩ : ∃ c, w2.heap.size = c := ⟨_, rfl⟩
  replace bel3 : Below w.heap.size w w3 := bel2.trans (bel3.mono bel2.size)
  have hcg : g < c := by rw [← hc]; exact hgl
  rw [hc] at hrl ⊢
  obtain ⟨m, hm⟩ : ∃ m, words n = m := ⟨_, rfl⟩
  rw [hm] at hpl
  obtain ⟨T0, hT0⟩ : ∃ T0, fresh n = T0 := ⟨_, rfl⟩
  rw [hT0] at hpl hrl
  clear hc hm hT0 bel2 hgl
  go_wp2_with fail
  go_loopw [10, 11, 12, 13, 14, 15] (fun i _ _ _ _ _ wr => ∃ (j : Nat) (T : Nat → Bool), j ≤ n1 ∧ i = .int .i64 j ∧ PL wr g b n m T ∧ RL wr (c + 1) c n T ∧ Below w.heap.size w wr) (fun i _ _ _ _ _ _ => n1 - (intOf i).toNat)
  case atStart => exact ⟨0, T0, by omega, rfl, hpl, hrl, bel3⟩
  case round =>
    obtain ⟨j, T, hj, rfl, hp, hr, bel⟩ := hrel
    by_cases hlt : j < n1 ∧ j < 300
    · obtain ⟨hl1, hl2⟩ := hlt
      obtain ⟨blk, off, rfl, hblk, hc0, hc1, hc2, hz0, hz1, hz2⟩ := hops.out j (by rw [hll.out]; exact hl1)
      obtain ⟨⟨bk, f, k⟩, hx⟩ : ∃ x, l1[j]'(by rw [hll.out]; exact hl1) = x := ⟨_, rfl⟩
      rw [hx] at hc0 hc1 hc2 hz0 hz1 hz2
      simp only at hc0 hc1 hc2 hz0 hz1 hz2
      have e0 : wr.cell? ⟨blk, off + j * 3, none⟩ = some (.bool bk) := by rw [bel.cell (p := ⟨blk, off + j * 3, none⟩) hblk]; exact hc0
      have e1 : wr.cell? ⟨blk, off + j * 3 + 1, none⟩ = some (.int .u64 f) := by rw [bel.cell (p := ⟨blk, off + j * 3 + 1, none⟩) hblk]; exact hc1
      have e2 : wr.cell? ⟨blk, off + j * 3 + 2, none⟩ = some (.int .i64 k) := by rw [bel.cell (p := ⟨blk, off + j * 3 + 2, none⟩) hblk]; exact hc2
      obtain ⟨x, hxs⟩ : ∃ x, x = wr.heap.size := ⟨_, rfl⟩
      have hs0 : St w (wr.alloc (.cells #[.bool bk, .int .u64 f, .int .i64 k] 33)) g b n m c x T T bk f k :=
        ⟨hp.keep ((Below.refl _ _).alloc (Nat.le_refl _) _), hr.keep ((Below.refl _ _).alloc (Nat.le_refl _) _), Blk.new wr _ [.bool bk, .int .u64 f, .int .i64 k] hxs, bel.alloc bel.size _, hwb, hg, hcg, by rw [hxs]; exact hr.box.lt⟩
      clear hx hc0 hc1 hc2
      have hL : ∀ T', Hid (∀ W, St w W g b n m c x T' T' bk f k → Calls Try.prog 15 #[.pointer (some ⟨g, 0, none⟩)] W fun r w' => r = .returned (.int .i64 ((n - FM.cnt T' 0 n : Nat) : Int)) ∧ St w w' g b n m c x T' T' bk f k) := by
        intro T' W hW
        refine (Left_any g b n m T' W hW.pl).mono ?_
        rintro r w' ⟨h1, rfl⟩
        exact ⟨h1, hW⟩
      have hRL : ∀ T', Hid (∀ W, St w W g b n m c x T' T' bk f k → Calls Try.prog 16 #[.pointer (some ⟨c + 1, 0, none⟩)] W fun r w' => r = .returned (.int .i64 ((n - FM.cnt T' 0 n : Nat) : Int)) ∧ St w w' g b n m c x T' T' bk f k) := by
        intro T' W hW
        refine (rLeft_any (c + 1) c n T' W hW.rl).mono ?_
        rintro r w' ⟨h1, q, rfl⟩
        exact ⟨h1, hW.drewN q⟩
      have hTk : ∀ T', Hid (∀ W, St w W g b n m c x T' T' bk f k → Calls Try.prog 17 #[.pointer (some ⟨g, 0, none⟩), .int .u64 f] W fun r w' => r = .returned (.bool (decide (f < n) && T' f)) ∧ St w w' g b n m c x T' T' bk f k) := by
        intro T' W hW
        refine (Taken_any g b n m f T' _ W hW.pl hz0 rfl).mono ?_
        rintro r w' ⟨h1, h2⟩
        exact ⟨h1, hW.keep h2⟩
      have hRT : ∀ T', Hid (∀ W, St w W g b n m c x T' T' bk f k → Calls Try.prog 18 #[.pointer (some ⟨c + 1, 0, none⟩), .int .u64 f] W fun r w' => r = .returned (.bool (decide (f < n) && T' f)) ∧ St w w' g b n m c x T' T' bk f k) := by
        intro T' W hW
        refine (rTaken_any (c + 1) c n f T' _ W hW.rl hz0 rfl).mono ?_
        rintro r w' ⟨h1, rfl⟩
        exact ⟨h1, hW⟩
      cases bk with
      | true =>
        obtain ⟨e, T', hputs⟩ := FM.puts_some T n f k
        have hF : Hid (∀ W, St w W g b n m c x T T true f k → Calls Try.prog 11 #[.pointer (some ⟨g, 0, none⟩), .int .u64 f, .int .i64 k] W fun r w' => r = .returned (.int .i64 e) ∧ St w w' g b n m c x T' T true f k) := by
          intro W hW
          refine (Free_any g b n m f T T' k e W hW.pl hz0 hputs).mono ?_
          rintro r w' ⟨h1, h2, h3⟩
          exact ⟨h1, hW.one h2 h3⟩
        have hRF : Hid (∀ W, St w W g b n m c x T' T true f k → Calls Try.prog 12 #[.pointer (some ⟨c + 1, 0, none⟩), .int .u64 f, .int .i64 k] W fun r w' => r = .returned (.int .i64 e) ∧ St w w' g b n m c x T' T' true f k) := by
          intro W hW
          refine (rFree_any (c + 1) c n f T T' k e W hW.rl hz0 hputs).mono ?_
          rintro r w' ⟨h1, h2, h3⟩
          exact ⟨h1, hW.other h2 h3⟩
        replace hL := hL T'
        replace hRL := hRL T'
        replace hTk := hTk T'
        replace hRT := hRT T'
        obtain ⟨L, hLe⟩ : ∃ L, n - FM.cnt T' 0 n = L := ⟨_, rfl⟩
        obtain ⟨V, hV⟩ : ∃ V, (decide (f < n) && T' f) = V := ⟨_, rfl⟩
        rw [hLe] at hL hRL
        rw [hV] at hTk hRT
        have hs0c := hs0.op.cell (j := 0) rfl
        have kk := hs0.cc
        subst hxs
        clear hputs hLe hV
        go_wp2_with fail
        go_region_held3 (fun w' => w'.cell? ⟨wr.heap.size, 1, none⟩ = some (.int .u64 f) ∧ w'.cell? ⟨wr.heap.size, 2, none⟩ = some (.int .i64 k)) (first | assumption | go_keep)
          (first
            | (go_at_call 11; refine (hF.out _ (St.drew hs0)).mono ?_; rintro r w4 ⟨rfl, hs4⟩; have k4 := hs4.cc)
            | (go_at_call 12; refine (hRF.out _ (by assumption)).mono ?_; rintro r w5 ⟨rfl, hs5⟩; have k5 := hs5.cc))
        clear hF hRF hs0 hs0c kk k4 hs4 e0 e1 e2 hp hr bel
        go_wp2_with fail
        go_region_held3 (fun w' => w'.cell? ⟨wr.heap.size, 1, none⟩ = some (.int .u64 f) ∧ w'.cell? ⟨wr.heap.size, 2, none⟩ = some (.int .i64 k)) (first | assumption | go_keep)
          (first
            | (go_at_call 15; refine (hL.out _ (St.drew hs5)).mono ?_; rintro r w6 ⟨rfl, hs6⟩; have k6 := hs6.cc)
            | (go_at_call 16; refine (hRL.out _ (by assumption)).mono ?_; rintro r w7 ⟨rfl, hs7⟩; have k7 := hs7.cc)
            | (go_at_call 17; refine (hTk.out _ (by assumption)).mono ?_; rintro r w8 ⟨rfl, hs8⟩; have k8 := hs8.cc)
            | (go_at_call 18; refine (hRT.out _ (by assumption)).mono ?_; rintro r w9 ⟨rfl, hs9⟩; have k9 := hs9.cc))
        all_goals
          go_wp2_with fail
          go_roundw
          case rel => exact ⟨j + 1, T', by omega, by go_num, hs9.pl, hs9.rl, hs9.bel⟩
          case measure => simp [intOf]; omega
      | false =>
        obtain ⟨a, e, T', hgets⟩ := FM.gets_some T n k
        have hA : Hid (∀ W, St w W g b n m c x T T false f k → Calls Try.prog 13 #[.pointer (some ⟨g, 0, none⟩), .int .i64 k] W fun r w' => r = .returned (.tuple #[.int .u64 a, .int .i64 e]) ∧ St w w' g b n m c x T' T false f k) := by
          intro W hW
          refine (Alloc_any g b n m T T' k a e W hW.pl hgets).mono ?_
          rintro r w' ⟨h1, h2, h3⟩
          exact ⟨h1, hW.one h2 h3⟩
        have hRA : Hid (∀ W, St w W g b n m c x T' T false f k → Calls Try.prog 14 #[.pointer (some ⟨c + 1, 0, none⟩), .int .i64 k] W fun r w' => r = .returned (.tuple #[.int .u64 a, .int .i64 e]) ∧ St w w' g b n m c x T' T' false f k) := by
          intro W hW
          refine (rAlloc_any (c + 1) c n T T' k a e W hW.rl hgets).mono ?_
          rintro r w' ⟨h1, h2, h3⟩
          exact ⟨h1, hW.other h2 h3⟩
        replace hL := hL T'
        replace hRL := hRL T'
        replace hTk := hTk T'
        replace hRT := hRT T'
        obtain ⟨L, hLe⟩ : ∃ L, n - FM.cnt T' 0 n = L := ⟨_, rfl⟩
        obtain ⟨V, hV⟩ : ∃ V, (decide (f < n) && T' f) = V := ⟨_, rfl⟩
        rw [hLe] at hL hRL
        rw [hV] at hTk hRT
        have hs0c := hs0.op.cell (j := 0) rfl
        obtain ⟨kk1, kk2⟩ := hs0.cc
        subst hxs
        clear hgets hLe hV
        go_wp2_with fail
        refine (hA.out _ hs0).mono ?_
        rintro r w4 ⟨rfl, hs4⟩
        obtain ⟨k4, k4'⟩ := hs4.cc
        go_wp2_with fail
        refine (hRA.out _ hs4).mono ?_
        rintro r w5 ⟨rfl, hs5⟩
        have k5 := hs5.cc
        clear hA hRA hs0 hs0c kk1 kk2 k4 k4' hs4 e0 e1 e2 hp hr bel
        go_wp2_with fail
        go_region_held3 (fun w' => w'.cell? ⟨wr.heap.size, 1, none⟩ = some (.int .u64 f) ∧ w'.cell? ⟨wr.heap.size, 2, none⟩ = some (.int .i64 k)) (first | assumption | go_keep)
          (first
            | (go_at_call 15; refine (hL.out _ (St.drew hs5)).mono ?_; rintro r w6 ⟨rfl, hs6⟩; have k6 := hs6.cc)
            | (go_at_call 16; refine (hRL.out _ (by assumption)).mono ?_; rintro r w7 ⟨rfl, hs7⟩; have k7 := hs7.cc)
            | (go_at_call 17; refine (hTk.out _ (by assumption)).mono ?_; rintro r w8 ⟨rfl, hs8⟩; have k8 := hs8.cc)
            | (go_at_call 18; refine (hRT.out _ (by assumption)).mono ?_; rintro r w9 ⟨rfl, hs9⟩; have k9 := hs9.cc))
        all_goals
          go_wp2_with fail
          go_roundw
          case rel => exact ⟨j + 1, T', by omega, by go_num, hs9.pl, hs9.rl, hs9.bel⟩
          case measure => simp [intOf]; omega
    · by_cases hx : j < n1
      · have d3 : decide (j < n1) = true := by simpa using hx
        have d4 : decide ((j : Int) < 300) = false := by simp; omega
        clear hlt hx
        go_wp2
        go_ret
        exact ⟨rfl, bel⟩
      · have d3 : decide (j < n1) = false := by simpa using hx
        clear hlt hx
        go_wp2
        go_ret
        exact ⟨rfl, bel⟩

set_option maxRecDepth 100000 in
theorem FrameDoes_lifted (os : Os) (started : os.Started) (H : Type) (enc : TypeId × Value → H) :
    ReturnsInHanded {} Try.checked os 3 .any (Rows.frameDoesSpec.pre6 enc Try.prog Try.f3 Rows.frameDoesRow.domain false) (Rows.frameDoesSpec.post enc Try.prog Try.f3 false true false false) := by
  refine returnsInHanded_of_change (C := Try.checked) (by kernel_rfl) started (by kernel_rfl) Try.func3
    (ChangeSpec.witness6 (enc := enc) (C := Try.checked) false ⟨#[], #[.int .i64 0, .slice none 0 0], []⟩ 8 (by kernel_rfl) (by kernel_rfl) (by kernel_rfl) (by kernel_rfl)) ?_
  intro W base args ds gs before hval0 hW hcnd _
  have hval : ∀ (j : Nat) t v, Try.f3.params[j]? = some t → args[j]? = some v → Value.okWide Try.prog W .any base t v := hval0
  have hW' := hW
  obtain ⟨p, q, hA0, hV, rfl, hfz, hnd⟩ := hW
  have hA : DataW.TrodAll enc Try.prog W 0 (fun _ => true) true Try.f3.params.toList args.toList ds p := hA0
  rw [Try.params3] at hA hval
  obtain ⟨v0, vs0, d0, ds0, p0, q0, hargs, rfl, rfl, h0, r0⟩ := trodAll_cons hA
  obtain ⟨v1, vs1, d1, ds1, p1, q1, rfl, rfl, rfl, h1, r1⟩ := trodAll_cons r0
  obtain ⟨rfl, rfl, rfl⟩ := trodAll_nil r1
  obtain rfl : args = #[v0, v1] := by cases args; simp_all
  obtain ⟨rfl, rfl⟩ := trodVars_none hV
  obtain ⟨a0, rfl, rfl, rfl, w0⟩ := open_int Try.underlying3 (hval 0 3 v0 rfl rfl) h0
  have k1 := h1
  have lt1 : ∀ x ∈ p1, x.block < W.heap.size := by obtain ⟨m, hm⟩ := k1; exact DataW.trod_lt m _ _ _ hm
  obtain ⟨o1, n1, c1, l1, rfl, w1⟩ := open_ops (hval 1 22 v1 rfl rfl) h1
  clear hA0 hval0
  refine (FrameDoes_walk a0 o1 n1 c1 l1 W w0 w1).mono fun e W' ⟨he, bel⟩ => ?_
  subst he
  exact ⟨_, rfl, _, _, _, [], _, [], hW', trodAll_mk1 (shut_bool Try.underlying4 _), (trodAll_cons_mk (shut_int Try.underlying3 w0) (trodAll_cons_mk (Below.trod laidOut (by kernel_rfl) (of_decide_eq_true (by kernel_rfl)) k1 bel lt1) trodAll_mk0)), rfl, bel.frame _, fun h => by cases h⟩

/-- The given statement of FrameDoes. -/
theorem FrameDoes_holds : Rows.FrameDoesSaid :=
  OpenClaim.holds_of_wide 3 Try.f3 rfl rfl rfl rfl rfl rfl rfl ⟨rfl, rfl, rfl, rfl, rfl⟩ rfl rfl rfl rfl rfl (by kernel_rfl) Try.func3 (by kernel_rfl)
    (of_decide_eq_true (by kernel_rfl)) (by unfold Func.isWrapper; first | (rw [if_pos (by decide +kernel)]; kernel_rfl) | (rw [if_neg (by decide +kernel)]; exact ⟨rfl, rfl⟩))
    (fun os started H enc _ => FrameDoes_lifted os started H enc)

end Go.Proofs.Ytpmpmjebhdohcaa

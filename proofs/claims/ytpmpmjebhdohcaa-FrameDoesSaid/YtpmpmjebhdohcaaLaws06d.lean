/- The laws of layer 6, continued: FrameLowest: for every input it returns true, and its arguments read as before. No further condition. -/
import Derived.Test.YtpmpmjebhdohcaaLaws06c
namespace Go.Proofs.Ytpmpmjebhdohcaa
open Go.ChangeShapes Go.WideShapes Go.ChangeAt Go.RowKit
set_option linter.unusedVariables false
set_option linter.unusedSimpArgs false

theorem free_some (g b n m f : Nat) (T : Nat → Bool) (k : Int) (hf : f < 18446744073709551616) : ∃ (e : Nat) (T' : Nat → Bool), FM.Puts T n f k e T' ∧ Hid (∀ w, PL w g b n m T → Calls Try.prog 11 #[.pointer (some ⟨g, 0, none⟩), .int .u64 f, .int .i64 k] w fun r w' =>
    r = .returned (.int .i64 e) ∧ PL w' g b n m T' ∧ Two g b w w') := by
  obtain ⟨e, T', h⟩ := FM.puts_some T n f k
  exact ⟨e, T', h, fun w hp => Free_any g b n m f T T' k e w hp hf h⟩
theorem PL.drew {w : World} {g b n m : Nat} {T : Nat → Bool} (h : PL w g b n m T) : PL w.drew g b n m T := ⟨h.box, h.row, h.ne, h.n1, h.n2, h.nm, h.m8, h.m2, h.pad⟩
theorem RL.drew {w : World} {g b n : Nat} {T : Nat → Bool} (h : RL w g b n T) : RL w.drew g b n T := ⟨h.box, h.row, h.ne, h.n1, h.n2⟩
theorem Two.undrew {g b : Nat} {w w' : World} (h : Two g b w.drew w') : Two g b w w' := ⟨h.os, h.tape, h.output, h.size, h.block⟩

theorem bundrew {B : Nat} {w w' : World} (h : Below B w.drew w') : Below B w w' := ⟨h.os, h.tape, h.output, h.size, h.block⟩

/-- A row that is overwritten from its head on. -/
def mix (T : Nat → Bool) (f : Nat) : Nat → Bool := fun x => if x < f then T x else false
theorem mix_set (T : Nat → Bool) (f n : Nat) (hf : f < n) : (brow (mix T f) n).set f (.bool (T f)) = brow (mix T (f + 1)) n := by
  rw [brow_set _ _ _ _ hf]
  refine brow_congr _ _ _ fun x hx => ?_
  unfold FM.st mix
  by_cases c : f ≤ x ∧ x < f + 1
  · obtain rfl : x = f := by omega
    rw [if_pos c, if_pos (by omega)]
  · rw [if_neg c]
    by_cases d : x < f
    · rw [if_pos d, if_pos (by omega)]
    · rw [if_neg d, if_neg (by omega)]
theorem mix_zero (n : Nat) (T : Nat → Bool) : brow (fresh n) n = brow (mix T 0) n := brow_congr _ _ _ fun x hx => by rw [fresh_low n x hx]; rfl
theorem mix_all (n : Nat) (T : Nat → Bool) : brow (mix T n) n = brow T n := brow_congr _ _ _ fun x hx => by unfold mix; rw [if_pos hx]

set_option maxRecDepth 100000 in
set_option maxHeartbeats 4000000 in
theorem FrameLowest_walk (a0 : Int) (o1 : Option Addr) (n1 c1 : Nat) (l1 : List (Bool × Nat × Int)) (a2 : Int) (w : World) (w0 : (Lit.int .i64 a0).wf = true) (w1 : OS w o1 n1 c1 l1) (w2 : (Lit.int .i64 a2).wf = true) :
    Calls Try.prog 7 #[.int .i64 a0, .slice o1 n1 c1, .int .i64 a2] w fun e w' => e = .returned (.bool true) ∧ Below w.heap.size w w' := by
  obtain ⟨hlen, hll, hops⟩ := w1
  have hlen2 : (n1 : Int) ≤ 9223372036854775807 := by unfold maxLen at hlen; omega
  replace hops := W_hid hops
  replace hll := W_hid hll
  have ha2 := bounds_i64 w2
  clear w0 w2 hlen
  go_enter Try.func7, Try.ntmps7
  go_wp2_with fail
  refine (shown_any _).mono ?_
  rintro e w1 ⟨rfl, bel1⟩
  by_cases h1 : a0 < 1
  · have d1 : decide (a0 < 1) = true := by simpa using h1
    clear h1
    go_wp2
    go_ret
    exact ⟨rfl, bel1⟩
  by_cases h2 : 1000 < a0
  · have d1 : decide (a0 < 1) = false := by simpa using h1
    have d2 : decide (1000 < a0) = true := by simpa using h2
    clear h1 h2
    go_wp2
    go_ret
    exact ⟨rfl, bel1⟩
  obtain ⟨n, rfl⟩ : ∃ n : Nat, a0 = n := ⟨a0.toNat, by omega⟩
  have d1 : decide ((n : Int) < 1) = false := by simpa using h1
  have d2 : decide (1000 < (n : Int)) = false := by simpa using h2
  have hn1 : 1 ≤ n := by omega
  have hn2 : n ≤ 65536 := by omega
  clear h1 h2
  go_wp2_with fail
  refine (New_yes n hn1 hn2 _).mono ?_
  rintro e w2 ⟨g, rfl, hg, hpl, bel2⟩
  obtain ⟨b, hb⟩ : ∃ b, w1.heap.size = b := ⟨_, rfl⟩
  rw [hb] at hg hpl
  have hwb : w.heap.size ≤ b := by rw [← hb]; exact bel1.size
  replace bel2 : Below w.heap.size w w2 := bel1.trans (bel2.mono bel1.size)
  clear bel1 hb
  go_wp2_with fail
  refine (rNew_yes n hn1 hn2 _).mono ?_
  rintro e w3 ⟨rfl, hrl, bel3⟩
  have hgl : g < w2.heap.size := hpl.box.elim fun lf e => e.2.lt
  replace hpl := hpl.keep bel3
  obtain ⟨c, hc⟩ : ∃ c, w2.heap.size = c := ⟨_, rfl⟩
  replace bel3 : Below w.heap.size w w3 := bel2.trans (bel3.mono bel2.size)
  have hcg : g < c := by rw [← hc]; exact hgl
  rw [hc] at hrl ⊢
  have hwc : w.heap.size ≤ c := by omega
  obtain ⟨m, hm⟩ : ∃ m, words n = m := ⟨_, rfl⟩
  rw [hm] at hpl
  obtain ⟨T0, hT0⟩ : ∃ T0, fresh n = T0 := ⟨_, rfl⟩
  have hmx : Hid (∀ T, brow T0 n = brow (mix T 0) n) := by intro T; rw [← hT0]; exact mix_zero n T
  rw [hT0] at hpl hrl
  clear hc hm hT0 bel2 hgl
  go_wp2_with fail
  go_loopw [12] (fun i wr => ∃ (j : Nat) (T : Nat → Bool), j ≤ n1 ∧ i = .int .i64 j ∧ PL wr g b n m T ∧ RL wr (c + 1) c n T0 ∧ Below w.heap.size w wr) (fun i _ => n1 - (intOf i).toNat)
  case atStart => exact ⟨0, T0, by omega, rfl, hpl, hrl, bel3⟩
  case round =>
    obtain ⟨j, T, hj, rfl, hp, hr, bel⟩ := hrel
    have go_on : Hid (∀ w', Two g b wr w' → Below w.heap.size w w' ∧ RL w' (c + 1) c n T0) := fun w' two => ⟨bel.trans (two.below bel.size (by omega) hwb), hr.two two (by omega) (by omega) (by omega) (by omega)⟩
    by_cases hlt : j < n1 ∧ j < 100
    · obtain ⟨hl1, hl2⟩ := hlt
      obtain ⟨blk, off, rfl, hblk, hc0, hc1, hc2, hz0, hz1, hz2⟩ := hops.out j (by rw [hll.out]; exact hl1)
      obtain ⟨⟨bk, f, k⟩, hx⟩ : ∃ x, l1[j]'(by rw [hll.out]; exact hl1) = x := ⟨_, rfl⟩
      rw [hx] at hc0 hc1 hc2 hz0 hz1 hz2
      simp only at hc0 hc1 hc2 hz0 hz1 hz2
      have e0 : wr.cell? ⟨blk, off + j * 3, none⟩ = some (.bool bk) := by rw [bel.cell (p := ⟨blk, off + j * 3, none⟩) hblk]; exact hc0
      have e1 : wr.cell? ⟨blk, off + j * 3 + 1, none⟩ = some (.int .u64 f) := by rw [bel.cell (p := ⟨blk, off + j * 3 + 1, none⟩) hblk]; exact hc1
      have e2 : wr.cell? ⟨blk, off + j * 3 + 2, none⟩ = some (.int .i64 k) := by rw [bel.cell (p := ⟨blk, off + j * 3 + 2, none⟩) hblk]; exact hc2
      clear hx hc0 hc1 hc2
      cases bk with
      | false =>
        obtain ⟨a, e, T', -, hA⟩ := alloc_some g b n m T k
        go_wp2_with fail
        refine (hA.out _ hp).mono ?_
        rintro r w4 ⟨rfl, hp4, two⟩
        obtain ⟨bel4, hr4⟩ := go_on.out _ two
        go_wp2
        go_roundw
        case rel => exact ⟨j + 1, T', by omega, by go_num, hp4, hr4, bel4⟩
        case measure => simp [intOf]; omega
      | true =>
        obtain ⟨e, T', -, hF⟩ := free_some g b n m f T k hz0
        have hF2 : Hid (∀ W, PL W g b n m T → (W.cell? ⟨blk, off + j * 3 + 1, none⟩ = some (.int .u64 f) ∧ W.cell? ⟨blk, off + j * 3 + 2, none⟩ = some (.int .i64 k)) →
            Calls Try.prog 11 #[.pointer (some ⟨g, 0, none⟩), .int .u64 f, .int .i64 k] W fun r w' => r = .returned (.int .i64 e) ∧ PL w' g b n m T' ∧ Two g b W w' ∧
              (w'.cell? ⟨blk, off + j * 3 + 1, none⟩ = some (.int .u64 f) ∧ w'.cell? ⟨blk, off + j * 3 + 2, none⟩ = some (.int .i64 k))) := by
          intro W hW hS
          refine (hF.out W hW).mono ?_
          rintro r w' ⟨h1, h2, h3⟩
          have hne1 : blk ≠ g := by omega
          have hne2 : blk ≠ b := by omega
          have hb := h3.block blk (cell_lt hS.1) hne1 hne2
          exact ⟨h1, h2, h3, by rw [World.cell?_of_block (w := W) hb]; exact hS.1, by rw [World.cell?_of_block (w := W) hb]; exact hS.2⟩
        go_wp2_with fail
        go_region_held3 (fun w' => w'.cell? ⟨blk, off + j * 3 + 1, none⟩ = some (.int .u64 f) ∧ w'.cell? ⟨blk, off + j * 3 + 2, none⟩ = some (.int .i64 k)) (first | assumption | go_keep)
          (first | (go_at_call 11; refine (hF2.out _ (PL.drew hp) (by assumption)).mono ?_; rintro r w4 ⟨rfl, hp4, two, k0⟩))
        obtain ⟨bel4, hr4⟩ := go_on.out _ (Two.undrew two)
        go_wp2
        go_roundw
        case rel => exact ⟨j + 1, T', by omega, by go_num, hp4, hr4, bel4⟩
        case measure => simp [intOf]; omega
    · by_cases hx : j < n1
      · have d3 : decide (j < n1) = true := by simpa using hx
        have d4 : decide ((j : Int) < 100) = false := by simp; omega
        clear hlt hx
        obtain ⟨wa, rfl⟩ : ∃ wa, wa = wr := ⟨wr, rfl⟩
        clear go_on
        go_wp2_with fail
        go_loopw [13] (fun i wx => ∃ t : Nat, t ≤ n ∧ i = .int .i64 t ∧ PL wx g b n m T ∧ Blk wx (c + 1) 46 [.slice (some ⟨c, 0, none⟩) n n] ∧ Blk wx c 4 (brow (mix T t) n) ∧ Below w.heap.size w wx) (fun i _ => n - (intOf i).toNat)
        case atStart => exact ⟨0, by omega, rfl, hp, hr.box, by rw [← hmx.out T]; exact hr.row, bel⟩
        case round =>
          obtain ⟨t, ht, rfl, hpx, hbx, hrx, belx⟩ := hrel
          by_cases hlt : t < n
          · have c0 := hbx.cell (j := 0) rfl
            have hTk : Hid (∀ W, PL W g b n m T → W.cell? ⟨c + 1, 0, none⟩ = some (.slice (some ⟨c, 0, none⟩) n n) → Calls Try.prog 17 #[.pointer (some ⟨g, 0, none⟩), .int .u64 (IntKind.u64.wrap (t : Int))] W fun r w' => r = .returned (.bool (T t)) ∧ Below W.heap.size W w' ∧
                w'.cell? ⟨c + 1, 0, none⟩ = some (.slice (some ⟨c, 0, none⟩) n n)) := by
              intro W hW hS
              rw [wrap_in t (by omega)]
              refine (Taken_any g b n m t T (T t) W hW (by omega) (by rw [decide_eq_true hlt]; rfl)).mono ?_
              rintro r w' ⟨h1, h2⟩
              exact ⟨h1, h2, by rw [h2.cell (p := ⟨c + 1, 0, none⟩) (cell_lt hS)]; exact hS⟩
            have hmc : wr.cell? ⟨c, t, none⟩ = some (.bool (mix T t t)) := hrx.cell (brow_get _ n t hlt)
            have hset := W_hid (mix_set T t n hlt)
            have hidx : (t : Int) < n := by omega
            go_wp2_with fail
            go_region_held3 (fun w' => w'.cell? ⟨c + 1, 0, none⟩ = some (.slice (some ⟨c, 0, none⟩) n n)) (first | assumption | go_keep)
              (first | (go_at_call 17; refine (hTk.out _ (PL.drew hpx) (by assumption)).mono ?_; rintro r w4 ⟨rfl, bel4, k0⟩; have hf4 := (Blk.keep (w := wr) hrx (bundrew bel4)).fz; have hc4 := (Blk.keep (w := wr) hrx (bundrew bel4)).cell (brow_get _ n t hlt)))
            have hm4 := (Blk.keep (w := wr) hrx (bundrew bel4)).set t (.bool (T t))
            rw [hset.out] at hm4
            have hb4 := (Blk.keep (w := wr) hbx (bundrew bel4)).far (p := ⟨c, t, none⟩) (by simp) (.bool (T t))
            have tw : Two c c w4 (w4.setCell ⟨c, t, none⟩ (.bool (T t))) := (Two.refl c c w4).setCell (.inl rfl) _
            have hp4 := (PL.keep (w := wr) hpx (bundrew bel4)).two tw (by omega) (by omega) (by omega) (by omega)
            have bel6 := (belx.trans ((bundrew bel4).mono belx.size)).setCell (p := ⟨c, t, none⟩) hwc (.bool (T t))
            clear tw bel4 hf4 hc4 hmc hTk hset hpx hrx hbx belx
            go_wp2_with fail
            go_roundw
            case rel => exact ⟨t + 1, by omega, by go_num, hp4, hb4, hm4, bel6⟩
            case measure => simp [intOf]; omega
          · obtain rfl : t = n := by omega
            rw [mix_all] at hrx
            have hr2 : RL wr (c + 1) c t T := ⟨hbx, hrx, by omega, hn1, hn2⟩
            obtain ⟨a, e, T', hgets⟩ := FM.gets_some T t a2
            have hA := W_hid (fun w h => Alloc_any g b t m T T' a2 a e w h hgets)
            have hR := W_hid (fun w h => rAlloc_any (c + 1) c t T T' a2 a e w h hgets)
            rcases hgets with ⟨rfl, rfl, rfl, -⟩ | ⟨rfl, rfl, rfl, -⟩ | ⟨rfl, q, rfl, hq, hlow, rfl⟩
            case inl | inr.inl =>
              go_wp2_with fail
              refine (hR.out _ hr2).mono ?_
              rintro r w5 ⟨rfl, hr5, two5⟩
              have hp5 := hpx.two two5 (by omega) (by omega) (by omega) (by omega)
              go_wp2_with fail
              refine (hA.out _ hp5).mono ?_
              rintro r w6 ⟨rfl, hp6, two6⟩
              have bel6 := (belx.trans (two5.below belx.size (by omega) hwc))
              have bel7 := bel6.trans (two6.below bel6.size (by omega) hwb)
              go_wp2
              go_ret
              exact ⟨rfl, bel7⟩
            have hq1 := (FM.run_le hq).1
            have hq2 := (FM.run_le hq).2
            have hmod : (a : Int) % (q : Int) = 0 := by rw [← Int.natCast_emod, hlow.1]; rfl
            clear hlow hq
            go_wp2_with fail
            refine (hR.out _ hr2).mono ?_
            rintro r w5 ⟨rfl, hr5, two5⟩
            have hp5 := hpx.two two5 (by omega) (by omega) (by omega) (by omega)
            go_wp2_with fail
            refine (hA.out _ hp5).mono ?_
            rintro r w6 ⟨rfl, hp6, two6⟩
            have bel6 := (belx.trans (two5.below belx.size (by omega) hwc))
            have bel7 := bel6.trans (two6.below bel6.size (by omega) hwb)
            go_wp2
            go_ret
            exact ⟨rfl, bel7⟩
      · have d3 : decide (j < n1) = false := by simpa using hx
        clear hlt hx
        obtain ⟨wa, rfl⟩ : ∃ wa, wa = wr := ⟨wr, rfl⟩
        clear go_on
        go_wp2_with fail
        go_loopw [13] (fun i wx => ∃ t : Nat, t ≤ n ∧ i = .int .i64 t ∧ PL wx g b n m T ∧ Blk wx (c + 1) 46 [.slice (some ⟨c, 0, none⟩) n n] ∧ Blk wx c 4 (brow (mix T t) n) ∧ Below w.heap.size w wx) (fun i _ => n - (intOf i).toNat)
        case atStart => exact ⟨0, by omega, rfl, hp, hr.box, by rw [← hmx.out T]; exact hr.row, bel⟩
        case round =>
          obtain ⟨t, ht, rfl, hpx, hbx, hrx, belx⟩ := hrel
          by_cases hlt : t < n
          · have c0 := hbx.cell (j := 0) rfl
            have hTk : Hid (∀ W, PL W g b n m T → W.cell? ⟨c + 1, 0, none⟩ = some (.slice (some ⟨c, 0, none⟩) n n) → Calls Try.prog 17 #[.pointer (some ⟨g, 0, none⟩), .int .u64 (IntKind.u64.wrap (t : Int))] W fun r w' => r = .returned (.bool (T t)) ∧ Below W.heap.size W w' ∧
                w'.cell? ⟨c + 1, 0, none⟩ = some (.slice (some ⟨c, 0, none⟩) n n)) := by
              intro W hW hS
              rw [wrap_in t (by omega)]
              refine (Taken_any g b n m t T (T t) W hW (by omega) (by rw [decide_eq_true hlt]; rfl)).mono ?_
              rintro r w' ⟨h1, h2⟩
              exact ⟨h1, h2, by rw [h2.cell (p := ⟨c + 1, 0, none⟩) (cell_lt hS)]; exact hS⟩
            have hmc : wr.cell? ⟨c, t, none⟩ = some (.bool (mix T t t)) := hrx.cell (brow_get _ n t hlt)
            have hset := W_hid (mix_set T t n hlt)
            have hidx : (t : Int) < n := by omega
            go_wp2_with fail
            go_region_held3 (fun w' => w'.cell? ⟨c + 1, 0, none⟩ = some (.slice (some ⟨c, 0, none⟩) n n)) (first | assumption | go_keep)
              (first | (go_at_call 17; refine (hTk.out _ (PL.drew hpx) (by assumption)).mono ?_; rintro r w4 ⟨rfl, bel4, k0⟩; have hf4 := (Blk.keep (w := wr) hrx (bundrew bel4)).fz; have hc4 := (Blk.keep (w := wr) hrx (bundrew bel4)).cell (brow_get _ n t hlt)))
            have hm4 := (Blk.keep (w := wr) hrx (bundrew bel4)).set t (.bool (T t))
            rw [hset.out] at hm4
            have hb4 := (Blk.keep (w := wr) hbx (bundrew bel4)).far (p := ⟨c, t, none⟩) (by simp) (.bool (T t))
            have tw : Two c c w4 (w4.setCell ⟨c, t, none⟩ (.bool (T t))) := (Two.refl c c w4).setCell (.inl rfl) _
            have hp4 := (PL.keep (w := wr) hpx (bundrew bel4)).two tw (by omega) (by omega) (by omega) (by omega)
            have bel6 := (belx.trans ((bundrew bel4).mono belx.size)).setCell (p := ⟨c, t, none⟩) hwc (.bool (T t))
            clear tw bel4 hf4 hc4 hmc hTk hset hpx hrx hbx belx
            go_wp2_with fail
            go_roundw
            case rel => exact ⟨t + 1, by omega, by go_num, hp4, hb4, hm4, bel6⟩
            case measure => simp [intOf]; omega
          · obtain rfl : t = n := by omega
            rw [mix_all] at hrx
            have hr2 : RL wr (c + 1) c t T := ⟨hbx, hrx, by omega, hn1, hn2⟩
            obtain ⟨a, e, T', hgets⟩ := FM.gets_some T t a2
            have hA := W_hid (fun w h => Alloc_any g b t m T T' a2 a e w h hgets)
            have hR := W_hid (fun w h => rAlloc_any (c + 1) c t T T' a2 a e w h hgets)
            rcases hgets with ⟨rfl, rfl, rfl, -⟩ | ⟨rfl, rfl, rfl, -⟩ | ⟨rfl, q, rfl, hq, hlow, rfl⟩
            case inl | inr.inl =>
              go_wp2_with fail
              refine (hR.out _ hr2).mono ?_
              rintro r w5 ⟨rfl, hr5, two5⟩
              have hp5 := hpx.two two5 (by omega) (by omega) (by omega) (by omega)
              go_wp2_with fail
              refine (hA.out _ hp5).mono ?_
              rintro r w6 ⟨rfl, hp6, two6⟩
              have bel6 := (belx.trans (two5.below belx.size (by omega) hwc))
              have bel7 := bel6.trans (two6.below bel6.size (by omega) hwb)
              go_wp2
              go_ret
              exact ⟨rfl, bel7⟩
            have hq1 := (FM.run_le hq).1
            have hq2 := (FM.run_le hq).2
            have hmod : (a : Int) % (q : Int) = 0 := by rw [← Int.natCast_emod, hlow.1]; rfl
            clear hlow hq
            go_wp2_with fail
            refine (hR.out _ hr2).mono ?_
            rintro r w5 ⟨rfl, hr5, two5⟩
            have hp5 := hpx.two two5 (by omega) (by omega) (by omega) (by omega)
            go_wp2_with fail
            refine (hA.out _ hp5).mono ?_
            rintro r w6 ⟨rfl, hp6, two6⟩
            have bel6 := (belx.trans (two5.below belx.size (by omega) hwc))
            have bel7 := bel6.trans (two6.below bel6.size (by omega) hwb)
            go_wp2
            go_ret
            exact ⟨rfl, bel7⟩

set_option maxRecDepth 100000 in
theorem FrameLowest_lifted (os : Os) (started : os.Started) (H : Type) (enc : TypeId × Value → H) :
    ReturnsInHanded {} Try.checked os 7 .any (Rows.frameLowestSpec.pre6 enc Try.prog Try.f7 Rows.frameLowestRow.domain false) (Rows.frameLowestSpec.post enc Try.prog Try.f7 false true false false) := by
  refine returnsInHanded_of_change (C := Try.checked) (by kernel_rfl) started (by kernel_rfl) Try.func7
    (ChangeSpec.witness6 (enc := enc) (C := Try.checked) false ⟨#[], #[.int .i64 0, .slice none 0 0, .int .i64 0], []⟩ 8 (by kernel_rfl) (by kernel_rfl) (by kernel_rfl) (by kernel_rfl)) ?_
  intro W base args ds gs before hval0 hW hcnd _
  have hval : ∀ (j : Nat) t v, Try.f7.params[j]? = some t → args[j]? = some v → Value.okWide Try.prog W .any base t v := hval0
  have hW' := hW
  obtain ⟨p, q, hA0, hV, rfl, hfz, hnd⟩ := hW
  have hA : DataW.TrodAll enc Try.prog W 0 (fun _ => true) true Try.f7.params.toList args.toList ds p := hA0
  rw [Try.params7] at hA hval
  obtain ⟨v0, vs0, d0, ds0, p0, q0, hargs, rfl, rfl, h0, r0⟩ := trodAll_cons hA
  obtain ⟨v1, vs1, d1, ds1, p1, q1, rfl, rfl, rfl, h1, r1⟩ := trodAll_cons r0
  obtain ⟨v2, vs2, d2, ds2, p2, q2, rfl, rfl, rfl, h2, r2⟩ := trodAll_cons r1
  obtain ⟨rfl, rfl, rfl⟩ := trodAll_nil r2
  obtain rfl : args = #[v0, v1, v2] := by cases args; simp_all
  obtain ⟨rfl, rfl⟩ := trodVars_none hV
  obtain ⟨a0, rfl, rfl, rfl, w0⟩ := open_int Try.underlying3 (hval 0 3 v0 rfl rfl) h0
  have k1 := h1
  have lt1 : ∀ x ∈ p1, x.block < W.heap.size := by obtain ⟨m, hm⟩ := k1; exact DataW.trod_lt m _ _ _ hm
  obtain ⟨o1, n1, c1, l1, rfl, w1⟩ := open_ops (hval 1 22 v1 rfl rfl) h1
  obtain ⟨a2, rfl, rfl, rfl, w2⟩ := open_int Try.underlying3 (hval 2 3 v2 rfl rfl) h2
  clear hA0 hval0
  refine (FrameLowest_walk a0 o1 n1 c1 l1 a2 W w0 w1 w2).mono fun e W' ⟨he, bel⟩ => ?_
  subst he
  exact ⟨_, rfl, _, _, _, [], _, [], hW', trodAll_mk1 (shut_bool Try.underlying4 _), (trodAll_cons_mk (shut_int Try.underlying3 w0) (trodAll_cons_mk (Below.trod laidOut (by kernel_rfl) (of_decide_eq_true (by kernel_rfl)) k1 bel lt1) (trodAll_cons_mk (shut_int Try.underlying3 w2) trodAll_mk0))), rfl, bel.frame _, fun h => by cases h⟩

/-- The given statement of FrameLowest. -/
theorem FrameLowest_holds : Rows.FrameLowestSaid :=
  OpenClaim.holds_of_wide 7 Try.f7 rfl rfl rfl rfl rfl rfl rfl ⟨rfl, rfl, rfl, rfl, rfl⟩ rfl rfl rfl rfl rfl (by kernel_rfl) Try.func7 (by kernel_rfl)
    (of_decide_eq_true (by kernel_rfl)) (by unfold Func.isWrapper; first | (rw [if_pos (by decide +kernel)]; kernel_rfl) | (rw [if_neg (by decide +kernel)]; exact ⟨rfl, rfl⟩))
    (fun os started H enc _ => FrameLowest_lifted os started H enc)

end Go.Proofs.Ytpmpmjebhdohcaa

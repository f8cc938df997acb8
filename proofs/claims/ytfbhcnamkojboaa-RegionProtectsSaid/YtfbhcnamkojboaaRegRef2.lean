/- The document's own isRange, isRegion, Right. -/
import Derived.Test.YtfbhcnamkojboaaRegRef
namespace Go.Proofs.Ytfbhcnamkojboaa
open Go.ChangeShapes Go.WideShapes Go.ChangeAt Go.RowKit
set_option linter.unusedVariables false
set_option linter.unusedSimpArgs false
open RG (Rg)

set_option maxRecDepth 100000 in
set_option maxHeartbeats 400000 in
theorem rRange_any (f t : Nat) (w : World) :
    Calls Try.prog 29 #[.int .u64 (f : Int), .int .u64 (t : Int)] w fun e w' => e = .returned (.bool (decide (RG.isRange f t))) ∧ w = w' := by
  obtain ⟨F, hF⟩ : ∃ F : Int, F = f := ⟨_, rfl⟩
  obtain ⟨T, hT⟩ : ∃ T : Int, T = t := ⟨_, rfl⟩
  obtain ⟨m, hm⟩ : ∃ m, F.tmod 4096 = m := ⟨_, rfl⟩
  obtain ⟨n, hn⟩ : ∃ n, T.tmod 4096 = n := ⟨_, rfl⟩
  have e1 : m = ((f % 4096 : Nat) : Int) := by rw [← hm, hF]; rfl
  have e2 : n = ((t % 4096 : Nat) : Int) := by rw [← hn, hT]; rfl
  rw [← hF, ← hT]
  have hh : Hid (RG.isRange f t ↔ m = 0 ∧ n = 0 ∧ F < T ∧ T ≤ 140737488355328) := by
    show _ ↔ _
    unfold RG.isRange
    omega
  clear e1 e2 hF hT
  by_cases h1 : m = 0
  · by_cases h2 : n = 0
    · by_cases h3 : F < T
      · have hd : Hid (decide (RG.isRange f t) = decide (T ≤ 140737488355328)) := decide_eq_decide.2 ⟨fun h => (hh.out.1 h).2.2.2, fun h => hh.out.2 ⟨h1, h2, h3, h⟩⟩
        clear hh
        go_enter Try.func29, Try.ntmps29
        go_wp2_with fail
        go_ret
        exact ⟨by rw [hd.out]; rfl, rfl⟩
      · have hd : Hid (decide (RG.isRange f t) = false) := decide_eq_false (fun h => h3 (hh.out.1 h).2.2.1)
        clear hh
        go_enter Try.func29, Try.ntmps29
        go_wp2_with fail
        go_ret
        exact ⟨by rw [hd.out]; rfl, rfl⟩
    · have hd : Hid (decide (RG.isRange f t) = false) := decide_eq_false (fun h => h2 (hh.out.1 h).2.1)
      have q2 : (n == 0) = false := by simpa using h2
      clear hh
      go_enter Try.func29, Try.ntmps29
      go_wp2_with fail
      go_ret
      exact ⟨by rw [hd.out]; rfl, rfl⟩
  · have hd : Hid (decide (RG.isRange f t) = false) := decide_eq_false (fun h => h1 (hh.out.1 h).1)
    have q1 : (m == 0) = false := by simpa using h1
    clear hh
    go_enter Try.func29, Try.ntmps29
    go_wp2_with fail
    go_ret
    exact ⟨by rw [hd.out]; rfl, rfl⟩


set_option maxRecDepth 100000 in
set_option maxHeartbeats 2000000 in
theorem rRegion_any (f t : Nat) (p k : Int) (w : World) :
    Calls Try.prog 23 #[.agg #[.int .u64 (f : Int), .int .u64 (t : Int), .int .i64 p, .int .i64 k]] w fun e w' => e = .returned (.bool (decide (RG.good ⟨f, t, p, k⟩))) ∧ Below w.heap.size w w' := by
  have bb : Below w.heap.size w (w.alloc (.cells #[.int .u64 (f : Int), .int .u64 (t : Int), .int .i64 p, .int .i64 k] 25)) := (Below.refl _ _).alloc (Nat.le_refl _) _
  have hR := W_hid (fun w => rRange_any f t w)
  have hh : Hid (RG.good ⟨f, t, p, k⟩ ↔ RG.isRange f t ∧ (1 ≤ p ∧ p ≤ 7) ∧ 0 ≤ k ∧ k ≤ 2) := Iff.rfl
  by_cases h1 : RG.isRange f t
  · rw [decide_eq_true h1] at hR
    by_cases h2 : 1 ≤ p
    · by_cases h3 : p ≤ 7
      · by_cases h4 : 0 ≤ k
        · have hd : Hid (decide (RG.good ⟨f, t, p, k⟩) = decide (k ≤ 2)) := decide_eq_decide.2 ⟨fun h => (hh.out.1 h).2.2.2, fun h => hh.out.2 ⟨h1, ⟨h2, h3⟩, h4, h⟩⟩
          clear hh h1
          go_enter Try.func23, Try.ntmps23
          go_wp2_with fail
          refine (hR.out _).mono ?_
          rintro e w' ⟨rfl, rfl⟩
          go_wp2_with fail
          go_ret
          exact ⟨by rw [hd.out]; rfl, bb⟩
        · have hd : Hid (decide (RG.good ⟨f, t, p, k⟩) = false) := decide_eq_false (fun h => h4 (hh.out.1 h).2.2.1)
          clear hh h1
          go_enter Try.func23, Try.ntmps23
          go_wp2_with fail
          refine (hR.out _).mono ?_
          rintro e w' ⟨rfl, rfl⟩
          go_wp2_with fail
          go_ret
          exact ⟨by rw [hd.out]; rfl, bb⟩
      · have hd : Hid (decide (RG.good ⟨f, t, p, k⟩) = false) := decide_eq_false (fun h => h3 (hh.out.1 h).2.1.2)
        clear hh h1
        go_enter Try.func23, Try.ntmps23
        go_wp2_with fail
        refine (hR.out _).mono ?_
        rintro e w' ⟨rfl, rfl⟩
        go_wp2_with fail
        go_ret
        exact ⟨by rw [hd.out]; rfl, bb⟩
    · have hd : Hid (decide (RG.good ⟨f, t, p, k⟩) = false) := decide_eq_false (fun h => h2 (hh.out.1 h).2.1.1)
      clear hh h1
      go_enter Try.func23, Try.ntmps23
      go_wp2_with fail
      refine (hR.out _).mono ?_
      rintro e w' ⟨rfl, rfl⟩
      go_wp2_with fail
      go_ret
      exact ⟨by rw [hd.out]; rfl, bb⟩
  · rw [decide_eq_false h1] at hR
    have hd : Hid (decide (RG.good ⟨f, t, p, k⟩) = false) := decide_eq_false (fun h => h1 (hh.out.1 h).1)
    clear hh h1
    go_enter Try.func23, Try.ntmps23
    go_wp2_with fail
    refine (hR.out _).mono ?_
    rintro e w' ⟨rfl, rfl⟩
    go_wp2_with fail
    go_ret
    exact ⟨by rw [hd.out]; rfl, bb⟩

set_option maxRecDepth 100000 in
set_option maxHeartbeats 4000000 in
theorem rgRight_any (ao : Option Addr) (n cap : Nat) (l : List Rg) (w : World) (h : RS w ao n cap l) :
    Gv 22 #[.slice ao n cap] (.bool (decide (RG.Ok true none l))) w := by
  have hn : n ≤ 9223372036854775807 := by have := h.2.1; have := h.2.2.1; unfold maxLen at *; omega
  have L := W_hid h.1
  have hno := W_hid (fun i => @ok_not l i)
  have H := W_hid h
  clear h
  go_enter Try.func22, Try.ntmps22
  go_wp2_with fail
  go_loopw [3, 4] (fun i o wr => ∃ k : Nat, k ≤ n ∧ i = .int .i64 k ∧ Hid (∀ i, i < k → OkAt l i) ∧ Below w.heap.size w wr) (fun i _ _ => n - (intOf i).toNat)
  case atStart => exact ⟨0, Nat.zero_le _, rfl, W_hid (fun i hi => by omega), Below.refl _ _⟩
  case round =>
    obtain ⟨k, hk, rfl, hok, bel⟩ := hrel
    by_cases hlt : k < n
    · obtain ⟨b1, o1, rfl, hb1, g1⟩ := (H.out.below bel (Nat.le_refl _)).at_ (by omega)
      have k1 : k < l.length := by rw [L.out]; exact hlt
      have hE := g1 k hlt
      have hOk : Hid (OkAt l k ↔ RG.good l[k] ∧ ∀ j, (hj : j + 1 = k) → RG.Fol true (l[j]'(by omega)) l[k]) := ⟨fun ⟨_, h⟩ => h, fun h => ⟨k1, h⟩⟩
      have hbad : Hid (¬ OkAt l k → decide (RG.Ok true none l) = false) := fun h => hno.out k k1 h
      have hgood : Hid (OkAt l k → ∀ i, i < k + 1 → OkAt l i) := fun h i hi => by
        by_cases e : i = k
        · subst e; exact h
        · exact hok.out i (by omega)
      obtain ⟨⟨f, t, p, q⟩, hx⟩ : ∃ x, l[k] = x := ⟨_, rfl⟩
      simp only [hx] at hE hOk
      obtain ⟨e1, e2, e3, e4⟩ := hE
      have hI := W_hid (fun w => rRegion_any f t p q w)
      by_cases hg : RG.good ⟨f, t, p, q⟩
      · rw [decide_eq_true hg] at hI
        by_cases h0 : k = 0
        · have hnx := W_hid (hgood.out (hOk.out.2 ⟨hg, fun j hj => by omega⟩))
          have hz : (k == 0) = true := by simpa using h0
          have hz2 : ((k : Int) == 0) = true := by simp; omega
          have h0' := W_hid h0
          clear hgood hbad hOk g1 hx hg h0
          go_wp2_with fail
          refine (hI.out _).mono ?_
          rintro e w2 ⟨rfl, bel2⟩
          have bel3 := bel.trans (bel2.mono bel.size)
          go_wp2_with fail
          go_roundw
          case rel => exact ⟨k + 1, by omega, by go_num, hnx, bel3⟩
          case measure => simp [intOf]; omega
        · obtain ⟨j, hj⟩ : ∃ j, k = j + 1 := ⟨k - 1, by omega⟩
          have hj1 : (k : Int) - 1 = (j : Int) := by omega
          have hwj : IntKind.i64.wrap (j : Int) = (j : Int) := by simp [IntKind.wrap, IntKind.signed, IntKind.bits]; omega
          have hz : (k == 0) = false := by simpa using h0
          have hz2 : ((k : Int) == 0) = false := by simp; omega
          have hF := g1 j (by omega)
          have hOk : Hid (RG.Fol true (l[j]'(by omega)) ⟨f, t, p, q⟩ ↔ OkAt l k) := ⟨fun h => hOk.out.2 ⟨hg, fun i hi => by (obtain rfl : i = j := (by omega)); exact h⟩, fun h => (hOk.out.1 h).2 j hj.symm⟩
          obtain ⟨⟨f', t', p', q'⟩, hy⟩ : ∃ x, l[j]'(by omega) = x := ⟨_, rfl⟩
          rw [hy] at hF hOk
          have hjn : j < n := by omega
          have hY := W_hid hF
          have hX := W_hid (⟨e1, e2, e3, e4⟩ : RE wr b1 (o1 + k * 4) ⟨f, t, p, q⟩)
          by_cases c1 : f < t'
          · have hh : Hid (decide (RG.Ok true none l) = false) := hbad.out (fun hc => by have := (hOk.out.2 hc).1; have h7 : t' ≤ f := this; omega)
            clear hgood hbad hOk g1 hg h0 hy hx hF hj
            go_wp2_with fail
            refine (hI.out _).mono ?_
            rintro e w2 ⟨rfl, bel2⟩
            obtain ⟨e1, e2, e3, e4⟩ := RE.keep (b := b1) (o := o1 + k * 4) (r := ⟨_, _, _, _⟩) hX.out bel2
            obtain ⟨y1, y2, y3, y4⟩ := RE.keep (b := b1) (o := o1 + j * 4) (r := ⟨_, _, _, _⟩) hY.out bel2
            have bel3 := bel.trans (bel2.mono bel.size)
            have hZ : RB (w2.alloc (.cells #[.int .u64 (f' : Int), .int .u64 (t' : Int), .int .i64 p', .int .i64 q'] 25)) w2.heap.size ⟨f', t', p', q'⟩ := Blk.new _ _ _ rfl
            obtain ⟨z1, z2, z3, z4⟩ := RB.re hZ
            have bel4 := bel3.alloc bel3.size (.cells #[.int .u64 (f' : Int), .int .u64 (t' : Int), .int .i64 p', .int .i64 q'] 25)
            obtain ⟨r1, r2, r3, r4⟩ := RE.keep (b := b1) (o := o1 + k * 4) (r := ⟨_, _, _, _⟩) (RE.keep (b := b1) (o := o1 + k * 4) (r := ⟨_, _, _, _⟩) hX.out bel2) (Below.alloc (Below.refl _ _) (Nat.le_refl _) (.cells #[.int .u64 (f' : Int), .int .u64 (t' : Int), .int .i64 p', .int .i64 q'] 25))
            clear hX hY hZ bel2 bel3 hI
            go_wp2
            go_quiet (fail)
            go_wp2
            go_ret
            exact ⟨by rw [hh.out]; rfl, below_drewN bel4 _⟩
          · by_cases c2 : t' = f
            · subst c2
              by_cases c3 : p' = p
              · subst c3
                by_cases c4 : q' = q
                · subst c4
                  have hh : Hid (decide (RG.Ok true none l) = false) := hbad.out (fun hc => (hOk.out.2 hc).2 rfl ⟨rfl, rfl, rfl⟩)
                  clear hgood hbad hOk g1 hg h0 hy hx hF hj
                  go_wp2_with fail
                  refine (hI.out _).mono ?_
                  rintro e w2 ⟨rfl, bel2⟩
                  obtain ⟨e1, e2, e3, e4⟩ := RE.keep (b := b1) (o := o1 + k * 4) (r := ⟨_, _, _, _⟩) hX.out bel2
                  obtain ⟨y1, y2, y3, y4⟩ := RE.keep (b := b1) (o := o1 + j * 4) (r := ⟨_, _, _, _⟩) hY.out bel2
                  have bel3 := bel.trans (bel2.mono bel.size)
                  have hZ : RB (w2.alloc (.cells #[.int .u64 (f' : Int), .int .u64 (t' : Int), .int .i64 p', .int .i64 q'] 25)) w2.heap.size ⟨f', t', p', q'⟩ := Blk.new _ _ _ rfl
                  obtain ⟨z1, z2, z3, z4⟩ := RB.re hZ
                  have bel4 := bel3.alloc bel3.size (.cells #[.int .u64 (f' : Int), .int .u64 (t' : Int), .int .i64 p', .int .i64 q'] 25)
                  obtain ⟨r1, r2, r3, r4⟩ := RE.keep (b := b1) (o := o1 + k * 4) (r := ⟨_, _, _, _⟩) (RE.keep (b := b1) (o := o1 + k * 4) (r := ⟨_, _, _, _⟩) hX.out bel2) (Below.alloc (Below.refl _ _) (Nat.le_refl _) (.cells #[.int .u64 (f' : Int), .int .u64 (t' : Int), .int .i64 p', .int .i64 q'] 25))
                  clear hX hY hZ bel2 bel3 hI
                  go_wp2
                  go_quiet (fail)
                  go_wp2
                  go_ret
                  exact ⟨by rw [hh.out]; rfl, below_drewN bel4 _⟩
                · have hnx := W_hid (hgood.out (hOk.out.1 ⟨Nat.le_refl _, fun _ hj => c4 hj.2.2⟩))
                  have d4 : (q' == q) = false := by simpa using c4
                  clear hgood hbad hOk g1 hg h0 hy hx hF hj c4
                  go_wp2_with fail
                  refine (hI.out _).mono ?_
                  rintro e w2 ⟨rfl, bel2⟩
                  obtain ⟨e1, e2, e3, e4⟩ := RE.keep (b := b1) (o := o1 + k * 4) (r := ⟨_, _, _, _⟩) hX.out bel2
                  obtain ⟨y1, y2, y3, y4⟩ := RE.keep (b := b1) (o := o1 + j * 4) (r := ⟨_, _, _, _⟩) hY.out bel2
                  have bel3 := bel.trans (bel2.mono bel.size)
                  have hZ : RB (w2.alloc (.cells #[.int .u64 (f' : Int), .int .u64 (t' : Int), .int .i64 p', .int .i64 q'] 25)) w2.heap.size ⟨f', t', p', q'⟩ := Blk.new _ _ _ rfl
                  obtain ⟨z1, z2, z3, z4⟩ := RB.re hZ
                  have bel4 := bel3.alloc bel3.size (.cells #[.int .u64 (f' : Int), .int .u64 (t' : Int), .int .i64 p', .int .i64 q'] 25)
                  obtain ⟨r1, r2, r3, r4⟩ := RE.keep (b := b1) (o := o1 + k * 4) (r := ⟨_, _, _, _⟩) (RE.keep (b := b1) (o := o1 + k * 4) (r := ⟨_, _, _, _⟩) hX.out bel2) (Below.alloc (Below.refl _ _) (Nat.le_refl _) (.cells #[.int .u64 (f' : Int), .int .u64 (t' : Int), .int .i64 p', .int .i64 q'] 25))
                  clear hX hY hZ bel2 bel3 hI
                  go_wp2
                  go_quiet (fail)
                  go_wp2
                  go_roundw
                  case rel => exact ⟨k + 1, by omega, by go_num, hnx, below_drewN bel4 _⟩
                  case measure => simp [intOf]; omega
              · have hnx := W_hid (hgood.out (hOk.out.1 ⟨Nat.le_refl _, fun _ hj => c3 hj.2.1⟩))
                have d3 : (p' == p) = false := by simpa using c3
                clear hgood hbad hOk g1 hg h0 hy hx hF hj c3
                go_wp2_with fail
                refine (hI.out _).mono ?_
                rintro e w2 ⟨rfl, bel2⟩
                obtain ⟨e1, e2, e3, e4⟩ := RE.keep (b := b1) (o := o1 + k * 4) (r := ⟨_, _, _, _⟩) hX.out bel2
                obtain ⟨y1, y2, y3, y4⟩ := RE.keep (b := b1) (o := o1 + j * 4) (r := ⟨_, _, _, _⟩) hY.out bel2
                have bel3 := bel.trans (bel2.mono bel.size)
                have hZ : RB (w2.alloc (.cells #[.int .u64 (f' : Int), .int .u64 (t' : Int), .int .i64 p', .int .i64 q'] 25)) w2.heap.size ⟨f', t', p', q'⟩ := Blk.new _ _ _ rfl
                obtain ⟨z1, z2, z3, z4⟩ := RB.re hZ
                have bel4 := bel3.alloc bel3.size (.cells #[.int .u64 (f' : Int), .int .u64 (t' : Int), .int .i64 p', .int .i64 q'] 25)
                obtain ⟨r1, r2, r3, r4⟩ := RE.keep (b := b1) (o := o1 + k * 4) (r := ⟨_, _, _, _⟩) (RE.keep (b := b1) (o := o1 + k * 4) (r := ⟨_, _, _, _⟩) hX.out bel2) (Below.alloc (Below.refl _ _) (Nat.le_refl _) (.cells #[.int .u64 (f' : Int), .int .u64 (t' : Int), .int .i64 p', .int .i64 q'] 25))
                clear hX hY hZ bel2 bel3 hI
                go_wp2
                go_quiet (fail)
                go_wp2
                go_roundw
                case rel => exact ⟨k + 1, by omega, by go_num, hnx, below_drewN bel4 _⟩
                case measure => simp [intOf]; omega
            · have hnx := W_hid (hgood.out (hOk.out.1 ⟨by show t' ≤ f; omega, fun _ hj => c2 hj.1⟩))
              have d2 : (t' == f) = false := by simpa using c2
              have d2' : ((t' : Int) == (f : Int)) = false := by simp; omega
              clear hgood hbad hOk g1 hg h0 hy hx hF hj c2
              go_wp2_with fail
              refine (hI.out _).mono ?_
              rintro e w2 ⟨rfl, bel2⟩
              obtain ⟨e1, e2, e3, e4⟩ := RE.keep (b := b1) (o := o1 + k * 4) (r := ⟨_, _, _, _⟩) hX.out bel2
              obtain ⟨y1, y2, y3, y4⟩ := RE.keep (b := b1) (o := o1 + j * 4) (r := ⟨_, _, _, _⟩) hY.out bel2
              have bel3 := bel.trans (bel2.mono bel.size)
              have hZ : RB (w2.alloc (.cells #[.int .u64 (f' : Int), .int .u64 (t' : Int), .int .i64 p', .int .i64 q'] 25)) w2.heap.size ⟨f', t', p', q'⟩ := Blk.new _ _ _ rfl
              obtain ⟨z1, z2, z3, z4⟩ := RB.re hZ
              have bel4 := bel3.alloc bel3.size (.cells #[.int .u64 (f' : Int), .int .u64 (t' : Int), .int .i64 p', .int .i64 q'] 25)
              obtain ⟨r1, r2, r3, r4⟩ := RE.keep (b := b1) (o := o1 + k * 4) (r := ⟨_, _, _, _⟩) (RE.keep (b := b1) (o := o1 + k * 4) (r := ⟨_, _, _, _⟩) hX.out bel2) (Below.alloc (Below.refl _ _) (Nat.le_refl _) (.cells #[.int .u64 (f' : Int), .int .u64 (t' : Int), .int .i64 p', .int .i64 q'] 25))
              clear hX hY hZ bel2 bel3 hI
              go_wp2
              go_quiet (fail)
              go_wp2
              go_roundw
              case rel => exact ⟨k + 1, by omega, by go_num, hnx, below_drewN bel4 _⟩
              case measure => simp [intOf]; omega
      · rw [decide_eq_false hg] at hI
        have hh : Hid (decide (RG.Ok true none l) = false) := hbad.out (fun hc => hg (hOk.out.1 hc).1)
        clear hgood hbad hOk g1 hx hg
        go_wp2_with fail
        refine (hI.out _).mono ?_
        rintro e w2 ⟨rfl, bel2⟩
        go_wp2_with fail
        go_ret
        exact ⟨by rw [hh.out]; rfl, bel.trans (bel2.mono bel.size)⟩
    · obtain rfl : k = n := by omega
      have hh : Hid (decide (RG.Ok true none l) = true) := decide_eq_true (ok_all (fun i hi => hok.out i (by rw [← L.out]; exact hi)))
      clear hok
      go_wp2_with fail
      go_ret
      exact ⟨by rw [hh.out]; rfl, bel⟩
end Go.Proofs.Ytfbhcnamkojboaa

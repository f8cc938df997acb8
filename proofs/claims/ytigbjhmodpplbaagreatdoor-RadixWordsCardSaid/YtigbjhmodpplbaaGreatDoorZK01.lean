/- The document's own tree in memory: its two lists, its pool; span, Size, table, at. -/
import Derived.Test.YtigbjhmodpplbaaGreatDoorZH02
import Derived.Test.YtigbjhmodpplbaaGreatDoorZH04
import Derived.BigQuiet

/- Contracts of the document's own pool: isRun, busy, set, New, Alloc, Free, Left, Taken; of every pool. -/
namespace Go.Proofs.YtigbjhmodpplbaaGreatDoor
open Go.ChangeShapes Go.WideShapes Go.ChangeAt Go.RowKit
set_option linter.unusedVariables false
set_option linter.unusedSimpArgs false

set_option maxRecDepth 100000 in
set_option maxHeartbeats 400000 in
theorem isRun_yes (q : Nat) (hq : FR.Run q) (w : World) : Calls Tryz.prog 103 #[.int .i64 q] w fun e w' => e = .returned (.bool true) ∧ w = w' := by
  have hq2 := (FR.run_le hq).2
  obtain ⟨j, hj, hqj⟩ := hq
  replace hqj := W_hid hqj
  go_enter Tryz.func103, Tryz.ntmps103
  go_wp2
  go_loop [3] (fun i => ∃ P : Nat, 1 ≤ P ∧ P ≤ 512 ∧ i = .int .i64 P ∧ Hid (∃ t, t ≤ j ∧ P = 2 ^ t)) (fun i => 1024 - (intOf i).toNat)
  case atStart => exact ⟨1, by omega, by omega, rfl, 0, by omega, rfl⟩
  case round =>
    obtain ⟨P, h1, h2, rfl, hP⟩ := hrel
    have i1 : (P : Int) ≤ 512 := by omega
    by_cases he : P = q
    · have d1 : ((P : Int) == (q : Int)) = true := by simp; omega
      clear he
      go_wp2
      go_ret
      exact ⟨rfl, rfl⟩
    · have d1 : ((P : Int) == (q : Int)) = false := by simp; omega
      have hn : Hid (2 * P ≤ 512 ∧ ∃ t, t ≤ j ∧ 2 * P = 2 ^ t) := by
        obtain ⟨t, ht, e⟩ := hP.out
        have htj : t < j := by
          rcases Nat.lt_or_ge t j with hlt | hge
          · exact hlt
          · exact absurd (by rw [e, hqj.out, show t = j by omega]) he
        have e2 : 2 * P = 2 ^ (t + 1) := by rw [e, Nat.pow_succ, Nat.mul_comm]
        refine ⟨?_, t + 1, htj, e2⟩
        rw [e2]
        exact Nat.pow_le_pow_right (show 0 < 2 by decide) (show t + 1 ≤ 9 by omega)
      clear he
      go_wp2
      go_round
      case rel => exact ⟨2 * P, by omega, hn.out.1, by go_num, hn.out.2⟩
      case measure => simp [intOf]; omega

set_option maxRecDepth 100000 in
set_option maxHeartbeats 400000 in
theorem isRun_no (k : Int) (hk : ¬ FR.RunI k) (w : World) : Calls Tryz.prog 103 #[.int .i64 k] w fun e w' => e = .returned (.bool false) ∧ w = w' := by
  replace hk := W_hid hk
  go_enter Tryz.func103, Tryz.ntmps103
  go_wp2
  go_loop [3] (fun i => ∃ P : Nat, 1 ≤ P ∧ P ≤ 1024 ∧ i = .int .i64 P ∧ Hid (P = 1024 ∨ FR.Run P)) (fun i => 2048 - (intOf i).toNat)
  case atStart => exact ⟨1, by omega, by omega, rfl, .inr ⟨0, by omega, rfl⟩⟩
  case round =>
    obtain ⟨P, h1, h2, rfl, hP⟩ := hrel
    by_cases hle : P ≤ 512
    · have hr : FR.Run P := hP.out.resolve_left (by omega)
      have d1 : ((P : Int) == k) = false := by
        simp
        intro e
        exact hk.out ⟨P, e.symm, hr⟩
      have hn : Hid (2 * P = 1024 ∨ FR.Run (2 * P)) := by
        have := FR.run_ten hr
        by_cases h5 : P = 512
        · exact .inl (by omega)
        · exact .inr (FR.ten_run (by omega))
      clear hr
      go_wp2
      go_round
      case rel => exact ⟨2 * P, by omega, by omega, by go_num, hn⟩
      case measure => simp [intOf]; omega
    · go_wp2
      go_ret
      exact ⟨rfl, rfl⟩

theorem RL.c0 {w : World} {g b n : Nat} {T : Nat → Bool} (h : RL w g b n T) : w.cell? ⟨g, 0, none⟩ = some (.slice (some ⟨b, 0, none⟩) n n) := h.box.cell rfl

set_option maxRecDepth 100000 in
set_option maxHeartbeats 400000 in
theorem busy_any (g b n f k : Nat) (T : Nat → Bool) (w : World) (h : RL w g b n T) (hf : f + k ≤ n) :
    Calls Tryz.prog 81 #[.pointer (some ⟨g, 0, none⟩), .int .i64 f, .int .i64 k] w fun e w' => e = .returned (.int .i64 ((FR.cnt T f k : Nat) : Int)) ∧ w = w' := by
  have c0 := h.c0
  have hn := h.n2
  have H := W_hid h
  clear h
  go_enter Tryz.func81, Tryz.ntmps81
  go_wp2
  go_loop [7, 8] (fun c i => ∃ t : Nat, t ≤ k ∧ i = .int .i64 ((f : Int) + t) ∧ c = .int .i64 ((FR.cnt T f t : Nat) : Int)) (fun _ i => f + k - (intOf i).toNat)
  case atStart => exact ⟨0, by omega, by simp, rfl⟩
  case round =>
    obtain ⟨t, ht, rfl, rfl⟩ := hrel
    have hl := FR.cnt_le T f t
    by_cases hlt : t < k
    · have hcell : w.cell? ⟨b, f + t, none⟩ = some (.bool (T (f + t))) := H.out.row.cell (brow_get T n (f + t) (by omega))
      have hto : ((f : Int) + t).toNat = f + t := by omega
      have hidx : (f : Int) + t < n := by omega
      have hs : Hid (FR.cnt T f (t + 1) = FR.cnt T f t + (T (f + t)).toNat) := rfl
      have hi1 : (f : Int) + t + 1 = (f : Int) + ((t + 1 : Nat) : Int) := by omega
      cases hT : T (f + t)
      · rw [hT] at hcell hs
        go_wp2
        go_round
        case rel => exact ⟨t + 1, by omega, by go_num, by rw [hs.out]; rfl⟩
        case measure => simp [intOf]; omega
      · rw [hT] at hcell hs
        go_wp2
        go_round
        case rel => exact ⟨t + 1, by omega, by go_num, by rw [hs.out]; go_num⟩
        case measure => simp [intOf]; omega
    · obtain rfl : t = k := by omega
      go_wp2
      go_ret
      exact ⟨rfl, rfl⟩

set_option maxRecDepth 100000 in
set_option maxHeartbeats 400000 in
theorem rset_any (g b n f k : Nat) (T : Nat → Bool) (h : Bool) (w : World) (hp : RL w g b n T) (hf : f + k ≤ n) :
    Calls Tryz.prog 104 #[.pointer (some ⟨g, 0, none⟩), .int .i64 f, .int .i64 k, .bool h] w fun e w' => e = .returned (.tuple #[]) ∧ RL w' g b n (FR.st T f k h) ∧ Two b b w w' := by
  have hn := hp.n2
  go_enter Tryz.func104, Tryz.ntmps104
  go_wp2
  go_loopw [8] (fun i wr => ∃ t : Nat, t ≤ k ∧ i = .int .i64 ((f : Int) + t) ∧ RL wr g b n (FR.st T f t h) ∧ Two b b w wr) (fun i _ => f + k - (intOf i).toNat)
  case atStart => exact ⟨0, by omega, by simp, by rw [FR.st_zero]; exact hp, Two.refl _ _ _⟩
  case round =>
    obtain ⟨t, ht, rfl, hr, two⟩ := hrel
    by_cases hlt : t < k
    · have c0 := hr.c0
      have hcell : wr.cell? ⟨b, f + t, none⟩ = some (.bool (FR.st T f t h (f + t))) := hr.row.cell (brow_get _ n (f + t) (by omega))
      have hfz := hr.row.fz
      have hto : ((f : Int) + t).toNat = f + t := by omega
      have hidx : (f : Int) + t < n := by omega
      have hset := hr.row.set (f + t) (.bool h)
      rw [brow_set _ _ _ _ (by omega), FR.st_step] at hset
      have hbox := hr.box.far (p := ⟨b, f + t, none⟩) hr.ne (.bool h)
      have two2 := two.setCell (p := ⟨b, f + t, none⟩) (.inl rfl) (.bool h)
      have hr2 : RL (wr.setCell ⟨b, f + t, none⟩ (.bool h)) g b n (FR.st T f (t + 1) h) := ⟨hbox, hset, hr.ne, hr.n1, hr.n2⟩
      clear hset hbox
      go_wp2
      go_roundw
      case rel => exact ⟨t + 1, by omega, by go_num, hr2, two2⟩
      case measure => simp [intOf]; omega
    · obtain rfl : t = k := by omega
      go_wp2
      go_end0
      exact ⟨rfl, hr, two⟩

set_option maxRecDepth 100000 in
set_option maxHeartbeats 400000 in
theorem rNew_yes (n : Nat) (h1 : 1 ≤ n) (h2 : n ≤ 65536) (w : World) :
    Calls Tryz.prog 13 #[.int .i64 n] w fun e w' => e = .returned (.tuple #[.pointer (some ⟨w.heap.size + 1, 0, none⟩), .int .i64 0]) ∧ RL w' (w.heap.size + 1) w.heap.size n (fresh n) ∧ Below w.heap.size w w' := by
  have i1 : (1 : Int) ≤ n := by omega
  have i2 : (n : Int) ≤ 65536 := by omega
  obtain ⟨X, hmk, hX⟩ := make_bools n h2
  have hx := hX w
  rw [brow_congr _ (fresh n) n (fun x hx => (fresh_low n x hx).symm)] at hx
  clear hX
  go_enter Tryz.func13, Tryz.ntmps13
  go_wp2
  go_ret2
  have e1 : (w.alloc X).heap.size = w.heap.size + 1 := by simp
  refine ⟨by simp [e1], ⟨Blk.new (w.alloc X) _ [.slice (some ⟨w.heap.size, 0, none⟩) n n] e1.symm, hx.alloc _, by omega, h1, h2⟩, ((Below.refl _ _).alloc (Nat.le_refl _) _).alloc (by simp) _⟩

set_option maxRecDepth 100000 in
set_option maxHeartbeats 400000 in
theorem rNew_no (n : Int) (h : ¬ (1 ≤ n ∧ n ≤ 65536)) (w : World) :
    Calls Tryz.prog 13 #[.int .i64 n] w fun e w' => e = .returned (.tuple #[.pointer none, .int .i64 2]) ∧ w = w' := by
  by_cases h1 : n < 1
  · have d1 : decide (n < 1) = true := by simpa using h1
    clear h h1
    go_enter Tryz.func13, Tryz.ntmps13
    go_wp2
    go_ret2
    exact ⟨rfl, rfl⟩
  · have d1 : decide (n < 1) = false := by simp; omega
    have d2 : decide (65536 < n) = true := by simp; omega
    clear h h1
    go_enter Tryz.func13, Tryz.ntmps13
    go_wp2
    go_ret2
    exact ⟨rfl, rfl⟩

theorem ans_gets {T T' : Nat → Bool} {n a e : Nat} {q : Nat} (hq : FR.Run q) (h : FR.Gets T n (q : Int) a e T') :
    ∃ yes, FR.Ans T n q a yes ∧ ((yes = true ∧ e = 0 ∧ T' = FR.st T a q true) ∨ (yes = false ∧ e = 24 ∧ T' = T)) := by
  rcases h with ⟨-, -, -, hk⟩ | ⟨rfl, rfl, rfl, q', hq', -, hno⟩ | ⟨rfl, q', hq', -, hlow, rfl⟩
  · exact absurd ⟨q, rfl, hq⟩ hk
  · obtain rfl : q = q' := by omega
    exact ⟨false, .inr ⟨rfl, rfl, hno⟩, .inr ⟨rfl, rfl, rfl⟩⟩
  · obtain rfl : q = q' := by omega
    exact ⟨true, .inl ⟨rfl, hlow⟩, .inl ⟨rfl, rfl, rfl⟩⟩

set_option maxRecDepth 100000 in
set_option maxHeartbeats 1000000 in
theorem rAlloc_any (g b n : Nat) (T T' : Nat → Bool) (k : Int) (a e : Nat) (w : World) (h : RL w g b n T) (hs : FR.Gets T n k a e T') :
    Calls Tryz.prog 50 #[.pointer (some ⟨g, 0, none⟩), .int .i64 k] w fun r w' => r = .returned (.tuple #[.int .u64 a, .int .i64 e]) ∧ RL w' g b n T' ∧ Two g b w w' := by
  by_cases hk : FR.RunI k
  · obtain ⟨q, rfl, hq⟩ := hk
    obtain ⟨yes, hans, hyes⟩ := ans_gets hq hs
    have hL := W_hid (isRun_yes q hq)
    obtain ⟨q1, q2⟩ := FR.run_le hq
    have c0 := h.c0
    have hn := h.n2
    obtain ⟨S, G, -, -, -, -, -, -, -, -, -, -, -, -, hu⟩ := FR.run_step hq
    replace hu := W_hid hu
    replace hans := W_hid hans
    replace hyes := W_hid hyes
    have H := W_hid h
    clear hs hq h
    go_enter Tryz.func50, Tryz.ntmps50
    go_wp2_with fail
    refine (hL.out _).mono ?_
    rintro e w' ⟨rfl, rfl⟩
    go_wp2_with fail
    go_loop [7, 8] (fun i _ => ∃ F : Nat, F ≤ n + 1024 ∧ i = .int .i64 F ∧ Hid (F % q = 0) ∧ Hid (FR.Non T q F)) (fun i _ => n + 2048 - (intOf i).toNat)
    case atStart => exact ⟨0, by omega, rfl, Nat.zero_mod _, fun f hf => by omega⟩
    case round =>
      obtain ⟨F, hF, rfl, hFq, hnon⟩ := hrel
      by_cases hle : F + q ≤ n
      · have d0 : (F : Int) + q ≤ n := by omega
        have hB := W_hid (busy_any g b n F q T w H.out hle)
        by_cases hc : FR.cnt T F q = 0
        · obtain ⟨hy, ha⟩ := hans.out.found hFq.out hle ((FR.cnt_zero _ _ _).1 hc) hnon.out
          have hr : Hid (a = F ∧ e = 0 ∧ T' = FR.st T F q true) := by
            rcases hyes.out with ⟨-, e1, e2⟩ | ⟨e0, -, -⟩
            · exact ⟨ha, e1, by rw [e2, ha]⟩
            · rw [e0] at hy; cases hy
          have hS := W_hid (rset_any g b n F q T true w H.out hle)
          have d1 : (((FR.cnt T F q : Nat) : Int) == 0) = true := by rw [hc]; rfl
          clear hc hy ha
          go_wp2_with fail
          refine hB.out.mono ?_
          rintro r1 w' ⟨rfl, rfl⟩
          go_wp2_with fail
          refine hS.out.mono ?_
          rintro r1 w2 ⟨rfl, hr2, two⟩
          go_wp2
          go_ret2
          obtain ⟨e1, e2, e3⟩ := hr.out
          exact ⟨by rw [e1, e2]; rfl, by rw [e3]; exact hr2, two.wide⟩
        · have hnext : Hid (FR.Non T q (F + q)) := hnon.out.step hu.out hFq.out (fun h => hc ((FR.cnt_zero _ _ _).2 h))
          have hmod : Hid ((F + q) % q = 0) := by show _ = _; rw [Nat.add_mod_right]; exact hFq.out
          have d1 : (((FR.cnt T F q : Nat) : Int) == 0) = false := by simp; omega
          clear hc
          go_wp2_with fail
          refine hB.out.mono ?_
          rintro r1 w' ⟨rfl, rfl⟩
          go_wp2
          go_round
          case rel => exact ⟨F + q, by omega, by go_num, hmod, hnext⟩
          case measure => simp [intOf]; omega
      · obtain ⟨hy, ha⟩ : yes = false ∧ a = 0 := by
          rcases hans.out with ⟨-, hl⟩ | ⟨hy, ha, -⟩
          · exact absurd hl.2.2.1 (hnon.out a (by have := hl.2.1; omega) hl.1)
          · exact ⟨hy, ha⟩
        have hr : Hid (a = 0 ∧ e = 24 ∧ T' = T) := by
          rcases hyes.out with ⟨e0, -, -⟩ | ⟨-, e1, e2⟩
          · rw [e0] at hy; cases hy
          · exact ⟨ha, e1, e2⟩
        have d0 : decide ((F : Int) + q ≤ n) = false := by simp; omega
        clear hy ha hle
        go_wp2
        go_ret2
        obtain ⟨e1, e2, e3⟩ := hr.out
        exact ⟨by rw [e1, e2]; rfl, by rw [e3]; exact H.out, Two.refl _ _ _⟩
  · obtain ⟨rfl, rfl, rfl⟩ : e = 2 ∧ a = 0 ∧ T' = T := by
      rcases hs with ⟨h1, h2, h3, -⟩ | ⟨-, -, -, q, hq, hr, -⟩ | ⟨-, q, hq, hr, -⟩
      · exact ⟨h1, h2, h3⟩
      · exact absurd ⟨q, hq, hr⟩ hk
      · exact absurd ⟨q, hq, hr⟩ hk
    have hL := W_hid (isRun_no k hk)
    clear hk hs
    go_enter Tryz.func50, Tryz.ntmps50
    go_wp2_with fail
    refine (hL.out _).mono ?_
    rintro e w' ⟨rfl, rfl⟩
    go_wp2
    go_ret2
    exact ⟨rfl, h, Two.refl _ _ _⟩

set_option maxRecDepth 100000 in
set_option maxHeartbeats 1000000 in
theorem rFree_any (g b n f : Nat) (T T' : Nat → Bool) (k : Int) (e : Nat) (w : World) (h : RL w g b n T) (hf : f < 18446744073709551616) (hs : FR.Puts T n f k e T') :
    Calls Tryz.prog 157 #[.pointer (some ⟨g, 0, none⟩), .int .u64 f, .int .i64 k] w fun r w' => r = .returned (.int .i64 e) ∧ RL w' g b n T' ∧ Two g b w w' := by
  by_cases hk : FR.RunI k
  · obtain ⟨q, rfl, hq⟩ := hk
    have hL := W_hid (isRun_yes q hq)
    obtain ⟨q1, q2⟩ := FR.run_le hq
    have c0 := h.c0
    have hn := h.n2
    have H := W_hid h
    by_cases hin : f % q = 0 ∧ f + q ≤ n
    · obtain ⟨h1, h2⟩ := hin
      have d1 : decide (n ≤ f) = false := by simp; omega
      have d2 : ((f : Int) % (q : Int)) = 0 := by rw [← Int.natCast_emod, h1]; rfl
      have d3 : decide ((n : Int) < (f : Int) + q) = false := by simp; omega
      have hf2 : f ≤ 65536 := by omega
      have hB := W_hid (busy_any g b n f q T w h h2)
      by_cases hall : FR.All T f q true
      · have hr : Hid (e = 0 ∧ T' = FR.st T f q false) := by
          rcases hs with ⟨-, -, hk⟩ | ⟨-, -, q', hq', -, hno⟩ | ⟨-, -, q', hq', -, -, -, hno⟩ | ⟨e0, q', hq', -, -, -, -, e1⟩
          · exact absurd ⟨q, rfl, hq⟩ hk
          · obtain rfl : q = q' := by omega
            exact absurd ⟨h1, h2⟩ hno
          · obtain rfl : q = q' := by omega
            exact absurd hall hno
          · obtain rfl : q = q' := by omega
            exact ⟨e0, e1⟩
        have d4 : (((FR.cnt T f q : Nat) : Int) != (q : Int)) = false := by rw [(FR.cnt_full T f q).2 hall]; simp
        have hS := W_hid (rset_any g b n f q T false w h h2)
        clear hs hq h hall h1
        go_enter Tryz.func157, Tryz.ntmps157
        go_wp2_with fail
        refine (hL.out _).mono ?_
        rintro r w' ⟨rfl, rfl⟩
        go_wp2_with fail
        refine hB.out.mono ?_
        rintro r w' ⟨rfl, rfl⟩
        go_wp2_with fail
        refine hS.out.mono ?_
        rintro r w2 ⟨rfl, hr2, two⟩
        go_wp2
        go_ret
        obtain ⟨e1, e2⟩ := hr.out
        exact ⟨by rw [e1]; rfl, by rw [e2]; exact hr2, two.wide⟩
      · have hr : Hid (e = 101 ∧ T' = T) := by
          rcases hs with ⟨-, -, hk⟩ | ⟨-, -, q', hq', -, hno⟩ | ⟨e0, e1, -⟩ | ⟨-, q', hq', -, -, -, hal, -⟩
          · exact absurd ⟨q, rfl, hq⟩ hk
          · obtain rfl : q = q' := by omega
            exact absurd ⟨h1, h2⟩ hno
          · exact ⟨e0, e1⟩
          · obtain rfl : q = q' := by omega
            exact absurd hal hall
        have d4 : (((FR.cnt T f q : Nat) : Int) != (q : Int)) = true := by
          have : FR.cnt T f q ≠ q := fun h => hall ((FR.cnt_full T f q).1 h)
          simp; omega
        clear hs hq h hall h1
        go_enter Tryz.func157, Tryz.ntmps157
        go_wp2_with fail
        refine (hL.out _).mono ?_
        rintro r w' ⟨rfl, rfl⟩
        go_wp2_with fail
        refine hB.out.mono ?_
        rintro r w' ⟨rfl, rfl⟩
        go_wp2
        go_ret
        obtain ⟨e1, e2⟩ := hr.out
        exact ⟨by rw [e1]; rfl, by rw [e2]; exact H.out, Two.refl _ _ _⟩
    · have hr : Hid (e = 2 ∧ T' = T) := by
        rcases hs with ⟨-, -, hk⟩ | ⟨e0, e1, -⟩ | ⟨-, -, q', hq', -, h1, h2, -⟩ | ⟨-, q', hq', -, h1, h2, -, -⟩
        · exact absurd ⟨q, rfl, hq⟩ hk
        · exact ⟨e0, e1⟩
        · obtain rfl : q = q' := by omega
          exact absurd ⟨h1, h2⟩ hin
        · obtain rfl : q = q' := by omega
          exact absurd ⟨h1, h2⟩ hin
      by_cases hlt : f < n
      · have d1 : decide (n ≤ f) = false := by simp; omega
        have hf2 : f ≤ 65536 := by omega
        by_cases hm : f % q = 0
        · have d2 : ((f : Int) % (q : Int)) = 0 := by rw [← Int.natCast_emod, hm]; rfl
          have d3 : decide ((n : Int) < (f : Int) + q) = true := by simp; omega
          clear hs hq h hin hlt hm
          go_enter Tryz.func157, Tryz.ntmps157
          go_wp2_with fail
          refine (hL.out _).mono ?_
          rintro r w' ⟨rfl, rfl⟩
          go_wp2
          go_ret
          obtain ⟨e1, e2⟩ := hr.out
          exact ⟨by rw [e1]; rfl, by rw [e2]; exact H.out, Two.refl _ _ _⟩
        · obtain ⟨z, hz⟩ : ∃ z, f % q = z := ⟨_, rfl⟩
          have d2 : ((f : Int) % (q : Int)) = z := by rw [← Int.natCast_emod, hz]
          have d3 : ((z : Int) != 0) = true := by simp; omega
          clear hs hq h hin hlt hm hz
          go_enter Tryz.func157, Tryz.ntmps157
          go_wp2_with fail
          refine (hL.out _).mono ?_
          rintro r w' ⟨rfl, rfl⟩
          go_wp2
          go_ret
          obtain ⟨e1, e2⟩ := hr.out
          exact ⟨by rw [e1]; rfl, by rw [e2]; exact H.out, Two.refl _ _ _⟩
      · have d1 : decide (n ≤ f) = true := by simp; omega
        clear hs hq h hin hlt
        go_enter Tryz.func157, Tryz.ntmps157
        go_wp2_with fail
        refine (hL.out _).mono ?_
        rintro r w' ⟨rfl, rfl⟩
        go_wp2
        go_ret
        obtain ⟨e1, e2⟩ := hr.out
        exact ⟨by rw [e1]; rfl, by rw [e2]; exact H.out, Two.refl _ _ _⟩
  · obtain ⟨rfl, rfl⟩ : e = 2 ∧ T' = T := by
      rcases hs with ⟨h1, h2, -⟩ | ⟨h1, h2, -⟩ | ⟨-, -, q, hq, hr, -⟩ | ⟨-, q, hq, hr, -⟩
      · exact ⟨h1, h2⟩
      · exact ⟨h1, h2⟩
      · exact absurd ⟨q, hq, hr⟩ hk
      · exact absurd ⟨q, hq, hr⟩ hk
    have hL := W_hid (isRun_no k hk)
    clear hk hs
    go_enter Tryz.func157, Tryz.ntmps157
    go_wp2_with fail
    refine (hL.out _).mono ?_
    rintro r w' ⟨rfl, rfl⟩
    go_wp2
    go_ret
    exact ⟨rfl, h, Two.refl _ _ _⟩

theorem RL.drewN {w : World} {g b n : Nat} {T : Nat → Bool} (h : RL w g b n T) (t : Nat) : RL (w.drewN t) g b n T := ⟨h.box, h.row, h.ne, h.n1, h.n2⟩
theorem PL.drewN {w : World} {g b n m : Nat} {T : Nat → Bool} (h : PL w g b n m T) (t : Nat) : PL (w.drewN t) g b n m T := ⟨h.box, h.row, h.ne, h.n1, h.n2, h.nm, h.m8, h.m2, h.pad⟩

set_option maxRecDepth 100000 in
set_option maxHeartbeats 1000000 in
theorem rLeft_any (g b n : Nat) (T : Nat → Bool) (w : World) (h : RL w g b n T) :
    Calls Tryz.prog 31 #[.pointer (some ⟨g, 0, none⟩)] w fun e w' => e = .returned (.int .i64 ((n - FR.cnt T 0 n : Nat) : Int)) ∧ ∃ q, w' = w.drewN q := by
  have c0 := h.c0
  have hB := W_hid (fun t => Calls.quiet_of_same ((busy_any g b n 0 n T (w.drewN t) (h.drewN t) (by omega)).mono fun e w' ⟨he, hw⟩ => ⟨he, hw.symm⟩))
  have hle := FR.cnt_le T 0 n
  have hn := h.n2
  have e1 : (n : Int) - ((FR.cnt T 0 n : Nat) : Int) = ((n - FR.cnt T 0 n : Nat) : Int) := by omega
  clear h
  go_enter Tryz.func31, Tryz.ntmps31
  go_wp2_with fail
  go_quiet ((go_at_call 81; exact hB.out _))
  go_wp2
  go_ret
  exact ⟨rfl, _, rfl⟩

end Go.Proofs.YtigbjhmodpplbaaGreatDoor

namespace Go.Proofs.YtigbjhmodpplbaaGreatDoor
open Go.ChangeShapes Go.WideShapes Go.ChangeAt Go.RowKit
set_option linter.unusedVariables false
set_option linter.unusedSimpArgs false

def pgc (x : RX.Pg) : List Value := [.int .u64 (x.1 : Int), .int .u64 (x.2.1 : Int), .int .i64 x.2.2.1, .bool x.2.2.2]
def tbc (x : RX.Tb) : List Value := [.int .u64 (x.1 : Int), .int .i64 (x.2.1 : Int), .int .u64 (x.2.2 : Int)]
def pcl (L : List RX.Pg) : List Value := L.flatMap pgc
def tcl (L : List RX.Tb) : List Value := L.flatMap tbc
theorem flat_len {α : Type} (c : α → List Value) (k : Nat) (hc : ∀ x, (c x).length = k) : ∀ l : List α, (l.flatMap c).length = l.length * k
  | [] => by simp
  | x :: l => by rw [List.flatMap_cons, List.length_append, hc, flat_len c k hc l, List.length_cons, Nat.succ_mul, Nat.add_comm]
theorem flat_get {α : Type} (c : α → List Value) (k : Nat) (hc : ∀ x, (c x).length = k) : ∀ (l : List α) (i m : Nat) (hi : i < l.length), m < k → (l.flatMap c)[i * k + m]? = (c l[i])[m]?
  | [], i, m, hi, _ => absurd hi (by simp)
  | x :: l, 0, m, hi, hm => by
    rw [Nat.zero_mul, Nat.zero_add, List.flatMap_cons, List.getElem?_append_left (by rw [hc]; exact hm)]
    rfl
  | x :: l, i + 1, m, hi, hm => by
    rw [List.flatMap_cons, List.getElem?_append_right (by rw [hc, Nat.succ_mul]; omega), hc, Nat.succ_mul, show i * k + k + m - k = i * k + m by omega]
    rw [flat_get c k hc l i m (by simpa using hi) hm]
    rfl
theorem flat_take {α : Type} (c : α → List Value) (k : Nat) (hc : ∀ x, (c x).length = k) : ∀ (l : List α) (i : Nat), (l.flatMap c).take (i * k) = (l.take i).flatMap c
  | [], i => by simp
  | x :: l, 0 => by simp
  | x :: l, i + 1 => by
    rw [List.flatMap_cons, List.take_succ_cons, List.flatMap_cons, List.take_append, hc, Nat.succ_mul, show i * k + k - k = i * k by omega, flat_take c k hc l i, List.take_of_length_le (by rw [hc]; omega)]
theorem flat_drop {α : Type} (c : α → List Value) (k : Nat) (hc : ∀ x, (c x).length = k) : ∀ (l : List α) (i : Nat), (l.flatMap c).drop (i * k) = (l.drop i).flatMap c
  | [], i => by simp
  | x :: l, 0 => by simp
  | x :: l, i + 1 => by
    rw [List.flatMap_cons, List.drop_succ_cons, List.drop_append, hc, Nat.succ_mul, show i * k + k - k = i * k by omega, flat_drop c k hc l i, List.drop_of_length_le (by rw [hc]; omega), List.nil_append]
theorem pgc_len (x : RX.Pg) : (pgc x).length = 4 := rfl
theorem tbc_len (x : RX.Tb) : (tbc x).length = 3 := rfl

/-- The cells of a row that is owned. -/
theorem own_cells {w : World} {base e size n : Nat} {v : Value} {xs : List Value} (h : w.ownsRow base e size v n xs) (hn : 0 < n) :
    ∃ b o cap, v = .slice (some ⟨b, o, none⟩) n cap ∧ n ≤ cap ∧ cap ≤ maxLen ∧ b < w.heap.size ∧ v.ownBlock = some b ∧ (∀ j u, xs[j]? = some u → w.cell? ⟨b, o + j, none⟩ = some u) ∧ ∀ j, w.frozen? ⟨b, j, none⟩ = false := by
  rcases h.2 with ⟨_, h0⟩ | ⟨g, cap, cur, hv, hb, hg, hnc, hcm, hcs, htake⟩
  · omega
  · refine ⟨g, 0, cap, hv, hnc, hcm, ?_, by rw [hv]; rfl, fun j u hu => ?_, fun j => frozen_of_row w g j cur e hg⟩
    · rcases Nat.lt_or_ge g w.heap.size with hlt | hge
      · exact hlt
      · rw [Array.getElem?_eq_none hge] at hg; cases hg
    · rw [Nat.zero_add, cell_of_row w g j cur e (0, 0) hg]
      rw [← htake, List.getElem?_take] at hu
      split at hu
      · simpa using hu
      · cases hu
theorem own_lens {w : World} {base e size n : Nat} {v : Value} {xs : List Value} (h : w.ownsRow base e size v n xs) : ∃ a cap, v = .slice a n cap ∧ n ≤ cap ∧ cap ≤ maxLen := by
  rcases h.2 with ⟨h1, h0⟩ | ⟨g, cap, cur, hv, hb, hg, hnc, hcm, hcs, htake⟩
  · subst h0; exact ⟨_, _, h1, Nat.le_refl _, Nat.zero_le _⟩
  · exact ⟨_, _, hv, hnc, hcm⟩

/-- The document's tree: its own block g, its pool's blocks pg and pb; all of its blocks are among D. -/
structure DM (w : World) (D : List Nat) (g pg pb n : Nat) (T : Nat → Bool) (lv tv : Value) (L : List RX.Pg) (Tl : List RX.Tb) : Prop where
  box : Blk w g 73 [.pointer (some ⟨pg, 0, none⟩), lv, tv]
  lo : w.ownsRow 0 38 4 lv L.length (pcl L)
  trow : w.ownsRow 0 105 3 tv Tl.length (tcl Tl)
  rl : RL w pg pb n T
  dg : g ∈ D
  dp : pg ∈ D
  db : pb ∈ D
  gp : g ≠ pg
  gb : g ≠ pb
  ld : ∀ x, lv.ownBlock = some x → x ∈ D ∧ x ≠ g ∧ x ≠ pg ∧ x ≠ pb ∧ tv.ownBlock ≠ some x
  td : ∀ x, tv.ownBlock = some x → x ∈ D ∧ x ≠ g ∧ x ≠ pg ∧ x ≠ pb
  llt : ∀ x ∈ L, x.1 < 140737488355328 ∧ x.2.1 < 68719476736
  tlt : ∀ x ∈ Tl, x.1 < 65536 ∧ 1 ≤ x.2.1 ∧ x.2.1 ≤ 4 ∧ x.2.2 < 281474976710656
theorem own_but {w w' : World} {S : List Nat} {base e size n : Nat} {v : Value} {xs : List Value} (h : w.ownsRow base e size v n xs) (t : But S w w') (hv : ∀ x, v.ownBlock = some x → x ∉ S) : w'.ownsRow base e size v n xs := by
  rcases h.2 with h0 | ⟨g, cap, cur, h1, h2, h3, h4⟩
  · exact ⟨h.1, .inl h0⟩
  · have hlt : g < w.heap.size := by
      rcases Nat.lt_or_ge g w.heap.size with hlt | hge
      · exact hlt
      · rw [Array.getElem?_eq_none hge] at h3; cases h3
    exact ⟨h.1, .inr ⟨g, cap, cur, h1, h2, (t.block g hlt (hv g (by rw [h1]; rfl))).trans h3, h4⟩⟩
theorem RL.but {w w' : World} {S : List Nat} {g b n : Nat} {T : Nat → Bool} (h : RL w g b n T) (t : But S w w') (h1 : g ∉ S) (h2 : b ∉ S) : RL w' g b n T := ⟨h.box.but t h1, h.row.but t h2, h.ne, h.n1, h.n2⟩
section
variable {w w' : World} {D : List Nat} {g pg pb n : Nat} {T : Nat → Bool} {lv tv : Value} {L : List RX.Pg} {Tl : List RX.Tb}
/-- What another side's calls leave. -/
theorem DM.but {S : List Nat} (h : DM w D g pg pb n T lv tv L Tl) (t : But S w w') (hd : ∀ x ∈ D, x ∉ S) : DM w' D g pg pb n T lv tv L Tl :=
  ⟨h.box.but t (hd _ h.dg), own_but h.lo t (fun x hx => hd _ (h.ld x hx).1), own_but h.trow t (fun x hx => hd _ (h.td x hx).1), h.rl.but t (hd _ h.dp) (hd _ h.db), h.dg, h.dp, h.db, h.gp, h.gb, h.ld, h.td, h.llt, h.tlt⟩
theorem DM.keep (h : DM w D g pg pb n T lv tv L Tl) (hb : Below w.heap.size w w') : DM w' D g pg pb n T lv tv L Tl := h.but (But.of (S := []) hb) (fun _ _ => by simp)
theorem DM.drewN (h : DM w D g pg pb n T lv tv L Tl) (q : Nat) : DM (w.drewN q) D g pg pb n T lv tv L Tl := h.keep ⟨rfl, rfl, rfl, Nat.le_refl _, fun _ _ => rfl⟩
theorem DM.c1 (h : DM w D g pg pb n T lv tv L Tl) : w.cell? ⟨g, 1, none⟩ = some lv := h.box.cell rfl
theorem DM.c2 (h : DM w D g pg pb n T lv tv L Tl) : w.cell? ⟨g, 2, none⟩ = some tv := h.box.cell rfl
theorem DM.c0 (h : DM w D g pg pb n T lv tv L Tl) : w.cell? ⟨g, 0, none⟩ = some (.pointer (some ⟨pg, 0, none⟩)) := h.box.cell rfl
/-- A page's cells. -/
theorem DM.page (h : DM w D g pg pb n T lv tv L Tl) {i : Nat} (hi : i < L.length) : ∃ b o cap, lv = .slice (some ⟨b, o, none⟩) L.length cap ∧ L.length ≤ cap ∧ cap ≤ maxLen ∧
    w.cell? ⟨b, o + i * 4, none⟩ = some (.int .u64 (L[i].1 : Int)) ∧ w.cell? ⟨b, o + i * 4 + 1, none⟩ = some (.int .u64 (L[i].2.1 : Int)) ∧ w.cell? ⟨b, o + i * 4 + 2, none⟩ = some (.int .i64 L[i].2.2.1) ∧ w.cell? ⟨b, o + i * 4 + 3, none⟩ = some (.bool L[i].2.2.2) ∧ L[i].1 < 140737488355328 ∧ L[i].2.1 < 68719476736 := by
  obtain ⟨b, o, cap, hv, h1, h2, -, -, hc, -⟩ := own_cells h.lo (by omega)
  have key : ∀ m v, m < 4 → (pgc L[i])[m]? = some v → w.cell? ⟨b, o + (i * 4 + m), none⟩ = some v := fun m v hm hv => hc _ _ ((flat_get pgc 4 pgc_len L i m hi hm).trans hv)
  have hlt := h.llt _ (List.getElem_mem hi)
  exact ⟨b, o, cap, hv, h1, h2, key 0 _ (by omega) rfl, key 1 _ (by omega) rfl, key 2 _ (by omega) rfl, key 3 _ (by omega) rfl, hlt.1, hlt.2⟩
/-- A table's cells. -/
theorem DM.tab (h : DM w D g pg pb n T lv tv L Tl) {i : Nat} (hi : i < Tl.length) : ∃ b o cap, tv = .slice (some ⟨b, o, none⟩) Tl.length cap ∧ Tl.length ≤ cap ∧ cap ≤ maxLen ∧
    w.cell? ⟨b, o + i * 3, none⟩ = some (.int .u64 (Tl[i].1 : Int)) ∧ w.cell? ⟨b, o + i * 3 + 1, none⟩ = some (.int .i64 (Tl[i].2.1 : Int)) ∧ w.cell? ⟨b, o + i * 3 + 2, none⟩ = some (.int .u64 (Tl[i].2.2 : Int)) ∧ Tl[i].1 < 65536 ∧ 1 ≤ Tl[i].2.1 ∧ Tl[i].2.1 ≤ 4 ∧ Tl[i].2.2 < 281474976710656 := by
  obtain ⟨b, o, cap, hv, h1, h2, -, -, hc, -⟩ := own_cells h.trow (by omega)
  have key : ∀ m v, m < 3 → (tbc Tl[i])[m]? = some v → w.cell? ⟨b, o + (i * 3 + m), none⟩ = some v := fun m v hm hv => hc _ _ ((flat_get tbc 3 tbc_len Tl i m hi hm).trans hv)
  have hlt := h.tlt _ (List.getElem_mem hi)
  exact ⟨b, o, cap, hv, h1, h2, key 0 _ (by omega) rfl, key 1 _ (by omega) rfl, key 2 _ (by omega) rfl, hlt⟩
theorem DM.lens (h : DM w D g pg pb n T lv tv L Tl) : (∃ a cap, lv = .slice a L.length cap ∧ L.length ≤ cap ∧ cap ≤ maxLen) ∧ ∃ a cap, tv = .slice a Tl.length cap ∧ Tl.length ≤ cap ∧ cap ≤ maxLen := ⟨own_lens h.lo, own_lens h.trow⟩
end

/-- A place, or -1. -/
def ixI : Option Nat → Int
  | some i => i
  | none => -1
theorem find_at {α : Type} {l : List α} {p : α → Bool} {i : Nat} (hi : i < l.length) (h0 : ∀ (j : Nat) (hj : j < l.length), j < i → p l[j] = false) (h1 : p l[i] = true) : l.findIdx? p = some i :=
  List.findIdx?_eq_some_iff_getElem.2 ⟨hi, h1, fun j hji => by rw [h0 j (by omega) hji]; simp⟩
theorem find_end {α : Type} {l : List α} {p : α → Bool} (h0 : ∀ (j : Nat) (hj : j < l.length), p l[j] = false) : l.findIdx? p = none :=
  List.findIdx?_eq_none_iff.2 fun x hx => by obtain ⟨j, hj, rfl⟩ := List.getElem_of_mem hx; exact h0 j hj

set_option maxRecDepth 100000 in
set_option maxHeartbeats 1000000 in
theorem rspan_any (l : Nat) (h1 : 1 ≤ l) (h4 : l ≤ 4) (w : World) :
    Calls Tryz.prog 57 #[.int .i64 (l : Int)] w fun e w' => e = .returned (.int .u64 ((EN.sz l : Nat) : Int)) ∧ w = w' := by
  have hsz : ∀ k, k < l → EN.sz (k + 1) = EN.sz k * 512 ∧ EN.sz k ≤ 549755813888 := fun k hk => ⟨EN.sz_succ k, by
    rcases (by omega : k = 0 ∨ k = 1 ∨ k = 2 ∨ k = 3) with rfl | rfl | rfl | rfl <;> decide⟩
  replace hsz := W_hid hsz
  have h0 : Hid (EN.sz 0 = 4096) := W_hid rfl
  go_enter Tryz.func57, Tryz.ntmps57
  go_wp2
  go_loop [3, 4] (fun m i => ∃ (k s : Nat), k ≤ l ∧ i = .int .i64 (k : Int) ∧ m = .int .u64 (s : Int) ∧ Hid (EN.sz k = s)) (fun _ i => l - (intOf i).toNat)
  case atStart => exact ⟨0, 4096, Nat.zero_le _, rfl, rfl, h0⟩
  case round =>
    obtain ⟨k, s, hk, rfl, rfl, hs⟩ := hrel
    by_cases hlt : k < l
    · obtain ⟨e1, e2⟩ := hsz.out k hlt
      rw [hs.out] at e1 e2
      have e3 : (s : Int) ≤ 549755813888 := by omega
      have hnx : Hid (EN.sz (k + 1) = s * 512) := W_hid e1
      clear e1 e2
      go_wp2
      go_round
      case rel => exact ⟨k + 1, s * 512, by omega, by go_num, by go_num, hnx⟩
      case measure => simp [intOf]; omega
    · obtain rfl : k = l := by omega
      clear hsz
      go_wp2
      go_ret
      exact ⟨ret_u64 (by rw [hs.out]), rfl⟩

set_option maxRecDepth 100000 in
set_option maxHeartbeats 1000000 in
theorem rSize_any (va f : Int) (p : Int) (h : Bool) (w : World) :
    Calls Tryz.prog 24 #[.agg #[.int .u64 va, .int .u64 f, .int .i64 p, .bool h]] w fun e w' => e = .returned (.int .u64 ((RX.psz h : Nat) : Int)) ∧ Below w.heap.size w w' := by
  have bel := (Below.refl w.heap.size w).alloc (Nat.le_refl _) (.cells #[.int .u64 va, .int .u64 f, .int .i64 p, .bool h] 38)
  cases h with
  | true =>
    go_enter Tryz.func24, Tryz.ntmps24
    go_wp2
    go_ret
    exact ⟨rfl, bel⟩
  | false =>
    go_enter Tryz.func24, Tryz.ntmps24
    go_wp2
    go_ret
    exact ⟨rfl, bel⟩

set_option maxRecDepth 100000 in
set_option maxHeartbeats 2000000 in
theorem table_any (D : List Nat) (g pg pb n : Nat) (T : Nat → Bool) (lv tv : Value) (L : List RX.Pg) (Tl : List RX.Tb) (w : World) (h : DM w D g pg pb n T lv tv L Tl) (l va : Nat) (h1 : 1 ≤ l) (h4 : l ≤ 4) (hva : va < 18446744073709551616) :
    Calls Tryz.prog 58 #[.pointer (some ⟨g, 0, none⟩), .int .i64 (l : Int), .int .u64 (va : Int)] w fun e w' => e = .returned (.int .i64 (ixI (RX.tabI Tl l va))) ∧ ∃ q, w' = w.drewN q := by
  have hS := W_hid (fun (w : World) (t : Nat) => Calls.quiet_of_same ((rspan_any l h1 h4 (w.drewN t)).mono fun e w' ⟨he, hw⟩ => ⟨he, hw.symm⟩))
  obtain ⟨-, a0, cap0, htv, hc1, hc2⟩ := h.lens
  obtain ⟨S, hSe⟩ : ∃ S, S = EN.sz l := ⟨_, rfl⟩
  rw [← hSe] at hS
  have hSp : 0 < S := by rw [hSe]; exact EN.sz_pos l
  have hSl : S ≤ 281474976710656 := by rw [hSe]; exact EN.sz_le l h4
  have hm1 : va % S ≤ va := Nat.mod_le _ _
  have hmod : (va : Int).tmod (S : Int) = ((va % S : Nat) : Int) := rfl
  have hT : Hid (∀ x : RX.Tb, RX.isT l va x = decide (x.2.1 = l ∧ va - va % S = x.2.2)) := W_hid (fun x => by rw [hSe]; rfl)
  unfold maxLen at hc2
  obtain ⟨m, hm⟩ : ∃ m, va % S = m := ⟨_, rfl⟩
  rw [hm] at hm1 hmod
  replace hT : Hid (∀ x : RX.Tb, RX.isT l va x = decide (x.2.1 = l ∧ va - m = x.2.2)) := W_hid (fun x => by rw [← hm]; exact hT.out x)
  clear hm
  have H := W_hid h
  subst htv
  have hfa := W_hid (fun i hi h0 h1 => @find_at _ Tl (RX.isT l va) i hi h0 h1)
  have hfe := W_hid (fun h0 => @find_end _ Tl (RX.isT l va) h0)
  obtain ⟨N, hN⟩ : ∃ N, Tl.length = N := ⟨_, rfl⟩
  have hN' := W_hid hN
  clear h hSe
  rw [hN] at hc1
  go_enter Tryz.func58, Tryz.ntmps58
  go_wp2
  go_loopw [7] (fun i wr => ∃ k : Nat, k ≤ N ∧ i = .int .i64 (k : Int) ∧ Hid (∀ (j : Nat) (hj : j < Tl.length), j < k → RX.isT l va Tl[j] = false) ∧ Hid (DM wr D g pg pb n T lv (.slice a0 N cap0) L Tl) ∧ Hid (∃ q, wr = w.drewN q)) (fun i _ => N - (intOf i).toNat)
  case atStart => exact ⟨0, by omega, rfl, W_hid (fun j hj h => by omega), by rw [hN] at H; exact H, W_hid ⟨0, rfl⟩⟩
  case round =>
    obtain ⟨k, hk, rfl, hno, hD, hq⟩ := hrel
    have c2 := hD.out.c2
    by_cases hlt : k < N
    · have hk' : k < Tl.length := by rw [hN'.out]; exact hlt
      obtain ⟨b, o, cap, e0, -, -, t0, t1, t2, l0, l1, l2, l3⟩ := hD.out.tab hk'
      rw [hN'.out] at e0
      simp only [Value.slice.injEq] at e0
      obtain ⟨rfl, -, rfl⟩ := e0
      have hx := W_hid (hT.out Tl[k])
      have hfa := W_hid (hfa.out k hk' (fun j hj h => hno.out j hj h))
      have hnx : RX.isT l va Tl[k] = false → Hid (∀ (j : Nat) (hj : j < Tl.length), j < k + 1 → RX.isT l va Tl[j] = false) := fun hf => W_hid (fun j hj h => by
        by_cases e : j = k
        · subst e; exact hf
        · exact hno.out j hj (by omega))
      replace hnx := W_hid hnx
      generalize Tl[k] = x at *
      obtain ⟨f, lev, from_⟩ := x
      simp only at t0 t1 t2 l0 l1 l2 l3 hx
      have hi1 : (k : Int) < N := by omega
      by_cases hl : lev = l
      · have d1 : ((lev : Int) == (l : Int)) = true := by simp [hl]
        by_cases hf : va - m = from_
        · have d2 : ((va : Int) - (m : Int) == (from_ : Int)) = true := by simp; omega
          have hfin : Hid (ixI (RX.tabI Tl l va) = (k : Int)) := W_hid (by unfold RX.tabI; rw [hfa.out (by rw [hx.out]; exact decide_eq_true ⟨hl, hf⟩)]; rfl)
          clear hfa hnx hx hl hf hno
          go_wp2_with fail
          go_quiet ((go_at_call 57; exact hS.out _ _))
          go_wp2_with fail
          go_ret
          refine ⟨ret_i64 hfin.out.symm, ?_⟩
          obtain ⟨q, rfl⟩ := hq.out
          exact ⟨q + nq, World.drewN_drewN _ _ _⟩
        · have d2 : ((va : Int) - (m : Int) == (from_ : Int)) = false := by simp; omega
          have hnx := hnx.out (by rw [hx.out]; exact decide_eq_false (fun h => hf h.2))
          clear hfa hx hl hf hno
          go_wp2_with fail
          go_quiet ((go_at_call 57; exact hS.out _ _))
          have hD2 := W_hid (hD.out.drewN nq)
          have hq2 : Hid (∃ q, wr.drewN nq = w.drewN q) := W_hid (by obtain ⟨q, rfl⟩ := hq.out; exact ⟨q + nq, World.drewN_drewN _ _ _⟩)
          clear hD hq
          go_wp2_with fail
          go_roundw
          case rel => exact ⟨k + 1, by omega, by go_num, hnx, hD2, hq2⟩
          case measure => simp [intOf]; omega
      · have d1 : ((lev : Int) == (l : Int)) = false := by simp; omega
        have hnx := hnx.out (by rw [hx.out]; exact decide_eq_false (fun h => hl h.1))
        clear hfa hx hl hno
        go_wp2_with fail
        go_quiet ((go_at_call 57; exact hS.out _ _))
        have hD2 := W_hid (hD.out.drewN nq)
        have hq2 : Hid (∃ q, wr.drewN nq = w.drewN q) := W_hid (by obtain ⟨q, rfl⟩ := hq.out; exact ⟨q + nq, World.drewN_drewN _ _ _⟩)
        clear hD hq
        go_wp2_with fail
        go_roundw
        case rel => exact ⟨k + 1, by omega, by go_num, hnx, hD2, hq2⟩
        case measure => simp [intOf]; omega
    · obtain rfl : k = N := by omega
      have hfin : Hid (ixI (RX.tabI Tl l va) = -1) := W_hid (by unfold RX.tabI; rw [hfe.out (fun j hj => hno.out j hj (by rw [← hN'.out]; exact hj))]; rfl)
      clear hfa hfe hno
      go_wp2_with fail
      go_ret
      exact ⟨ret_i64 hfin.out.symm, hq.out⟩
end Go.Proofs.YtigbjhmodpplbaaGreatDoor

/- Contracts of the document's own pool: isRun, busy, set, New, Alloc, Free, Left, Taken; of every pool. -/
import Derived.Test.YtpmpmjebhdohcaaFramePool
namespace Go.Proofs.Ytpmpmjebhdohcaa
open Go.ChangeShapes Go.WideShapes Go.ChangeAt Go.RowKit
set_option linter.unusedVariables false
set_option linter.unusedSimpArgs false

set_option maxHeartbeats 400000 in
theorem isRun_yes (q : Nat) (hq : FM.Run q) (w : World) : Calls Try.prog 25 #[.int .i64 q] w fun e w' => e = .returned (.bool true) ∧ w = w' := by
  have hq2 := (FM.run_le hq).2
  obtain ⟨j, hj, hqj⟩ := hq
  replace hqj := W_hid hqj
  go_enter Try.func25, Try.ntmps25
  go_wp2
  go_loop [3] (fun i => ∃ P : Nat, 1 ≤ P ∧ P ≤ 512 ∧ i = .int .i64 P ∧ Hid (∃ t, t ≤ j ∧ P = 2 ^ t)) (fun i => 1024 - (intOf i).toNat)
  case atStart => exact ⟨1, by omega, by omega, rfl, 0, by omega, rfl⟩
  case round =>
    obtain ⟨P, h1, h2, rfl, hP⟩ := hrel
    have i1 : (P : Int) ≤ 512 := by omega
    by_cases he : P = q
    · have d1 : ((P : Int) == (q : Int)) = true := by simp; omega
      clear he
      go_wp2
      go_ret
      exact ⟨rfl, rfl⟩
    · have d1 : ((P : Int) == (q : Int)) = false := by simp; omega
      have hn : Hid (2 * P ≤ 512 ∧ ∃ t, t ≤ j ∧ 2 * P = 2 ^ t) := by
        obtain ⟨t, ht, e⟩ := hP.out
        have htj : t < j := by
          rcases Nat.lt_or_ge t j with hlt | hge
          · exact hlt
          · exact absurd (by rw [e, hqj.out, show t = j by omega]) he
        have e2 : 2 * P = 2 ^ (t + 1) := by rw [e, Nat.pow_succ, Nat.mul_comm]
        refine ⟨?_, t + 1, htj, e2⟩
        rw [e2]
        exact Nat.pow_le_pow_right (show 0 < 2 by decide) (show t + 1 ≤ 9 by omega)
      clear he
      go_wp2
      go_round
      case rel => exact ⟨2 * P, by omega, hn.out.1, by go_num, hn.out.2⟩
      case measure => simp [intOf]; omega

set_option maxHeartbeats 400000 in
theorem isRun_no (k : Int) (hk : ¬ FM.RunI k) (w : World) : Calls Try.prog 25 #[.int .i64 k] w fun e w' => e = .returned (.bool false) ∧ w = w' := by
  replace hk := W_hid hk
  go_enter Try.func25, Try.ntmps25
  go_wp2
  go_loop [3] (fun i => ∃ P : Nat, 1 ≤ P ∧ P ≤ 1024 ∧ i = .int .i64 P ∧ Hid (P = 1024 ∨ FM.Run P)) (fun i => 2048 - (intOf i).toNat)
  case atStart => exact ⟨1, by omega, by omega, rfl, .inr ⟨0, by omega, rfl⟩⟩
  case round =>
    obtain ⟨P, h1, h2, rfl, hP⟩ := hrel
    by_cases hle : P ≤ 512
    · have hr : FM.Run P := hP.out.resolve_left (by omega)
      have d1 : ((P : Int) == k) = false := by
        simp
        intro e
        exact hk.out ⟨P, e.symm, hr⟩
      have hn : Hid (2 * P = 1024 ∨ FM.Run (2 * P)) := by
        have := FM.run_ten hr
        by_cases h5 : P = 512
        · exact .inl (by omega)
        · exact .inr (FM.ten_run (by omega))
      clear hr
      go_wp2
      go_round
      case rel => exact ⟨2 * P, by omega, by omega, by go_num, hn⟩
      case measure => simp [intOf]; omega
    · go_wp2
      go_ret
      exact ⟨rfl, rfl⟩

theorem RL.c0 {w : World} {g b n : Nat} {T : Nat → Bool} (h : RL w g b n T) : w.cell? ⟨g, 0, none⟩ = some (.slice (some ⟨b, 0, none⟩) n n) := h.box.cell rfl

set_option maxHeartbeats 400000 in
theorem busy_any (g b n f k : Nat) (T : Nat → Bool) (w : World) (h : RL w g b n T) (hf : f + k ≤ n) :
    Calls Try.prog 26 #[.pointer (some ⟨g, 0, none⟩), .int .i64 f, .int .i64 k] w fun e w' => e = .returned (.int .i64 ((FM.cnt T f k : Nat) : Int)) ∧ w = w' := by
  have c0 := h.c0
  have hn := h.n2
  have H := W_hid h
  clear h
  go_enter Try.func26, Try.ntmps26
  go_wp2
  go_loop [7, 8] (fun c i => ∃ t : Nat, t ≤ k ∧ i = .int .i64 ((f : Int) + t) ∧ c = .int .i64 ((FM.cnt T f t : Nat) : Int)) (fun _ i => f + k - (intOf i).toNat)
  case atStart => exact ⟨0, by omega, by simp, rfl⟩
  case round =>
    obtain ⟨t, ht, rfl, rfl⟩ := hrel
    have hl := FM.cnt_le T f t
    by_cases hlt : t < k
    · have hcell : w.cell? ⟨b, f + t, none⟩ = some (.bool (T (f + t))) := H.out.row.cell (brow_get T n (f + t) (by omega))
      have hto : ((f : Int) + t).toNat = f + t := by omega
      have hidx : (f : Int) + t < n := by omega
      have hs : Hid (FM.cnt T f (t + 1) = FM.cnt T f t + (T (f + t)).toNat) := rfl
      have hi1 : (f : Int) + t + 1 = (f : Int) + ((t + 1 : Nat) : Int) := by omega
      cases hT : T (f + t)
      · rw [hT] at hcell hs
        go_wp2
        go_round
        case rel => exact ⟨t + 1, by omega, by go_num, by rw [hs.out]; rfl⟩
        case measure => simp [intOf]; omega
      · rw [hT] at hcell hs
        go_wp2
        go_round
        case rel => exact ⟨t + 1, by omega, by go_num, by rw [hs.out]; go_num⟩
        case measure => simp [intOf]; omega
    · obtain rfl : t = k := by omega
      go_wp2
      go_ret
      exact ⟨rfl, rfl⟩

set_option maxHeartbeats 400000 in
theorem rset_any (g b n f k : Nat) (T : Nat → Bool) (h : Bool) (w : World) (hp : RL w g b n T) (hf : f + k ≤ n) :
    Calls Try.prog 27 #[.pointer (some ⟨g, 0, none⟩), .int .i64 f, .int .i64 k, .bool h] w fun e w' => e = .returned (.tuple #[]) ∧ RL w' g b n (FM.st T f k h) ∧ Two b b w w' := by
  have hn := hp.n2
  go_enter Try.func27, Try.ntmps27
  go_wp2
  go_loopw [8] (fun i wr => ∃ t : Nat, t ≤ k ∧ i = .int .i64 ((f : Int) + t) ∧ RL wr g b n (FM.st T f t h) ∧ Two b b w wr) (fun i _ => f + k - (intOf i).toNat)
  case atStart => exact ⟨0, by omega, by simp, by rw [FM.st_zero]; exact hp, Two.refl _ _ _⟩
  case round =>
    obtain ⟨t, ht, rfl, hr, two⟩ := hrel
    by_cases hlt : t < k
    · have c0 := hr.c0
      have hcell : wr.cell? ⟨b, f + t, none⟩ = some (.bool (FM.st T f t h (f + t))) := hr.row.cell (brow_get _ n (f + t) (by omega))
      have hfz := hr.row.fz
      have hto : ((f : Int) + t).toNat = f + t := by omega
      have hidx : (f : Int) + t < n := by omega
      have hset := hr.row.set (f + t) (.bool h)
      rw [brow_set _ _ _ _ (by omega), FM.st_step] at hset
      have hbox := hr.box.far (p := ⟨b, f + t, none⟩) hr.ne (.bool h)
      have two2 := two.setCell (p := ⟨b, f + t, none⟩) (.inl rfl) (.bool h)
      have hr2 : RL (wr.setCell ⟨b, f + t, none⟩ (.bool h)) g b n (FM.st T f (t + 1) h) := ⟨hbox, hset, hr.ne, hr.n1, hr.n2⟩
      clear hset hbox
      go_wp2
      go_roundw
      case rel => exact ⟨t + 1, by omega, by go_num, hr2, two2⟩
      case measure => simp [intOf]; omega
    · obtain rfl : t = k := by omega
      go_wp2
      go_end0
      exact ⟨rfl, hr, two⟩

set_option maxHeartbeats 400000 in
theorem rNew_yes (n : Nat) (h1 : 1 ≤ n) (h2 : n ≤ 65536) (w : World) :
    Calls Try.prog 10 #[.int .i64 n] w fun e w' => e = .returned (.tuple #[.pointer (some ⟨w.heap.size + 1, 0, none⟩), .int .i64 0]) ∧ RL w' (w.heap.size + 1) w.heap.size n (fresh n) ∧ Below w.heap.size w w' := by
  have i1 : (1 : Int) ≤ n := by omega
  have i2 : (n : Int) ≤ 65536 := by omega
  obtain ⟨X, hmk, hX⟩ := make_bools n h2
  have hx := hX w
  rw [brow_congr _ (fresh n) n (fun x hx => (fresh_low n x hx).symm)] at hx
  clear hX
  go_enter Try.func10, Try.ntmps10
  go_wp2
  go_ret2
  have e1 : (w.alloc X).heap.size = w.heap.size + 1 := by simp
  refine ⟨by simp [e1], ⟨Blk.new (w.alloc X) _ [.slice (some ⟨w.heap.size, 0, none⟩) n n] e1.symm, hx.alloc _, by omega, h1, h2⟩, ((Below.refl _ _).alloc (Nat.le_refl _) _).alloc (by simp) _⟩

set_option maxHeartbeats 400000 in
theorem rNew_no (n : Int) (h : ¬ (1 ≤ n ∧ n ≤ 65536)) (w : World) :
    Calls Try.prog 10 #[.int .i64 n] w fun e w' => e = .returned (.tuple #[.pointer none, .int .i64 2]) ∧ w = w' := by
  by_cases h1 : n < 1
  · have d1 : decide (n < 1) = true := by simpa using h1
    clear h h1
    go_enter Try.func10, Try.ntmps10
    go_wp2
    go_ret2
    exact ⟨rfl, rfl⟩
  · have d1 : decide (n < 1) = false := by simp; omega
    have d2 : decide (65536 < n) = true := by simp; omega
    clear h h1
    go_enter Try.func10, Try.ntmps10
    go_wp2
    go_ret2
    exact ⟨rfl, rfl⟩

theorem ans_gets {T T' : Nat → Bool} {n a e : Nat} {q : Nat} (hq : FM.Run q) (h : FM.Gets T n (q : Int) a e T') :
    ∃ yes, FM.Ans T n q a yes ∧ ((yes = true ∧ e = 0 ∧ T' = FM.st T a q true) ∨ (yes = false ∧ e = 24 ∧ T' = T)) := by
  rcases h with ⟨-, -, -, hk⟩ | ⟨rfl, rfl, rfl, q', hq', -, hno⟩ | ⟨rfl, q', hq', -, hlow, rfl⟩
  · exact absurd ⟨q, rfl, hq⟩ hk
  · obtain rfl : q = q' := by omega
    exact ⟨false, .inr ⟨rfl, rfl, hno⟩, .inr ⟨rfl, rfl, rfl⟩⟩
  · obtain rfl : q = q' := by omega
    exact ⟨true, .inl ⟨rfl, hlow⟩, .inl ⟨rfl, rfl, rfl⟩⟩

set_option maxHeartbeats 1000000 in
theorem rAlloc_any (g b n : Nat) (T T' : Nat → Bool) (k : Int) (a e : Nat) (w : World) (h : RL w g b n T) (hs : FM.Gets T n k a e T') :
    Calls Try.prog 14 #[.pointer (some ⟨g, 0, none⟩), .int .i64 k] w fun r w' => r = .returned (.tuple #[.int .u64 a, .int .i64 e]) ∧ RL w' g b n T' ∧ Two g b w w' := by
  by_cases hk : FM.RunI k
  · obtain ⟨q, rfl, hq⟩ := hk
    obtain ⟨yes, hans, hyes⟩ := ans_gets hq hs
    have hL := W_hid (isRun_yes q hq)
    obtain ⟨q1, q2⟩ := FM.run_le hq
    have c0 := h.c0
    have hn := h.n2
    obtain ⟨S, G, -, -, -, -, -, -, -, -, -, -, -, -, hu⟩ := FM.run_step hq
    replace hu := W_hid hu
    replace hans := W_hid hans
    replace hyes := W_hid hyes
    have H := W_hid h
    clear hs hq h
    go_enter Try.func14, Try.ntmps14
    go_wp2_with fail
    refine (hL.out _).mono ?_
    rintro e w' ⟨rfl, rfl⟩
    go_wp2_with fail
    go_loop [7, 8] (fun i _ => ∃ F : Nat, F ≤ n + 1024 ∧ i = .int .i64 F ∧ Hid (F % q = 0) ∧ Hid (FM.Non T q F)) (fun i _ => n + 2048 - (intOf i).toNat)
    case atStart => exact ⟨0, by omega, rfl, Nat.zero_mod _, fun f hf => by omega⟩
    case round =>
      obtain ⟨F, hF, rfl, hFq, hnon⟩ := hrel
      by_cases hle : F + q ≤ n
      · have d0 : (F : Int) + q ≤ n := by omega
        have hB := W_hid (busy_any g b n F q T w H.out hle)
        by_cases hc : FM.cnt T F q = 0
        · obtain ⟨hy, ha⟩ := hans.out.found hFq.out hle ((FM.cnt_zero _ _ _).1 hc) hnon.out
          have hr : Hid (a = F ∧ e = 0 ∧ T' = FM.st T F q true) := by
            rcases hyes.out with ⟨-, e1, e2⟩ | ⟨e0, -, -⟩
            · exact ⟨ha, e1, by rw [e2, ha]⟩
            · rw [e0] at hy; cases hy
          have hS := W_hid (rset_any g b n F q T true w H.out hle)
          have d1 : (((FM.cnt T F q : Nat) : Int) == 0) = true := by rw [hc]; rfl
          clear hc hy ha
          go_wp2_with fail
          refine hB.out.mono ?_
          rintro r1 w' ⟨rfl, rfl⟩
          go_wp2_with fail
          refine hS.out.mono ?_
          rintro r1 w2 ⟨rfl, hr2, two⟩
          go_wp2
          go_ret2
          obtain ⟨e1, e2, e3⟩ := hr.out
          exact ⟨by rw [e1, e2]; rfl, by rw [e3]; exact hr2, two.wide⟩
        · have hnext : Hid (FM.Non T q (F + q)) := hnon.out.step hu.out hFq.out (fun h => hc ((FM.cnt_zero _ _ _).2 h))
          have hmod : Hid ((F + q) % q = 0) := by show _ = _; rw [Nat.add_mod_right]; exact hFq.out
          have d1 : (((FM.cnt T F q : Nat) : Int) == 0) = false := by simp; omega
          clear hc
          go_wp2_with fail
          refine hB.out.mono ?_
          rintro r1 w' ⟨rfl, rfl⟩
          go_wp2
          go_round
          case rel => exact ⟨F + q, by omega, by go_num, hmod, hnext⟩
          case measure => simp [intOf]; omega
      · obtain ⟨hy, ha⟩ : yes = false ∧ a = 0 := by
          rcases hans.out with ⟨-, hl⟩ | ⟨hy, ha, -⟩
          · exact absurd hl.2.2.1 (hnon.out a (by have := hl.2.1; omega) hl.1)
          · exact ⟨hy, ha⟩
        have hr : Hid (a = 0 ∧ e = 24 ∧ T' = T) := by
          rcases hyes.out with ⟨e0, -, -⟩ | ⟨-, e1, e2⟩
          · rw [e0] at hy; cases hy
          · exact ⟨ha, e1, e2⟩
        have d0 : decide ((F : Int) + q ≤ n) = false := by simp; omega
        clear hy ha hle
        go_wp2
        go_ret2
        obtain ⟨e1, e2, e3⟩ := hr.out
        exact ⟨by rw [e1, e2]; rfl, by rw [e3]; exact H.out, Two.refl _ _ _⟩
  · obtain ⟨rfl, rfl, rfl⟩ : e = 2 ∧ a = 0 ∧ T' = T := by
      rcases hs with ⟨h1, h2, h3, -⟩ | ⟨-, -, -, q, hq, hr, -⟩ | ⟨-, q, hq, hr, -⟩
      · exact ⟨h1, h2, h3⟩
      · exact absurd ⟨q, hq, hr⟩ hk
      · exact absurd ⟨q, hq, hr⟩ hk
    have hL := W_hid (isRun_no k hk)
    clear hk hs
    go_enter Try.func14, Try.ntmps14
    go_wp2_with fail
    refine (hL.out _).mono ?_
    rintro e w' ⟨rfl, rfl⟩
    go_wp2
    go_ret2
    exact ⟨rfl, h, Two.refl _ _ _⟩

set_option maxHeartbeats 1000000 in
theorem rFree_any (g b n f : Nat) (T T' : Nat → Bool) (k : Int) (e : Nat) (w : World) (h : RL w g b n T) (hf : f < 18446744073709551616) (hs : FM.Puts T n f k e T') :
    Calls Try.prog 12 #[.pointer (some ⟨g, 0, none⟩), .int .u64 f, .int .i64 k] w fun r w' => r = .returned (.int .i64 e) ∧ RL w' g b n T' ∧ Two g b w w' := by
  by_cases hk : FM.RunI k
  · obtain ⟨q, rfl, hq⟩ := hk
    have hL := W_hid (isRun_yes q hq)
    obtain ⟨q1, q2⟩ := FM.run_le hq
    have c0 := h.c0
    have hn := h.n2
    have H := W_hid h
    by_cases hin : f % q = 0 ∧ f + q ≤ n
    · obtain ⟨h1, h2⟩ := hin
      have d1 : decide (n ≤ f) = false := by simp; omega
      have d2 : ((f : Int) % (q : Int)) = 0 := by rw [← Int.natCast_emod, h1]; rfl
      have d3 : decide ((n : Int) < (f : Int) + q) = false := by simp; omega
      have hf2 : f ≤ 65536 := by omega
      have hB := W_hid (busy_any g b n f q T w h h2)
      by_cases hall : FM.All T f q true
      · have hr : Hid (e = 0 ∧ T' = FM.st T f q false) := by
          rcases hs with ⟨-, -, hk⟩ | ⟨-, -, q', hq', -, hno⟩ | ⟨-, -, q', hq', -, -, -, hno⟩ | ⟨e0, q', hq', -, -, -, -, e1⟩
          · exact absurd ⟨q, rfl, hq⟩ hk
          · obtain rfl : q = q' := by omega
            exact absurd ⟨h1, h2⟩ hno
          · obtain rfl : q = q' := by omega
            exact absurd hall hno
          · obtain rfl : q = q' := by omega
            exact ⟨e0, e1⟩
        have d4 : (((FM.cnt T f q : Nat) : Int) != (q : Int)) = false := by rw [(FM.cnt_full T f q).2 hall]; simp
        have hS := W_hid (rset_any g b n f q T false w h h2)
        clear hs hq h hall h1
        go_enter Try.func12, Try.ntmps12
        go_wp2_with fail
        refine (hL.out _).mono ?_
        rintro r w' ⟨rfl, rfl⟩
        go_wp2_with fail
        refine hB.out.mono ?_
        rintro r w' ⟨rfl, rfl⟩
        go_wp2_with fail
        refine hS.out.mono ?_
        rintro r w2 ⟨rfl, hr2, two⟩
        go_wp2
        go_ret
        obtain ⟨e1, e2⟩ := hr.out
        exact ⟨by rw [e1]; rfl, by rw [e2]; exact hr2, two.wide⟩
      · have hr : Hid (e = 101 ∧ T' = T) := by
          rcases hs with ⟨-, -, hk⟩ | ⟨-, -, q', hq', -, hno⟩ | ⟨e0, e1, -⟩ | ⟨-, q', hq', -, -, -, hal, -⟩
          · exact absurd ⟨q, rfl, hq⟩ hk
          · obtain rfl : q = q' := by omega
            exact absurd ⟨h1, h2⟩ hno
          · exact ⟨e0, e1⟩
          · obtain rfl : q = q' := by omega
            exact absurd hal hall
        have d4 : (((FM.cnt T f q : Nat) : Int) != (q : Int)) = true := by
          have : FM.cnt T f q ≠ q := fun h => hall ((FM.cnt_full T f q).1 h)
          simp; omega
        clear hs hq h hall h1
        go_enter Try.func12, Try.ntmps12
        go_wp2_with fail
        refine (hL.out _).mono ?_
        rintro r w' ⟨rfl, rfl⟩
        go_wp2_with fail
        refine hB.out.mono ?_
        rintro r w' ⟨rfl, rfl⟩
        go_wp2
        go_ret
        obtain ⟨e1, e2⟩ := hr.out
        exact ⟨by rw [e1]; rfl, by rw [e2]; exact H.out, Two.refl _ _ _⟩
    · have hr : Hid (e = 2 ∧ T' = T) := by
        rcases hs with ⟨-, -, hk⟩ | ⟨e0, e1, -⟩ | ⟨-, -, q', hq', -, h1, h2, -⟩ | ⟨-, q', hq', -, h1, h2, -, -⟩
        · exact absurd ⟨q, rfl, hq⟩ hk
        · exact ⟨e0, e1⟩
        · obtain rfl : q = q' := by omega
          exact absurd ⟨h1, h2⟩ hin
        · obtain rfl : q = q' := by omega
          exact absurd ⟨h1, h2⟩ hin
      by_cases hlt : f < n
      · have d1 : decide (n ≤ f) = false := by simp; omega
        have hf2 : f ≤ 65536 := by omega
        by_cases hm : f % q = 0
        · have d2 : ((f : Int) % (q : Int)) = 0 := by rw [← Int.natCast_emod, hm]; rfl
          have d3 : decide ((n : Int) < (f : Int) + q) = true := by simp; omega
          clear hs hq h hin hlt hm
          go_enter Try.func12, Try.ntmps12
          go_wp2_with fail
          refine (hL.out _).mono ?_
          rintro r w' ⟨rfl, rfl⟩
          go_wp2
          go_ret
          obtain ⟨e1, e2⟩ := hr.out
          exact ⟨by rw [e1]; rfl, by rw [e2]; exact H.out, Two.refl _ _ _⟩
        · obtain ⟨z, hz⟩ : ∃ z, f % q = z := ⟨_, rfl⟩
          have d2 : ((f : Int) % (q : Int)) = z := by rw [← Int.natCast_emod, hz]
          have d3 : ((z : Int) != 0) = true := by simp; omega
          clear hs hq h hin hlt hm hz
          go_enter Try.func12, Try.ntmps12
          go_wp2_with fail
          refine (hL.out _).mono ?_
          rintro r w' ⟨rfl, rfl⟩
          go_wp2
          go_ret
          obtain ⟨e1, e2⟩ := hr.out
          exact ⟨by rw [e1]; rfl, by rw [e2]; exact H.out, Two.refl _ _ _⟩
      · have d1 : decide (n ≤ f) = true := by simp; omega
        clear hs hq h hin hlt
        go_enter Try.func12, Try.ntmps12
        go_wp2_with fail
        refine (hL.out _).mono ?_
        rintro r w' ⟨rfl, rfl⟩
        go_wp2
        go_ret
        obtain ⟨e1, e2⟩ := hr.out
        exact ⟨by rw [e1]; rfl, by rw [e2]; exact H.out, Two.refl _ _ _⟩
  · obtain ⟨rfl, rfl⟩ : e = 2 ∧ T' = T := by
      rcases hs with ⟨h1, h2, -⟩ | ⟨h1, h2, -⟩ | ⟨-, -, q, hq, hr, -⟩ | ⟨-, q, hq, hr, -⟩
      · exact ⟨h1, h2⟩
      · exact ⟨h1, h2⟩
      · exact absurd ⟨q, hq, hr⟩ hk
      · exact absurd ⟨q, hq, hr⟩ hk
    have hL := W_hid (isRun_no k hk)
    clear hk hs
    go_enter Try.func12, Try.ntmps12
    go_wp2_with fail
    refine (hL.out _).mono ?_
    rintro r w' ⟨rfl, rfl⟩
    go_wp2
    go_ret
    exact ⟨rfl, h, Two.refl _ _ _⟩

theorem RL.drewN {w : World} {g b n : Nat} {T : Nat → Bool} (h : RL w g b n T) (t : Nat) : RL (w.drewN t) g b n T := ⟨h.box, h.row, h.ne, h.n1, h.n2⟩
theorem PL.drewN {w : World} {g b n m : Nat} {T : Nat → Bool} (h : PL w g b n m T) (t : Nat) : PL (w.drewN t) g b n m T := ⟨h.box, h.row, h.ne, h.n1, h.n2, h.nm, h.m8, h.m2, h.pad⟩

set_option maxHeartbeats 1000000 in
theorem rLeft_any (g b n : Nat) (T : Nat → Bool) (w : World) (h : RL w g b n T) :
    Calls Try.prog 16 #[.pointer (some ⟨g, 0, none⟩)] w fun e w' => e = .returned (.int .i64 ((n - FM.cnt T 0 n : Nat) : Int)) ∧ ∃ q, w' = w.drewN q := by
  have c0 := h.c0
  have hB := W_hid (fun t => Calls.quiet_of_same ((busy_any g b n 0 n T (w.drewN t) (h.drewN t) (by omega)).mono fun e w' ⟨he, hw⟩ => ⟨he, hw.symm⟩))
  have hle := FM.cnt_le T 0 n
  have hn := h.n2
  have e1 : (n : Int) - ((FM.cnt T 0 n : Nat) : Int) = ((n - FM.cnt T 0 n : Nat) : Int) := by omega
  clear h
  go_enter Try.func16, Try.ntmps16
  go_wp2_with fail
  go_quiet ((go_at_call 26; exact hB.out _))
  go_wp2
  go_ret
  exact ⟨rfl, _, rfl⟩

set_option maxHeartbeats 1000000 in
theorem rTaken_any (g b n f : Nat) (T : Nat → Bool) (res : Bool) (w : World) (h : RL w g b n T) (hf : f < 18446744073709551616) (hres : res = (decide (f < n) && T f)) :
    Calls Try.prog 18 #[.pointer (some ⟨g, 0, none⟩), .int .u64 f] w fun e w' => e = .returned (.bool res) ∧ w = w' := by
  have c0 := h.c0
  have hn := h.n2
  by_cases hlt : f < n
  · have hcell : w.cell? ⟨b, f, none⟩ = some (.bool (T f)) := h.row.cell (brow_get T n f hlt)
    have hr : Hid (res = T f) := by rw [hres, decide_eq_true hlt, Bool.true_and]; exact rfl
    clear h hres
    go_enter Try.func18, Try.ntmps18
    go_wp2
    go_ret
    exact ⟨by rw [hr.out]; rfl, rfl⟩
  · have d1 : decide (f < n) = false := by simpa using hlt
    have hr : Hid (res = false) := by rw [hres, d1]; rfl
    clear h hres hlt
    go_enter Try.func18, Try.ntmps18
    go_wp2
    go_ret
    exact ⟨by rw [hr.out]; rfl, rfl⟩

end Go.Proofs.Ytpmpmjebhdohcaa

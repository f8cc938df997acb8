/- Contracts of package frame's calls: Left, Taken, Alloc, Free; of every pool, and of a nil one. -/
import Derived.Test.YthiojnbnhagcgaaDoorFramePool
namespace Go.Proofs.YthiojnbnhagcgaaDoor
open Go.ChangeShapes Go.WideShapes Go.ChangeAt Go.RowKit
set_option linter.unusedVariables false
set_option linter.unusedSimpArgs false

set_option maxRecDepth 100000 in
set_option maxHeartbeats 400000 in
theorem Alloc_nil (k : Int) (w : World) : Calls Tryd.prog 16 #[.pointer none, .int .i64 k] w fun e w' => e = .returned (.tuple #[.int .u64 0, .int .i64 1]) ∧ w = w' := by
  go_enter Tryd.func16, Tryd.ntmps16
  go_wp2_with fail
  refine (none_nil _).mono ?_
  rintro e w' ⟨rfl, rfl⟩
  go_wp2
  go_ret2
  exact ⟨rfl, rfl⟩
set_option maxRecDepth 100000 in
set_option maxHeartbeats 400000 in
theorem Free_nil (f k : Int) (w : World) : Calls Tryd.prog 51 #[.pointer none, .int .u64 f, .int .i64 k] w fun e w' => e = .returned (.int .i64 1) ∧ w = w' := by
  go_enter Tryd.func51, Tryd.ntmps51
  go_wp2_with fail
  refine (none_nil _).mono ?_
  rintro e w' ⟨rfl, rfl⟩
  go_wp2
  go_ret
  exact ⟨rfl, rfl⟩

set_option maxRecDepth 100000 in
set_option maxHeartbeats 1000000 in
theorem Alloc_any (g b n m : Nat) (T T' : Nat → Bool) (k : Int) (a e : Nat) (w : World) (h : PL w g b n m T) (hs : FR.Gets T n k a e T') :
    Calls Tryd.prog 16 #[.pointer (some ⟨g, 0, none⟩), .int .i64 k] w fun r w' => r = .returned (.tuple #[.int .u64 a, .int .i64 e]) ∧ PL w' g b n m T' ∧ Two g b w w' := by
  have hN := W_hid (none_pool g b n m T w h)
  rcases hs with ⟨rfl, rfl, rfl, hk⟩ | ⟨rfl, rfl, rfl, q, rfl, hq, hno⟩ | ⟨rfl, q, rfl, hq, hlow, rfl⟩
  · have hL := W_hid (length_no k hk)
    clear hk
    go_enter Tryd.func16, Tryd.ntmps16
    go_wp2_with fail
    refine hN.out.mono ?_
    rintro e w' ⟨rfl, rfl⟩
    go_wp2_with fail
    refine (hL.out _).mono ?_
    rintro e w' ⟨rfl, rfl⟩
    go_wp2
    go_ret2
    exact ⟨rfl, h, Two.refl _ _ _⟩
  · have hL := W_hid (length_yes q hq)
    obtain ⟨lf, hlf, c0, c1, c2, fz⟩ := h.gives
    have hLow := W_hid (lowest_any b m q 0 T' false w h.row h.m2 h.m8 hq (.inr ⟨rfl, rfl, hno.wide (FR.run_le hq).1 h.pad⟩))
    have H := W_hid h
    clear hno hq hlf h
    go_enter Tryd.func16, Tryd.ntmps16
    go_wp2_with fail
    refine hN.out.mono ?_
    rintro e w' ⟨rfl, rfl⟩
    go_wp2_with fail
    refine (hL.out _).mono ?_
    rintro e w' ⟨rfl, rfl⟩
    go_wp2_with fail
    refine hLow.out.mono ?_
    rintro e w2 ⟨rfl, bel⟩
    go_wp2
    go_ret2
    exact ⟨rfl, H.out.keep bel, Two.of bel⟩
  · have hL := W_hid (length_yes q hq)
    obtain ⟨lf, hlf, hbox⟩ := h.box
    have c0 := hbox.cell (j := 0) rfl
    have hLow := W_hid (lowest_any b m q a T true w h.row h.m2 h.m8 hq (.inl ⟨rfl, hlow.wide h.nm⟩))
    have hpad := (FR.Gets.pad (m := 64 * m) (.inr (.inr ⟨rfl, q, rfl, hq, hlow, rfl⟩)) h.pad : ∀ x, n ≤ x → x < 64 * m → FR.st T a q true x = true)
    have hS := W_hid (fun w' (hr : Blk w' b 22 (wrow T m)) => set_any b m a q T true 18446744073709551615 w' rfl hr h.m2 hq hlow.1 (by have := hlow.2.1; have := h.nm; omega))
    have hcnt := FR.cnt_st T n a q true hlow.2.1
    rw [(FR.cnt_zero T a q).2 hlow.2.2.1, if_pos rfl] at hcnt
    have hcl := FR.cnt_le (FR.st T a q true) 0 n
    have hlq : q ≤ lf := by omega
    have ha : a ≤ 65536 := by have := hlow.2.1; have := h.n2; omega
    have hlf2 : lf ≤ 65536 := by have := h.n2; omega
    have hnew : lf - q + FR.cnt (FR.st T a q true) 0 n = n := by omega
    replace hnew := W_hid hnew
    replace hpad := W_hid hpad
    have H := W_hid h
    clear hlow hq hlf h hcnt hcl
    go_enter Tryd.func16, Tryd.ntmps16
    go_wp2_with fail
    refine hN.out.mono ?_
    rintro e w' ⟨rfl, rfl⟩
    go_wp2_with fail
    refine (hL.out _).mono ?_
    rintro e w' ⟨rfl, rfl⟩
    go_wp2_with fail
    refine hLow.out.mono ?_
    rintro e w2 ⟨rfl, bel⟩
    have c02 := (hbox.keep bel).cell (j := 0) rfl
    go_wp2_with fail
    refine (hS.out _ (H.out.row.keep bel)).mono ?_
    rintro e w3 ⟨rfl, hrw3, two3⟩
    have hbox3 := (hbox.keep bel).two two3 H.out.ne H.out.ne
    have c23 := hbox3.cell (j := 2) rfl
    have fz3 := hbox3.fz
    have hbox4 := hbox3.set 2 (.int .i64 ((lf : Int) - q))
    have hrw4 := hrw3.far (p := ⟨g, 2, none⟩) (fun e => H.out.ne e.symm) (.int .i64 ((lf : Int) - q))
    have two4 := (((Two.of (g := g) (b := b) bel).trans two3.wide)).setCell (p := ⟨g, 2, none⟩) (.inl rfl) (.int .i64 ((lf : Int) - q))
    go_wp2
    go_ret2
    have e1 : (lf : Int) - q = ((lf - q : Nat) : Int) := by omega
    refine ⟨rfl, ⟨⟨lf - q, hnew.out, ?_⟩, hrw4, H.out.ne, H.out.n1, H.out.n2, H.out.nm, H.out.m8, H.out.m2, hpad.out⟩, two4⟩
    rw [← e1]
    exact hbox4

set_option maxRecDepth 100000 in
set_option maxHeartbeats 1000000 in
theorem Free_any (g b n m f : Nat) (T T' : Nat → Bool) (k : Int) (e : Nat) (w : World) (h : PL w g b n m T) (hf : f < 18446744073709551616) (hs : FR.Puts T n f k e T') :
    Calls Tryd.prog 51 #[.pointer (some ⟨g, 0, none⟩), .int .u64 f, .int .i64 k] w fun r w' => r = .returned (.int .i64 e) ∧ PL w' g b n m T' ∧ Two g b w w' := by
  have hN := W_hid (none_pool g b n m T w h)
  rcases hs with ⟨rfl, rfl, hk⟩ | ⟨rfl, rfl, q, rfl, hq, hno⟩ | ⟨rfl, rfl, q, rfl, hq, h1, h2, hno⟩ | ⟨rfl, q, rfl, hq, h1, h2, hall, rfl⟩
  · have hL := W_hid (length_no k hk)
    clear hk
    go_enter Tryd.func51, Tryd.ntmps51
    go_wp2_with fail
    refine hN.out.mono ?_
    rintro e w' ⟨rfl, rfl⟩
    go_wp2_with fail
    refine (hL.out _).mono ?_
    rintro e w' ⟨rfl, rfl⟩
    go_wp2
    go_ret
    exact ⟨rfl, h, Two.refl _ _ _⟩
  · have hL := W_hid (length_yes q hq)
    have hH := W_hid (holds_any g b n m f q T' false w h hf hq ⟨fun e => absurd e (by decide), fun e => absurd e hno⟩)
    clear hno hq
    go_enter Tryd.func51, Tryd.ntmps51
    go_wp2_with fail
    refine hN.out.mono ?_
    rintro e w' ⟨rfl, rfl⟩
    go_wp2_with fail
    refine (hL.out _).mono ?_
    rintro e w' ⟨rfl, rfl⟩
    go_wp2_with fail
    refine hH.out.mono ?_
    rintro e w' ⟨rfl, rfl⟩
    go_wp2
    go_ret
    exact ⟨rfl, h, Two.refl _ _ _⟩
  · have hL := W_hid (length_yes q hq)
    have hH := W_hid (holds_any g b n m f q T' true w h hf hq ⟨fun _ => ⟨h1, h2⟩, fun _ => rfl⟩)
    have hA := W_hid (are_any b m f q T' true false 18446744073709551615 w rfl h.row h.m2 hq h1 (by have := h.nm; omega) ⟨fun e => absurd e (by decide), fun e => absurd e hno⟩)
    obtain ⟨lf, hlf, hbox⟩ := h.box
    have c0 := hbox.cell (j := 0) rfl
    have hf2 : f ≤ 65536 := by have := h.n2; omega
    have H := W_hid h
    clear hno hq hlf h
    go_enter Tryd.func51, Tryd.ntmps51
    go_wp2_with fail
    refine hN.out.mono ?_
    rintro e w' ⟨rfl, rfl⟩
    go_wp2_with fail
    refine (hL.out _).mono ?_
    rintro e w' ⟨rfl, rfl⟩
    go_wp2_with fail
    refine hH.out.mono ?_
    rintro e w' ⟨rfl, rfl⟩
    go_wp2_with fail
    refine hA.out.mono ?_
    rintro e w2 ⟨rfl, bel⟩
    go_wp2
    go_ret
    exact ⟨rfl, H.out.keep bel, Two.of bel⟩
  · have hL := W_hid (length_yes q hq)
    have hH := W_hid (holds_any g b n m f q T true w h hf hq ⟨fun _ => ⟨h1, h2⟩, fun _ => rfl⟩)
    have hA := W_hid (are_any b m f q T true true 18446744073709551615 w rfl h.row h.m2 hq h1 (by have := h.nm; omega) ⟨fun _ => hall, fun _ => rfl⟩)
    obtain ⟨lf, hlf, hbox⟩ := h.box
    have c0 := hbox.cell (j := 0) rfl
    have hpad := (FR.Puts.pad (m := 64 * m) (.inr (.inr (.inr ⟨rfl, q, rfl, hq, h1, h2, hall, rfl⟩))) h.pad : ∀ x, n ≤ x → x < 64 * m → FR.st T f q false x = true)
    have hS := W_hid (fun w' (hr : Blk w' b 22 (wrow T m)) => set_any b m f q T false 0 w' rfl hr h.m2 hq h1 (by have := h.nm; omega))
    have hcnt := FR.cnt_st T n f q false h2
    rw [(FR.cnt_full T f q).2 hall, if_neg (by decide)] at hcnt
    have hf2 : f ≤ 65536 := by have := h.n2; omega
    have hlf2 : lf ≤ 65536 := by have := h.n2; omega
    have hq2 := (FR.run_le hq).2
    have hnew : lf + q + FR.cnt (FR.st T f q false) 0 n = n := by omega
    replace hnew := W_hid hnew
    replace hpad := W_hid hpad
    have H := W_hid h
    clear hq hlf h hcnt hall
    go_enter Tryd.func51, Tryd.ntmps51
    go_wp2_with fail
    refine hN.out.mono ?_
    rintro e w' ⟨rfl, rfl⟩
    go_wp2_with fail
    refine (hL.out _).mono ?_
    rintro e w' ⟨rfl, rfl⟩
    go_wp2_with fail
    refine hH.out.mono ?_
    rintro e w' ⟨rfl, rfl⟩
    go_wp2_with fail
    refine hA.out.mono ?_
    rintro e w2 ⟨rfl, bel⟩
    have c02 := (hbox.keep bel).cell (j := 0) rfl
    go_wp2_with fail
    refine (hS.out _ (H.out.row.keep bel)).mono ?_
    rintro e w3 ⟨rfl, hrw3, two3⟩
    have hbox3 := (hbox.keep bel).two two3 H.out.ne H.out.ne
    have c23 := hbox3.cell (j := 2) rfl
    have fz3 := hbox3.fz
    have hbox4 := hbox3.set 2 (.int .i64 ((lf : Int) + q))
    have hrw4 := hrw3.far (p := ⟨g, 2, none⟩) (fun e => H.out.ne e.symm) (.int .i64 ((lf : Int) + q))
    have two4 := (((Two.of (g := g) (b := b) bel).trans two3.wide)).setCell (p := ⟨g, 2, none⟩) (.inl rfl) (.int .i64 ((lf : Int) + q))
    go_wp2
    go_ret
    refine ⟨rfl, ⟨⟨lf + q, hnew.out, ?_⟩, hrw4, H.out.ne, H.out.n1, H.out.n2, H.out.nm, H.out.m8, H.out.m2, hpad.out⟩, two4⟩
    rw [Int.natCast_add]
    exact hbox4

end Go.Proofs.YthiojnbnhagcgaaDoor

/- Contracts of package frame's functions over marks: width, are, set; for every run of every row of marks. -/
import Derived.Test.YthiojnbnhagcgaaDoorFrameMem
import Derived.Deep.RegionLaw
import Derived.RegionTactic
import Derived.Deep.RegionHeld3
namespace Go.Proofs.YthiojnbnhagcgaaDoor
open Go.ChangeShapes Go.WideShapes Go.ChangeAt Go.RowKit
set_option linter.unusedVariables false
set_option linter.unusedSimpArgs false

set_option maxRecDepth 100000 in
set_option maxHeartbeats 400000 in
theorem width_any (k W : Nat) (hW : min k 64 = W) (w : World) :
    Calls Tryd.prog 59 #[.int .i64 k] w fun e w' => e = .returned (.int .i64 W) ∧ w = w' := by
  go_enter Tryd.func59, Tryd.ntmps59
  go_wp2
  all_goals
    go_ret
    exact ⟨ret_i64 (by omega), rfl⟩

theorem take_want_calls (h : Bool) (W : Nat) (hW : W ≤ 64) (H V : Nat) (hH : FR.want h 64 = H) (hV : FR.want h W = V) (w : World) :
    Calls Tryd.prog 60 #[.int .u64 H, .int .i64 0, .int .i64 W] w fun e w' => e = .returned (.tuple #[.int .u64 V, .int .i64 0]) ∧ Below w.heap.size w w' := by
  subst hH hV
  have := take_yes (FR.want h 64) 0 W (FR.want_64 h) (by omega) w
  rw [FR.take_all h W hW] at this
  exact this

set_option maxRecDepth 100000 in
set_option maxHeartbeats 1000000 in
theorem are_any (b m f k : Nat) (T : Nat → Bool) (h res : Bool) (how : Int) (w : World) (hhow : how = ((FR.want h 64 : Nat) : Int)) (hrow : Blk w b 22 (wrow T m)) (hm : m ≤ 1024) (hk : FR.Run k) (hf : f % k = 0) (hfm : f + k ≤ 64 * m)
    (hres : res = true ↔ FR.All T f k h) :
    Calls Tryd.prog 58 #[.slice (some ⟨b, 0, none⟩) m m, .int .i64 f, .int .i64 k, .int .u64 how] w fun e w' => e = .returned (.bool res) ∧ Below w.heap.size w w' := by
  subst hhow
  obtain ⟨W, R, hW, hW1, hW64, hR1, hR8, hkW, hkR, hlie⟩ := FR.run_lie hk
  obtain ⟨hin, hpart⟩ := hlie f hf
  obtain ⟨c, hc⟩ : ∃ c, f / 64 = c := ⟨_, rfl⟩
  obtain ⟨r, hr⟩ : ∃ r, f % 64 = r := ⟨_, rfl⟩
  rw [hr] at hin
  rw [hc, hr] at hpart
  obtain ⟨H, hH⟩ : ∃ H, FR.want h 64 = H := ⟨_, rfl⟩
  obtain ⟨V, hV⟩ : ∃ V, FR.want h W = V := ⟨_, rfl⟩
  have hwid := W_hid (width_any k W hW)
  have hT0 := W_hid (take_want_calls h W hW64 H V hH hV)
  have hparts := W_hid (FR.all_parts T f k W R h hkR)
  have hcR : Hid (∀ i, i < R → c + i < m) := by
    intro i hi
    have h1 := hpart i hi
    have h2 : i * W + W ≤ R * W := by
      have := Nat.mul_le_mul_right W (show i + 1 ≤ R from hi)
      rwa [Nat.add_mul, Nat.one_mul] at this
    omega
  have eq1 : (f : Int) / 64 = c := by omega
  have eq2 : (f : Int) % 64 = r := by omega
  have eq3 : (k : Int) / W = R := by rw [← Int.natCast_ediv, hkW]
  replace hpart := W_hid hpart
  have hf2 : f ≤ 65536 := by omega
  have hk2 := (FR.run_le hk).2
  replace hV := W_hid hV
  rw [hH]
  clear hW hkW hkR hlie hH hf hfm hk hc hr
  go_enter Tryd.func58, Tryd.ntmps58
  go_wp2_with fail
  refine (hwid.out _).mono ?_
  rintro e w1 ⟨rfl, rfl⟩
  go_wp2_with fail
  refine (hT0.out _).mono ?_
  rintro e w1 ⟨rfl, bel1⟩
  go_wp2_with fail
  replace hres := W_hid hres
  go_loopw [12, 13, 14, 26] (fun x1 x2 x3 i wr => ∃ j : Nat, j ≤ R ∧ i = .int .i64 j ∧ Hid (∀ t, t < j → FR.All T (f + t * W) W h) ∧ Below w.heap.size w wr) (fun _ _ _ i _ => R - (intOf i).toNat)
  case atStart => exact ⟨0, by omega, rfl, fun t ht => by omega, bel1⟩
  case round =>
    obtain ⟨j, hj, rfl, hall, bel⟩ := hrel
    by_cases hlt : j < R
    · have hrw := hrow.keep bel
      have hcell : wr.cell? ⟨b, c + j, none⟩ = some (.int .u64 ((FR.wd T (c + j) : Nat) : Int)) := hrw.cell (wrow_get T m _ (hcR.out j hlt))
      have hfz := hrw.fz
      have hidx : (c : Int) + j < m := by have := hcR.out j hlt; omega
      have hto : ((c : Int) + j).toNat = c + j := by omega
      have hTk := W_hid (take_yes (FR.wd T (c + j)) r W (FR.wd_lt _ _) hin)
      have htw := W_hid (FR.take_want T (c + j) r W h hin)
      obtain ⟨Z, hZ⟩ : ∃ Z, WM.take (FR.wd T (c + j)) r W = Z := ⟨_, rfl⟩
      rw [hZ] at hTk htw
      rw [hV.out, hpart.out j hlt] at htw
      clear hZ
      generalize FR.wd T (c + j) = X at *
      have hbb : Below w.heap.size wr wr := Below.refl _ _
      by_cases hZV : Z = V
      · have hnext : Hid (∀ t, t < j + 1 → FR.All T (f + t * W) W h) := by
          intro t ht
          rcases Nat.lt_or_ge t j with hlt2 | hge
          · exact hall.out t hlt2
          · obtain rfl : t = j := by omega
            exact htw.out.1 hZV
        have ht1 : ((Z : Int) != (V : Int)) = false := by rw [hZV]; simp
        clear hZV
        go_wp2_with fail
        refine (hTk.out _).mono ?_
        rintro e w2 ⟨rfl, bel2⟩
        go_wp2
        go_roundw
        case rel => exact ⟨j + 1, by omega, by go_num, hnext, bel.trans (bel2.mono bel.size)⟩
        case measure => simp [intOf]; omega
      · have hno : Hid (res = false) := by
          cases res
          · rfl
          · exact absurd (htw.out.2 (hparts.out.1 (hres.out.1 rfl) j hlt)) hZV
        have ht1 : ((Z : Int) != (V : Int)) = true := by simp; omega
        clear hZV
        go_wp2_with fail
        refine (hTk.out _).mono ?_
        rintro e w2 ⟨rfl, bel2⟩
        go_wp2
        go_ret
        exact ⟨by rw [hno.out]; rfl, bel.trans (bel2.mono bel.size)⟩
    · obtain rfl : j = R := by omega
      have hyes : Hid (res = true) := hres.out.2 (hparts.out.2 hall.out)
      go_wp2
      go_ret
      exact ⟨by rw [hyes.out]; rfl, bel⟩

set_option maxRecDepth 100000 in
set_option maxHeartbeats 1000000 in
theorem set_any (b m f k : Nat) (T : Nat → Bool) (h : Bool) (how : Int) (w : World) (hhow : how = ((FR.want h 64 : Nat) : Int)) (hrow : Blk w b 22 (wrow T m)) (hm : m ≤ 1024) (hk : FR.Run k) (hf : f % k = 0) (hfm : f + k ≤ 64 * m) :
    Calls Tryd.prog 41 #[.slice (some ⟨b, 0, none⟩) m m, .int .i64 f, .int .i64 k, .int .u64 how] w fun e w' => e = .returned (.tuple #[]) ∧ Blk w' b 22 (wrow (FR.st T f k h) m) ∧ Two b b w w' := by
  subst hhow
  obtain ⟨W, R, hW, hW1, hW64, hR1, hR8, hkW, hkR, hlie⟩ := FR.run_lie hk
  obtain ⟨hin, hpart⟩ := hlie f hf
  obtain ⟨c, hc⟩ : ∃ c, f / 64 = c := ⟨_, rfl⟩
  obtain ⟨r, hr⟩ : ∃ r, f % 64 = r := ⟨_, rfl⟩
  rw [hr] at hin
  rw [hc, hr] at hpart
  obtain ⟨H, hH⟩ : ∃ H, FR.want h 64 = H := ⟨_, rfl⟩
  obtain ⟨V, hV⟩ : ∃ V, FR.want h W = V := ⟨_, rfl⟩
  have hwid := W_hid (width_any k W hW)
  have hT0 := W_hid (take_want_calls h W hW64 H V hH hV)
  have hcR : Hid (∀ i, i < R → c + i < m) := by
    intro i hi
    have h1 := hpart i hi
    have h2 : i * W + W ≤ R * W := by
      have := Nat.mul_le_mul_right W (show i + 1 ≤ R from hi)
      rwa [Nat.add_mul, Nat.one_mul] at this
    omega
  have hend : Hid (FR.st T f k h = FR.st T f (R * W) h) := by show _ = _; rw [← hkR]
  have hVlt : Hid (V < 2 ^ W) := by show _ < _; rw [← hV]; exact FR.want_lt h W
  have eq1 : (f : Int) / 64 = c := by omega
  have eq2 : (f : Int) % 64 = r := by omega
  have eq3 : (k : Int) / W = R := by rw [← Int.natCast_ediv, hkW]
  replace hpart := W_hid hpart
  have hf2 : f ≤ 65536 := by omega
  have hk2 := (FR.run_le hk).2
  replace hV := W_hid hV
  rw [hH]
  clear hW hkW hkR hlie hH hf hfm hk hc hr
  go_enter Tryd.func41, Tryd.ntmps41
  go_wp2_with fail
  refine (hwid.out _).mono ?_
  rintro e w1 ⟨rfl, rfl⟩
  go_wp2_with fail
  refine (hT0.out _).mono ?_
  rintro e w1 ⟨rfl, bel1⟩
  go_wp2_with fail
  go_loopw [11, 12, 24] (fun x1 x2 i wr => ∃ j : Nat, j ≤ R ∧ i = .int .i64 j ∧ Blk wr b 22 (wrow (FR.st T f (j * W) h) m) ∧ Two b b w wr) (fun _ _ i _ => R - (intOf i).toNat)
  case atStart => exact ⟨0, by omega, rfl, by rw [Nat.zero_mul, FR.st_zero]; exact hrow.keep bel1, Two.of bel1⟩
  case round =>
    obtain ⟨j, hj, rfl, hrw, two⟩ := hrel
    by_cases hlt : j < R
    · have hq := hcR.out j hlt
      have hcell : wr.cell? ⟨b, c + j, none⟩ = some (.int .u64 ((FR.wd (FR.st T f (j * W) h) (c + j) : Nat) : Int)) := hrw.cell (wrow_get _ m _ hq)
      have hidx : (c : Int) + j < m := by omega
      have hto : ((c : Int) + j).toNat = c + j := by omega
      have hPt := W_hid (put_yes (FR.wd (FR.st T f (j * W) h) (c + j)) r W V (FR.wd_lt _ _) hin hVlt.out)
      have hset := wrow_set (FR.st T f (j * W) h) m (c + j) r W h hq hin
      rw [hV.out, hpart.out j hlt, FR.st_step] at hset
      have hj1 : j * W + W = (j + 1) * W := by rw [Nat.add_mul, Nat.one_mul]
      rw [hj1] at hset
      replace hset := W_hid hset
      clear hj1
      obtain ⟨U, hU⟩ : ∃ U, FR.st T f (j * W) h = U := ⟨_, rfl⟩
      rw [hU] at hcell hPt hset hrw
      obtain ⟨Z, hZ⟩ : ∃ Z, WM.put (FR.wd U (c + j)) r W V = Z := ⟨_, rfl⟩
      rw [hZ] at hPt hset
      clear hU hZ
      generalize FR.wd U (c + j) = X at *
      go_wp2_with fail
      refine (hPt.out _).mono ?_
      rintro e w2 ⟨rfl, bel2⟩
      have hrw2 := hrw.keep bel2
      have hcell2 : w2.cell? ⟨b, c + j, none⟩ = some (.int .u64 X) := by rw [bel2.cell (p := ⟨b, c + j, none⟩) hrw.lt]; exact hcell
      have hfz2 := hrw2.fz
      have hst := hrw2.set (c + j) (.int .u64 Z)
      rw [hset.out] at hst
      have two2 := (two.trans (Two.of bel2)).setCell (p := ⟨b, c + j, none⟩) (.inl rfl) (.int .u64 Z)
      go_wp2
      go_roundw
      case rel => exact ⟨j + 1, by omega, by go_num, hst, two2⟩
      case measure => simp [intOf]; omega
    · obtain rfl : j = R := by omega
      go_wp2
      go_end0
      exact ⟨rfl, by rw [hend.out]; exact hrw, two⟩

end Go.Proofs.YthiojnbnhagcgaaDoor

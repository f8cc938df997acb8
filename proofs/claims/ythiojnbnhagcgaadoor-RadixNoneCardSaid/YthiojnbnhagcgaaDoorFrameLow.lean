/- Contract of package frame's lowest: the lowest run that is free, or that there is none; for every row of marks. -/
import Derived.Test.YthiojnbnhagcgaaDoorFrame
namespace Go.Proofs.YthiojnbnhagcgaaDoor
open Go.ChangeShapes Go.WideShapes Go.ChangeAt Go.RowKit
set_option linter.unusedVariables false
set_option linter.unusedSimpArgs false

set_option maxRecDepth 100000 in
set_option maxHeartbeats 1000000 in
theorem lowest_any (b m k a : Nat) (T : Nat → Bool) (yes : Bool) (w : World) (hrow : Blk w b 22 (wrow T m)) (hm : m ≤ 1024) (hm8 : m % 8 = 0) (hk : FR.Run k) (hans : FR.Ans T (64 * m) k a yes) :
    Calls Tryd.prog 40 #[.slice (some ⟨b, 0, none⟩) m m, .int .i64 k] w fun e w' => e = .returned (.tuple #[.int .i64 a, .bool yes]) ∧ Below w.heap.size w w' := by
  obtain ⟨S, G, hS, hS1, hS2, hS64, hS512, hG1, hG64, hSG, hSk, hkS, hSm, hu1, hu2⟩ := FR.run_step hk
  obtain ⟨hk1, hk2⟩ := FR.run_le hk
  have hmx : (if (k : Int) < 64 then (64 : Int) else (k : Int)) = S := by split <;> omega
  obtain ⟨N, hN⟩ : ∃ N, 64 * m / S = N := ⟨_, rfl⟩
  have hSd : S ∣ 64 * m := by
    have h1 : S ∣ 512 := Nat.dvd_of_mod_eq_zero hS512
    have h2 : 512 ∣ 64 * m := ⟨m / 8, by omega⟩
    exact Nat.dvd_trans h1 h2
  have hNS : N * S = 64 * m := by rw [← hN]; exact Nat.div_mul_cancel hSd
  have eq1 : ((m : Int) * 64) / (S : Int) = N := by
    rw [show (m : Int) * 64 = ((64 * m : Nat) : Int) by omega, ← Int.natCast_ediv, hN]
  have eq2 : (S : Int) / (k : Int) = G := by rw [← Int.natCast_ediv, hSG]
  have hN2 : N ≤ 1024 := by
    rw [← hN]
    exact Nat.le_trans (Nat.div_le_div_left hS1 (by decide)) (by omega)
  have hare := W_hid (fun (f : Nat) (res : Bool) (w : World) (hr : Blk w b 22 (wrow T m)) (hf : f % k = 0) (hfm : f + k ≤ 64 * m) (hres : res = true ↔ FR.All T f k false) =>
    are_any b m f k T false res 0 w rfl hr hm hk hf hfm hres)
  replace hu1 := W_hid hu1
  replace hu2 := W_hid hu2
  replace hans := W_hid hans
  replace hNS := W_hid hNS
  replace hSk := W_hid hSk
  replace hS64 := W_hid hS64
  replace hSm := W_hid hSm
  replace hm8 := W_hid hm8
  clear hS hSG hS512 hSd hN
  go_enter Tryd.func40, Tryd.ntmps40
  go_wp2_with fail
  rw [eq1]
  go_loopw [7, 8, 9, 10, 18] (fun _ _ _ _ i wr => ∃ j : Nat, j ≤ N ∧ i = .int .i64 j ∧ Hid (FR.Non T k (j * S)) ∧ Below w.heap.size w wr) (fun _ _ _ _ i _ => N - (intOf i).toNat)
  case atStart => exact ⟨0, by omega, rfl, (by intro f hf; omega), Below.refl _ _⟩
  case round =>
    obtain ⟨j, hj, rfl, hnon, bel⟩ := hrel
    by_cases hlt : j < N
    · have hFS : j * S + S ≤ 64 * m := by
        have := Nat.mul_le_mul_right S (show j + 1 ≤ N from hlt)
        rw [Nat.add_mul, Nat.one_mul, hNS.out] at this
        exact this
      have hF64 : j * S % 64 = 0 := by rw [Nat.mul_mod, hS64.out, Nat.mul_zero]
      have hFk : Hid (j * S % k = 0) := by show _ = _; rw [Nat.mul_mod, hSm.out, Nat.mul_zero, Nat.zero_mod]
      have hFm : Hid (j * S % S = 0) := Nat.mul_mod_left _ _
      have hFj : Hid (FR.Non T k (j * S + S) → FR.Non T k ((j + 1) * S)) := by intro h; rw [Nat.add_mul, Nat.one_mul]; exact h
      have hFi : (j : Int) * (S : Int) = ((j * S : Nat) : Int) := (Int.natCast_mul j S).symm
      generalize hF : j * S = F at *
      clear hF
      obtain ⟨q, hq⟩ : ∃ q, F = 64 * q := ⟨F / 64, by omega⟩
      have hqi : (F : Int) / 64 = q := by omega
      have hqm : q < m := by omega
      have hrw := hrow.keep bel
      have hcell : wr.cell? ⟨b, q, none⟩ = some (.int .u64 ((FR.wd T q : Nat) : Int)) := hrw.cell (wrow_get T m q hqm)
      have hfull := W_hid (FR.wd_full T q)
      replace hq := W_hid hq
      clear hF64
      generalize FR.wd T q = X at *
      by_cases hX : X = 18446744073709551615
      · have hnext : Hid (FR.Non T k ((j + 1) * S)) := hFj.out (hnon.out.full hk1 hu1.out hFm.out (by rw [hq.out]; exact hfull.out.1 hX))
        have ht : ((X : Int) == 18446744073709551615) = true := by rw [hX]; rfl
        clear hX hfull
        go_wp2
        go_roundw
        case rel => exact ⟨j + 1, by omega, by go_num, hnext, bel⟩
        case measure => simp [intOf]; omega
      · have ht : ((X : Int) == 18446744073709551615) = false := by simp; omega
        clear hX hfull
        go_wp2_with fail
        obtain ⟨wa, rfl⟩ : ∃ wa, wa = wr := ⟨wr, rfl⟩
        clear hrw hcell
        go_loopw [9, 10, 33] (fun _ _ i wr => ∃ t : Nat, t ≤ G ∧ i = .int .i64 t ∧ Hid (FR.Non T k (F + t * k)) ∧ Below w.heap.size w wr) (fun _ _ i _ => G - (intOf i).toNat)
        case atStart => exact ⟨0, by omega, rfl, (by show FR.Non T k (F + 0 * k); rw [Nat.zero_mul]; exact hnon.out), bel⟩
        case round =>
          obtain ⟨t, htG, rfl, hnt, belr⟩ := hrel
          by_cases hlt2 : t < G
          · have hJS : F + t * k + k ≤ 64 * m := by
              have := Nat.mul_le_mul_right k (show t + 1 ≤ G from hlt2)
              rw [Nat.add_mul, Nat.one_mul, ← hSk.out] at this
              omega
            have hPk : Hid ((F + t * k) % k = 0) := by show _ = _; rw [Nat.add_mul_mod_self_right]; exact hFk.out
            have hPn : Hid (FR.Non T k (F + t * k + k) → FR.Non T k (F + (t + 1) * k)) := by intro h; rw [Nat.add_mul, Nat.one_mul, ← Nat.add_assoc]; exact h
            have hJi : (t : Int) * (k : Int) = ((t * k : Nat) : Int) := (Int.natCast_mul t k).symm
            have hPi : (F : Int) + ((t * k : Nat) : Int) = ((F + t * k : Nat) : Int) := (Int.natCast_add _ _).symm
            have hJle : t * k ≤ 65536 := by omega
            generalize hJ : t * k = J at *
            clear hJ
            generalize hP : F + J = P at *
            have hPle : P ≤ 65536 := by omega
            have hrw := hrow.keep belr
            replace hP := W_hid hP
            by_cases hall : FR.All T P k false
            · obtain ⟨hy, ha⟩ := hans.out.found hPk.out hJS hall hnt.out
              have hc := hare.out P true wr hrw hPk.out hJS ⟨fun _ => hall, fun _ => rfl⟩
              have hc := W_hid hc
              have hres : Hid (yes = true ∧ a = P) := ⟨hy, ha⟩
              clear hy ha hall hJS
              go_wp2_with fail
              refine hc.out.mono ?_
              rintro e w2 ⟨rfl, bel2⟩
              go_wp2
              go_ret2
              exact ⟨by rw [hres.out.1, hres.out.2]; rfl, belr.trans (bel2.mono belr.size)⟩
            · have hc := W_hid (hare.out P false wr hrw hPk.out hJS ⟨fun h => absurd h (by decide), fun h => absurd h hall⟩)
              have hnext : Hid (FR.Non T k (F + (t + 1) * k)) := hPn.out (hnt.out.step hu2.out hPk.out hall)
              clear hall hJS
              go_wp2_with fail
              refine hc.out.mono ?_
              rintro e w2 ⟨rfl, bel2⟩
              go_wp2
              go_roundw
              case rel =>
                exact ⟨t + 1, by omega, by go_num, hnext, belr.trans (bel2.mono belr.size)⟩
              case measure => simp [intOf]; omega
          · obtain rfl : t = G := by omega
            rw [← hSk.out] at hnt
            have hnext := hFj.out hnt.out
            replace hnext := W_hid hnext
            go_wp2
            go_roundw
            case rel => exact ⟨j + 1, by omega, by go_num, hnext, belr⟩
            case measure => simp [intOf]; omega
    · obtain rfl : j = N := by omega
      rw [hNS.out] at hnon
      have hres : Hid (yes = false ∧ a = 0) := hans.out.none hk1 hnon.out
      go_wp2
      go_ret2
      exact ⟨by rw [hres.out.1, hres.out.2]; rfl, bel⟩

end Go.Proofs.YthiojnbnhagcgaaDoor

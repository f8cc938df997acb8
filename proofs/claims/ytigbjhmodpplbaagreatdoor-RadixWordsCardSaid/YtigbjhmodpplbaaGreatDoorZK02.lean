/- Contracts of package radix's under and Pages: the pages below a table, by rising addresses. -/
import Derived.Test.YtigbjhmodpplbaaGreatDoorZK01
import Derived.Deep.RegionHeld3
import Derived.IntWalk
import Derived.Test.YtigbjhmodpplbaaGreatDoorZH04
import Derived.Test.YtigbjhmodpplbaaGreatDoorZH02
import Derived.Maps.AppendAt
import Derived.Laws.OwnMore
import Derived.Laws.AppendOwnNone
import Derived.Deep.RegionLaw

/- The document's own tree: at, used, isPerm. -/
namespace Go.Proofs.YtigbjhmodpplbaaGreatDoor
open Go.ChangeShapes Go.WideShapes Go.ChangeAt Go.RowKit
set_option linter.unusedVariables false
set_option linter.unusedSimpArgs false

theorem cell_keep {w w' : World} {B : Nat} {p : Addr} {v : Value} (hb : Below B w w') (hB : B = w.heap.size) (h : w.cell? p = some v) : w'.cell? p = some v := by
  subst hB; rw [hb.cell (cell_lt h)]; exact h
theorem bel_step {w wr w2 : World} (h : Below w.heap.size w wr) (h2 : Below wr.drew.heap.size wr.drew w2) : Below w.heap.size w w2 := h.trans ((bundrew h2).mono h.size)

set_option maxRecDepth 100000 in
set_option maxHeartbeats 2000000 in
theorem at_any (D : List Nat) (g pg pb n : Nat) (T : Nat → Bool) (lv tv : Value) (L : List RX.Pg) (Tl : List RX.Tb) (w : World) (h : DM w D g pg pb n T lv tv L Tl) (va : Nat) (hva : va < 18446744073709551616) :
    Calls Tryz.prog 60 #[.pointer (some ⟨g, 0, none⟩), .int .u64 (va : Int)] w fun e w' => e = .returned (.int .i64 (ixI (RX.atI L va))) ∧ Below w.heap.size w w' := by
  have hS := W_hid rSize_any
  obtain ⟨⟨a0, cap0, hlv, hc1, hc2⟩, -⟩ := h.lens
  unfold maxLen at hc2
  have H := W_hid h
  subst hlv
  have hfa := W_hid (fun i hi h0 h1 => @find_at _ L (fun x => RX.has x va) i hi h0 h1)
  have hfe := W_hid (fun h0 => @find_end _ L (fun x => RX.has x va) h0)
  obtain ⟨N, hN⟩ : ∃ N, L.length = N := ⟨_, rfl⟩
  have hN' := W_hid hN
  clear h
  rw [hN] at hc1
  go_enter Tryz.func60, Tryz.ntmps60
  go_wp2
  go_loopw [5] (fun i wr => ∃ k : Nat, k ≤ N ∧ i = .int .i64 (k : Int) ∧ Hid (∀ (j : Nat) (hj : j < L.length), j < k → RX.has L[j] va = false) ∧ Hid (DM wr D g pg pb n T (.slice a0 N cap0) tv L Tl) ∧ Hid (Below w.heap.size w wr)) (fun i _ => N - (intOf i).toNat)
  case atStart => exact ⟨0, by omega, rfl, W_hid (fun j hj h => by omega), by rw [hN] at H; exact H, W_hid (Below.refl _ _)⟩
  case round =>
    obtain ⟨k, hk, rfl, hno, hD, hq⟩ := hrel
    have c1 := hD.out.c1
    by_cases hlt : k < N
    · have hk' : k < L.length := by rw [hN'.out]; exact hlt
      obtain ⟨b, o, cap, e0, -, -, t0, t1, t2, t3, l0, l1⟩ := hD.out.page hk'
      rw [hN'.out] at e0
      simp only [Value.slice.injEq] at e0
      obtain ⟨rfl, -, rfl⟩ := e0
      have hx : Hid (RX.has L[k] va = decide (L[k].1 ≤ va ∧ va < L[k].1 + RX.psz L[k].2.2.2)) := W_hid rfl
      have hfa := W_hid (hfa.out k hk' (fun j hj h => hno.out j hj h))
      have hnx : RX.has L[k] va = false → Hid (∀ (j : Nat) (hj : j < L.length), j < k + 1 → RX.has L[j] va = false) := fun hf => W_hid (fun j hj h => by
        by_cases e : j = k
        · subst e; exact hf
        · exact hno.out j hj (by omega))
      replace hnx := W_hid hnx
      generalize L[k] = x at *
      obtain ⟨v, f, p, hu⟩ := x
      simp only at t0 t1 t2 t3 l0 l1 hx
      have hi1 : (k : Int) < N := by omega
      obtain ⟨sz, hsz⟩ : ∃ sz, RX.psz hu = sz := ⟨_, rfl⟩
      have hszl : sz ≤ 2097152 := by rw [← hsz]; unfold RX.psz; split <;> omega
      have hS2 := W_hid (fun w => hS.out v f p hu w)
      rw [hsz] at hS2 hx
      have hwr : IntKind.u64.wrap ((v : Int) + (sz : Int)) = (v : Int) + (sz : Int) := IntWalk.u64_in _ (by omega)
      clear hsz
      by_cases hl : v ≤ va
      · have d1 : decide ((v : Int) ≤ (va : Int)) = true := by simp; omega
        have d1n : decide (v ≤ va) = true := decide_eq_true hl
        by_cases hf : va < v + sz
        · have d2 : decide ((va : Int) < (v : Int) + (sz : Int)) = true := by simp; omega
          have hfin : Hid (ixI (RX.atI L va) = (k : Int)) := W_hid (by unfold RX.atI; rw [hfa.out (by rw [hx.out]; exact decide_eq_true ⟨hl, hf⟩)]; rfl)
          clear hfa hnx hx hl hf hno hS
          go_wp2_with fail
          go_region_held3 (fun w' => w'.cell? ⟨g, 1, none⟩ = some (.slice (some ⟨b, o, none⟩) N cap0) ∧ w'.cell? ⟨b, o + k * 4, none⟩ = some (.int .u64 (v : Int)) ∧ w'.cell? ⟨b, o + k * 4 + 1, none⟩ = some (.int .u64 (f : Int)) ∧ w'.cell? ⟨b, o + k * 4 + 2, none⟩ = some (.int .i64 p) ∧ w'.cell? ⟨b, o + k * 4 + 3, none⟩ = some (.bool hu)) (first | assumption | go_keep)
            (first | (go_at_call 24; refine (hS2.out _).mono ?_; rintro e w2 ⟨rfl, bel2⟩; have x1 := cell_keep bel2 rfl c1; have x2 := cell_keep bel2 rfl t0; have x3 := cell_keep bel2 rfl t1; have x4 := cell_keep bel2 rfl t2; have x5 := cell_keep bel2 rfl t3; have bl := W_hid (bel_step hq.out bel2); clear bel2))
          go_wp2_with fail
          go_ret
          exact ⟨ret_i64 hfin.out.symm, bl.out⟩
        · have d2 : decide ((va : Int) < (v : Int) + (sz : Int)) = false := by simp; omega
          have hnx := hnx.out (by rw [hx.out]; exact decide_eq_false (fun h => hf h.2))
          clear hfa hx hl hf hno hS
          go_wp2_with fail
          go_region_held3 (fun w' => w'.cell? ⟨g, 1, none⟩ = some (.slice (some ⟨b, o, none⟩) N cap0) ∧ w'.cell? ⟨b, o + k * 4, none⟩ = some (.int .u64 (v : Int)) ∧ w'.cell? ⟨b, o + k * 4 + 1, none⟩ = some (.int .u64 (f : Int)) ∧ w'.cell? ⟨b, o + k * 4 + 2, none⟩ = some (.int .i64 p) ∧ w'.cell? ⟨b, o + k * 4 + 3, none⟩ = some (.bool hu)) (first | assumption | go_keep)
            (first | (go_at_call 24; refine (hS2.out _).mono ?_; rintro e w2 ⟨rfl, bel2⟩; have x1 := cell_keep bel2 rfl c1; have x2 := cell_keep bel2 rfl t0; have x3 := cell_keep bel2 rfl t1; have x4 := cell_keep bel2 rfl t2; have x5 := cell_keep bel2 rfl t3; have bl := W_hid (bel_step hq.out bel2); have hD2 := W_hid (hD.out.keep (bundrew bel2)); clear bel2))
          clear hD hq
          go_wp2_with fail
          go_roundw
          case rel => exact ⟨k + 1, by omega, by go_num, hnx, hD2, bl⟩
          case measure => simp [intOf]; omega
      · have d1 : decide ((v : Int) ≤ (va : Int)) = false := by simp; omega
        have d1n : decide (v ≤ va) = false := decide_eq_false hl
        have hnx := hnx.out (by rw [hx.out]; exact decide_eq_false (fun h => hl h.1))
        clear hfa hx hl hno hS
        go_wp2_with fail
        go_quiet (fail)
        have hD2 := W_hid (hD.out.drewN nq)
        have hq2 := W_hid (below_drewN hq.out nq)
        clear hD hq
        go_wp2_with fail
        go_roundw
        case rel => exact ⟨k + 1, by omega, by go_num, hnx, hD2, hq2⟩
        case measure => simp [intOf]; omega
    · obtain rfl : k = N := by omega
      have hfin : Hid (ixI (RX.atI L va) = -1) := W_hid (by unfold RX.atI; rw [hfe.out (fun j hj => hno.out j hj (by rw [← hN'.out]; exact hj))]; rfl)
      clear hfa hfe hno
      go_wp2_with fail
      go_ret
      exact ⟨ret_i64 hfin.out.symm, hq.out⟩
end Go.Proofs.YtigbjhmodpplbaaGreatDoor

/- Contracts of package radix's Word. -/
namespace Go.Proofs.YtigbjhmodpplbaaGreatDoor
open Go.ChangeShapes Go.WideShapes Go.ChangeAt Go.RowKit
set_option linter.unusedVariables false
set_option linter.unusedSimpArgs false

set_option maxRecDepth 100000 in
set_option maxHeartbeats 1000000 in
theorem Word_out (g pg r b f : Nat) (i : Int) (M : Nat → Option (Nat → Nat)) (w : World) (h : TM w g pg r b M) (hi : i < 0 ∨ 512 ≤ i) :
    Calls Tryz.prog 17 #[.pointer (some ⟨g, 0, none⟩), .int .u64 (f : Int), .int .i64 i] w fun e w' => e = .returned (.tuple #[.int .u64 0, .bool false]) ∧ w = w' := by
  have cN := W_hid (none_tree g pg r b M w h)
  clear h
  go_enter Tryz.func17, Tryz.ntmps17
  by_cases h0 : i < 0
  · go_wp2_with fail
    refine cN.out.mono ?_
    rintro e w1 ⟨rfl, rfl⟩
    go_wp2
    go_ret2
    exact ⟨rfl, rfl⟩
  · have h5 : 512 ≤ i := by omega
    go_wp2_with fail
    refine cN.out.mono ?_
    rintro e w1 ⟨rfl, rfl⟩
    go_wp2
    go_ret2
    exact ⟨rfl, rfl⟩

set_option maxRecDepth 100000 in
set_option maxHeartbeats 1000000 in
theorem Word_any (g pg r b f i : Nat) (M : Nat → Option (Nat → Nat)) (w : World) (h : TM w g pg r b M) (hf : f < 18446744073709551616) (hi : i < 512) :
    Calls Tryz.prog 17 #[.pointer (some ⟨g, 0, none⟩), .int .u64 (f : Int), .int .i64 (i : Int)] w fun e w' => e = .returned (.tuple #[.int .u64 ((((M f).getD zero) i : Nat) : Int), .bool (M f).isSome]) ∧ Below w.heap.size w w' := by
  have cN := W_hid (none_tree g pg r b M w h)
  have c2 := h.box.cell (j := 2) rfl
  have hlk := h.mb.look_ok f hf
  obtain ⟨ws, hws⟩ : ∃ ws, ws = (M f).getD zero := ⟨_, rfl⟩
  obtain ⟨ok, hok⟩ : ∃ ok, ok = (M f).isSome := ⟨_, rfl⟩
  rw [← hws, ← hok] at hlk ⊢
  have hZ : Blk (w.alloc (.cells Tryz.zeroCells108 108)) w.heap.size 108 Tryz.zeroCells108.toList := by
    show _ = _
    rw [Array.toArray_toList]
    exact heap_alloc_new w _
  have hzl : Tryz.zeroCells108.toList.toArray.size = (tw ws).toArray.size := by
    rw [List.size_toArray, List.size_toArray, tw_len]
    kernel_rfl
  have hone : (tw ws).toArray.all (·.oneCell') = true := by
    rw [List.all_toArray, List.all_eq_true]
    intro v hv
    simp only [tw, List.mem_map] at hv
    obtain ⟨i, -, rfl⟩ := hv
    rfl
  have hinf := table_info ws
  have i2 : (i : Int) < 512 := by omega
  have hB0 : Below w.heap.size w (w.alloc (.cells Tryz.zeroCells108 108)) := (Below.refl _ _).alloc (Nat.le_refl _) _
  have hget := tw_get ws i hi
  replace hget := W_hid hget
  replace hZ := W_hid hZ
  replace hB0 := W_hid hB0
  clear h hws hok
  go_enter Tryz.func17, Tryz.ntmps17
  go_wp2_with fail
  refine cN.out.mono ?_
  rintro e w1 ⟨rfl, rfl⟩
  go_wp2_with (refine wpList_store_b rfl _ _ _ rfl w.heap.size (tw ws) rfl rfl _ _ hZ.out hinf hzl hone ?_; intro w2 hT hbl hw2; have bel := W_hid (hbl w.heap.size w (Nat.le_refl _) hB0.out); have kt : w2.cell? ⟨w.heap.size, i, none⟩ = some (.int .u64 ((ws i : Nat) : Int)) := hT.cell hget.out; clear hT hbl hw2)
  go_ret2
  exact ⟨rfl, bel.out⟩
end Go.Proofs.YtigbjhmodpplbaaGreatDoor

/- The document's own tree: used, isPerm, Walk, Protect, New. -/
namespace Go.Proofs.YtigbjhmodpplbaaGreatDoor
open Go.ChangeShapes Go.WideShapes Go.ChangeAt Go.RowKit
set_option linter.unusedVariables false
set_option linter.unusedSimpArgs false

set_option maxRecDepth 100000 in
set_option maxHeartbeats 2000000 in
theorem used_any (D : List Nat) (g pg pb n : Nat) (T : Nat → Bool) (lv tv : Value) (L : List RX.Pg) (Tl : List RX.Tb) (w : World) (h : DM w D g pg pb n T lv tv L Tl) (f l from_ : Nat) (h1 : 1 ≤ l) (h4 : l ≤ 4) (hfr : from_ < 281474976710656) :
    Calls Tryz.prog 107 #[.pointer (some ⟨g, 0, none⟩), .agg #[.int .u64 (f : Int), .int .i64 (l : Int), .int .u64 (from_ : Int)]] w fun e w' => e = .returned (.bool (L.any (RX.inT from_ l))) ∧ Below w.heap.size w w' := by
  have hS := W_hid (fun (w : World) (t : Nat) => Calls.quiet_of_same ((rspan_any l h1 h4 (w.drewN t)).mono fun e w' ⟨he, hw⟩ => ⟨he, hw.symm⟩))
  obtain ⟨⟨a0, cap0, hlv, hc1, hc2⟩, -⟩ := h.lens
  unfold maxLen at hc2
  obtain ⟨S, hSe⟩ : ∃ S, S = EN.sz l := ⟨_, rfl⟩
  rw [← hSe] at hS
  have hSl : S ≤ 281474976710656 := by rw [hSe]; exact EN.sz_le l h4
  have hT : Hid (∀ x : RX.Pg, RX.inT from_ l x = decide (from_ ≤ x.1 ∧ x.1 < from_ + S)) := W_hid (fun x => by rw [hSe]; rfl)
  have hwr : IntKind.u64.wrap ((from_ : Int) + (S : Int)) = (from_ : Int) + (S : Int) := IntWalk.u64_in _ (by omega)
  have H := W_hid h
  subst hlv
  obtain ⟨N, hN⟩ : ∃ N, L.length = N := ⟨_, rfl⟩
  have hN' := W_hid hN
  have hB0 := W_hid (Blk.new w 105 [.int .u64 (f : Int), .int .i64 (l : Int), .int .u64 (from_ : Int)] rfl)
  have bel0 := W_hid ((Below.refl w.heap.size w).alloc (Nat.le_refl _) (.cells #[.int .u64 (f : Int), .int .i64 (l : Int), .int .u64 (from_ : Int)] 105))
  rw [hN] at hc1
  have H1 := W_hid (H.out.keep ((Below.refl w.heap.size w).alloc (Nat.le_refl _) (.cells #[.int .u64 (f : Int), .int .i64 (l : Int), .int .u64 (from_ : Int)] 105)))
  rw [hN] at H1
  clear h hSe
  go_enter Tryz.func107, Tryz.ntmps107
  go_wp2
  go_loopw [5] (fun i wr => ∃ k : Nat, k ≤ N ∧ i = .int .i64 (k : Int) ∧ Hid (∀ (j : Nat) (hj : j < L.length), j < k → RX.inT from_ l L[j] = false) ∧ Hid (DM wr D g pg pb n T (.slice a0 N cap0) tv L Tl) ∧ Hid (Blk wr w.heap.size 105 [.int .u64 (f : Int), .int .i64 (l : Int), .int .u64 (from_ : Int)]) ∧ Hid (Below w.heap.size w wr)) (fun i _ => N - (intOf i).toNat)
  case atStart => exact ⟨0, by omega, rfl, W_hid (fun j hj h => by omega), H1, hB0, bel0⟩
  case round =>
    obtain ⟨k, hk, rfl, hno, hD, hB, hq⟩ := hrel
    have c1 := hD.out.c1
    have b1 := hB.out.cell (j := 1) rfl
    have b2 := hB.out.cell (j := 2) rfl
    by_cases hlt : k < N
    · have hk' : k < L.length := by rw [hN'.out]; exact hlt
      obtain ⟨b, o, cap, e0, -, -, t0, -, -, -, l0, l1⟩ := hD.out.page hk'
      rw [hN'.out] at e0
      simp only [Value.slice.injEq] at e0
      obtain ⟨rfl, -, rfl⟩ := e0
      have hx := W_hid (hT.out L[k])
      have hfa : Hid (RX.inT from_ l L[k] = true → L.any (RX.inT from_ l) = true) := W_hid (fun h => List.any_eq_true.2 ⟨_, List.getElem_mem hk', h⟩)
      have hnx : RX.inT from_ l L[k] = false → Hid (∀ (j : Nat) (hj : j < L.length), j < k + 1 → RX.inT from_ l L[j] = false) := fun hf => W_hid (fun j hj h => by
        by_cases e : j = k
        · subst e; exact hf
        · exact hno.out j hj (by omega))
      replace hnx := W_hid hnx
      generalize L[k] = x at *
      obtain ⟨v, f', p, hu⟩ := x
      simp only at t0 l0 l1 hx
      have hi1 : (k : Int) < N := by omega
      by_cases hl : from_ ≤ v
      · have d1 : decide ((from_ : Int) ≤ (v : Int)) = true := by simp; omega
        by_cases hf : v < from_ + S
        · have d2 : decide ((v : Int) < (from_ : Int) + (S : Int)) = true := by simp; omega
          have hfin : Hid (L.any (RX.inT from_ l) = true) := W_hid (hfa.out (by rw [hx.out]; exact decide_eq_true ⟨hl, hf⟩))
          clear hfa hnx hx hf hno hT
          go_wp2_with fail
          go_quiet ((go_at_call 57; exact hS.out _ _))
          go_wp2_with fail
          go_ret
          exact ⟨ret_bool hfin.out.symm, below_drewN hq.out _⟩
        · have d2 : decide ((v : Int) < (from_ : Int) + (S : Int)) = false := by simp; omega
          have hnx := hnx.out (by rw [hx.out]; exact decide_eq_false (fun h => hf h.2))
          clear hfa hx hf hno hT
          go_wp2_with fail
          go_quiet ((go_at_call 57; exact hS.out _ _))
          have hD2 := W_hid (hD.out.drewN nq)
          have hq2 := W_hid (below_drewN hq.out nq)
          have hB2 : Hid (Blk (wr.drewN nq) w.heap.size 105 [.int .u64 (f : Int), .int .i64 (l : Int), .int .u64 (from_ : Int)]) := W_hid hB.out
          clear hD hq hB
          go_wp2_with fail
          go_roundw
          case rel => exact ⟨k + 1, by omega, by go_num, hnx, hD2, hB2, hq2⟩
          case measure => simp [intOf]; omega
      · have d1 : decide ((from_ : Int) ≤ (v : Int)) = false := by simp; omega
        have hnx := hnx.out (by rw [hx.out]; exact decide_eq_false (fun h => hl h.1))
        clear hfa hx hno hT
        go_wp2_with fail
        go_quiet ((go_at_call 57; exact hS.out _ _))
        have hD2 := W_hid (hD.out.drewN nq)
        have hq2 := W_hid (below_drewN hq.out nq)
        have hB2 : Hid (Blk (wr.drewN nq) w.heap.size 105 [.int .u64 (f : Int), .int .i64 (l : Int), .int .u64 (from_ : Int)]) := W_hid hB.out
        clear hD hq hB
        go_wp2_with fail
        go_roundw
        case rel => exact ⟨k + 1, by omega, by go_num, hnx, hD2, hB2, hq2⟩
        case measure => simp [intOf]; omega
    · obtain rfl : k = N := by omega
      have hfin : Hid (L.any (RX.inT from_ l) = false) := W_hid (by
        rw [List.any_eq_false]
        intro x hx
        obtain ⟨j, hj, rfl⟩ := List.getElem_of_mem hx
        rw [hno.out j hj (by rw [← hN'.out]; exact hj)]
        simp)
      clear hno
      go_wp2_with fail
      go_ret
      exact ⟨ret_bool hfin.out.symm, hq.out⟩

set_option maxRecDepth 100000 in
set_option maxHeartbeats 1000000 in
theorem isPerm_any (p : Int) (w : World) : Calls Tryz.prog 109 #[.int .i64 p] w fun e w' => e = .returned (.bool (decide (EN.perms p))) ∧ w = w' := by
  by_cases h1 : p = 1
  · subst h1
    have hh : Hid (decide (EN.perms 1) = true) := W_hid (by decide)
    go_enter Tryz.func109, Tryz.ntmps109
    go_wp2
    go_ret
    exact ⟨ret_bool hh.out.symm, rfl⟩
  by_cases h3 : p = 3
  · subst h3
    have hh : Hid (decide (EN.perms 3) = true) := W_hid (by decide)
    go_enter Tryz.func109, Tryz.ntmps109
    go_wp2
    go_ret
    exact ⟨ret_bool hh.out.symm, rfl⟩
  by_cases h5 : p = 5
  · subst h5
    have hh : Hid (decide (EN.perms 5) = true) := W_hid (by decide)
    go_enter Tryz.func109, Tryz.ntmps109
    go_wp2
    go_ret
    exact ⟨ret_bool hh.out.symm, rfl⟩
  by_cases h7 : p = 7
  · subst h7
    have hh : Hid (decide (EN.perms 7) = true) := W_hid (by decide)
    go_enter Tryz.func109, Tryz.ntmps109
    go_wp2
    go_ret
    exact ⟨ret_bool hh.out.symm, rfl⟩
  · have d1 : (p == 1) = false := by simpa using h1
    have d3 : (p == 3) = false := by simpa using h3
    have d5 : (p == 5) = false := by simpa using h5
    have d7 : (p == 7) = false := by simpa using h7
    have hh : Hid (decide (EN.perms p) = false) := W_hid (decide_eq_false (by unfold EN.perms; omega))
    clear h1 h3 h5 h7
    go_enter Tryz.func109, Tryz.ntmps109
    go_wp2
    go_ret
    exact ⟨ret_bool hh.out.symm, rfl⟩

theorem want_bits (want p : Int) (h0 : 0 ≤ want) (h7 : want ≤ 7) (hp : EN.perms p) : (bits BinOp.and .i64 want p != want) = (bits BinOp.andNot .i64 want p != 0) := by
  have hw : want = 0 ∨ want = 1 ∨ want = 2 ∨ want = 3 ∨ want = 4 ∨ want = 5 ∨ want = 6 ∨ want = 7 := by omega
  unfold EN.perms at hp
  rcases hp with rfl | rfl | rfl | rfl <;> rcases hw with rfl | rfl | rfl | rfl | rfl | rfl | rfl | rfl <;> decide

set_option maxRecDepth 100000 in
set_option maxHeartbeats 2000000 in
theorem rWalk_arg (g : Nat) (va : Nat) (want : Int) (w : World) (h : ¬ (va < 140737488355328 ∧ 0 ≤ want ∧ want ≤ 7)) :
    Calls Tryz.prog 55 #[.pointer (some ⟨g, 0, none⟩), .int .u64 (va : Int), .int .i64 want] w fun e w' => e = .returned (.tuple #[.int .u64 0, .int .i64 2]) ∧ w = w' := by
  by_cases h1 : va < 140737488355328
  · have d1 : decide ((140737488355328 : Int) ≤ (va : Int)) = false := by simp; omega
    by_cases h2 : want < 0
    · clear h h1
      go_enter Tryz.func55, Tryz.ntmps55
      go_wp2
      go_ret2
      exact ⟨rfl, rfl⟩
    · have h3 : 7 < want := by omega
      clear h h1
      go_enter Tryz.func55, Tryz.ntmps55
      go_wp2
      go_ret2
      exact ⟨rfl, rfl⟩
  · have d1 : decide ((140737488355328 : Int) ≤ (va : Int)) = true := by simp; omega
    clear h h1
    go_enter Tryz.func55, Tryz.ntmps55
    go_wp2
    go_ret2
    exact ⟨rfl, rfl⟩

set_option maxRecDepth 100000 in
set_option maxHeartbeats 2000000 in
theorem rWalk_yes (D : List Nat) (g pg pb n r m : Nat) (T : Nat → Bool) (lv tv : Value) (L : List RX.Pg) (Tl : List RX.Tb) (F : RX.Tabs) (G : RX.Pags) (w : World) (h : DM w D g pg pb n T lv tv L Tl) (I : RX.Inv F G r m) (hP : RX.PB L G) (va : Nat) (want : Int) (hva : va < 140737488355328) (h0 : 0 ≤ want) (h7 : want ≤ 7) :
    Calls Tryz.prog 55 #[.pointer (some ⟨g, 0, none⟩), .int .u64 (va : Int), .int .i64 want] w fun e w' => e = .returned (.tuple #[.int .u64 ((walkA G va want : Nat) : Int), .int .i64 (walkC G va want)]) ∧ Below w.heap.size w w' := by
  have hA := W_hid (at_any D g pg pb n T lv tv L Tl w h va (by omega))
  have d1 : decide ((140737488355328 : Int) ≤ (va : Int)) = false := by simp; omega
  cases hpg : RX.pg G va with
  | none =>
    have hC : Hid (walkC G va want = 26 ∧ walkA G va want = 0) := W_hid (by unfold walkC walkA; rw [hpg]; exact ⟨rfl, rfl⟩)
    rw [hP.at_none hpg] at hA
    clear hpg h hP I
    go_enter Tryz.func55, Tryz.ntmps55
    go_wp2_with fail
    refine hA.out.mono ?_
    rintro e w1 ⟨rfl, bel⟩
    have bel := W_hid bel
    unfold ixI
    go_wp2
    go_ret2
    exact ⟨by rw [hC.out.1, hC.out.2]; rfl, bel.out⟩
  | some x =>
    obtain ⟨k, f, p⟩ := x
    obtain ⟨i, hi, hil, hLi⟩ := hP.at_some I hpg
    rw [hi] at hA
    have hpp := I.page (RX.pg_some hpg).2.2
    have hprm : EN.perms p := by
      have := hpp.2.2.1.2.2.2
      rcases this with h | h
      · exact absurd h.1 (by simp)
      · exact h.2.1
    have hbits := want_bits want p h0 h7 hprm
    have H := W_hid h
    have hsz := EN.sz_pos (k - 1)
    have hmod := Nat.mod_le va (EN.sz (k - 1))
    have hmod2 := Nat.mod_lt va hsz
    have hms := EN.sz_le (k - 1) (by omega)
    have hf36 : f < 68719476736 := hpp.2.2.1.2.2.1
    cases ht : (bits BinOp.andNot IntKind.i64 want p != 0) with
    | true =>
      rw [ht] at hbits
      have hC : Hid (walkC G va want = 27 ∧ walkA G va want = 0) := W_hid (by unfold walkC walkA; rw [hpg]; simp only [ht]; exact ⟨rfl, rfl⟩)
      clear hpg hP I h hpp hprm ht
      go_enter Tryz.func55, Tryz.ntmps55
      go_wp2_with fail
      refine hA.out.mono ?_
      rintro e w1 ⟨rfl, bel⟩
      have hD := H.out.keep bel
      obtain ⟨b, o, cap, rfl, hc1, hc2, t0, t1, t2, t3, l0, l1⟩ := hD.page hil
      rw [hLi] at t0 t1 t2 t3
      simp only at t0 t1 t2 t3
      have c1 := hD.c1
      unfold maxLen at hc2
      have hi2 : (i : Int) < L.length := by omega
      clear l0 l1 hLi
      have bel := W_hid bel
      unfold ixI
      clear hD hA H
      go_wp2
      go_ret2
      exact ⟨by rw [hC.out.1, hC.out.2]; rfl, bel.out⟩
    | false =>
      rw [ht] at hbits
      have hC : Hid (walkC G va want = 0 ∧ walkA G va want = 4096 * f + va % EN.sz (k - 1)) := W_hid (by unfold walkC walkA; rw [hpg]; simp only [ht]; exact ⟨rfl, rfl⟩)
      obtain ⟨q, hq⟩ : ∃ q, q = va - va % EN.sz (k - 1) := ⟨_, rfl⟩
      rw [← hq] at hLi
      have hv : Hid ((4096 : Int) * f + ((va : Int) - q) = ((4096 * f + va % EN.sz (k - 1) : Nat) : Int)) := W_hid (by omega)
      have hq2 : q ≤ va := by omega
      clear hpg hP I h hpp hprm ht hq hmod hmod2 hsz hms
      go_enter Tryz.func55, Tryz.ntmps55
      go_wp2_with fail
      refine hA.out.mono ?_
      rintro e w1 ⟨rfl, bel⟩
      have hD := H.out.keep bel
      obtain ⟨b, o, cap, rfl, hc1, hc2, t0, t1, t2, t3, l0, l1⟩ := hD.page hil
      rw [hLi] at t0 t1 t2 t3
      simp only at t0 t1 t2 t3
      have c1 := hD.c1
      unfold maxLen at hc2
      have hi2 : (i : Int) < L.length := by omega
      clear l0 l1 hLi
      have bel := W_hid bel
      unfold ixI
      clear hD hA H
      go_wp2_with fail
      go_quiet (fail)
      go_wp2
      go_ret2
      exact ⟨by rw [hC.out.1, hC.out.2, ← hv.out]; rfl, below_drewN bel.out _⟩
end Go.Proofs.YtigbjhmodpplbaaGreatDoor

/- Rows that are owned, continued: what reads as cells, appended; rows made empty; cuts. Free of any program's numbers. -/
namespace Go.Proofs.YtigbjhmodpplbaaGreatDoor
open Go.ChangeShapes Go.WideShapes Go.ChangeAt Go.RowKit
set_option linter.unusedVariables false
set_option linter.unusedSimpArgs false
namespace Own

/-- A slice value that reads as these cells, m elements of so many. -/
def Src (w : World) (size : Nat) (u : Value) (m : Nat) (ys : List Value) : Prop :=
  (u = .slice none 0 0 ∧ m = 0 ∧ ys = []) ∨ ∃ ad c, u = .slice (some ad) m c ∧ ys.length = m * size ∧ ∀ j v, ys[j]? = some v → w.cell? (ad.add j) = some v
theorem Src.keep {w w' : World} {size m : Nat} {u : Value} {ys : List Value} (h : Src w size u m ys) (hb : Below w.heap.size w w') : Src w' size u m ys := by
  rcases h with h | ⟨ad, c, h1, h2, h3⟩
  · exact .inl h
  · exact .inr ⟨ad, c, h1, h2, fun j v hj => by rw [hb.cell (World.block_lt_of_cell? w _ (h3 j v hj))]; exact h3 j v hj⟩
theorem Src.grown {w w' : World} {size m : Nat} {u : Value} {ys : List Value} {row : Option Nat} (h : Src w size u m ys) (hg : w.grownBy w' row) (hr : ∀ ad n c, u = .slice (some ad) n c → 0 < n → some ad.block ≠ row) : Src w' size u m ys := by
  rcases h with h | ⟨ad, c, h1, h2, h3⟩
  · exact .inl h
  · refine .inr ⟨ad, c, h1, h2, fun j v hj => ?_⟩
    have hm : 0 < m := by
      rcases Nat.eq_zero_or_pos m with h0 | h0
      · subst h0
        rw [Nat.zero_mul] at h2
        rw [List.eq_nil_of_length_eq_zero h2] at hj
        cases hj
      · exact h0
    refine cellg hg (h3 j v hj) ?_
    have e : (ad.add j).block = ad.block := by unfold Addr.add; split <;> rfl
    rw [e]
    exact hr ad m c h1 hm

/-- What the model says of an element's type. -/
def Info (P : Program) (e : TypeId) (z : Value) (size bytes : Nat) : Prop := ∃ i, P.info? e = some i ∧ i.zero = some z ∧ i.size = size ∧ i.bytes = bytes ∧ z.cells.size = size ∧ 0 < size
theorem info_of {P : Program} {e : TypeId} {z : Value} {size bytes : Nat} (h : (P.info? e).map (fun i => (i.zero, i.size, i.bytes)) = some (some z, size, bytes)) (h2 : z.cells.size = size) (h3 : 0 < size) : Info P e z size bytes := by
  cases hi : P.info? e with
  | none => rw [hi] at h; cases h
  | some i =>
    rw [hi] at h
    simp only [Option.map_some, Option.some.injEq, Prod.mk.injEq] at h
    exact ⟨i, hi, h.1, h.2.1, h.2.2, h2, h3⟩

theorem run_app {P : Program} {w : World} {t ty e : TypeId} {z : Value} {size bytes : Nat} (ht : P.underlying t = some (.slice e)) (hinf : Info P e z size bytes) {base n m : Nat} {v u : Value} {xs ys : List Value}
    (hown : w.ownsRow base e size v n xs) (hbase : base ≤ w.heap.size) (hs : Src w size u m ys) (h1 : ∀ u ∈ ys, u.oneCell' = true) (h63 : n + m ≤ maxLen) (hb : (n + m) * bytes ≤ 140737488355328) :
    ∃ v' w', (Builtin.append_ #[t, t] ty #[v, u]).run P w = .ok v' w' ∧ w'.ownsRow base e size v' (n + m) (xs ++ ys) ∧ w.grownBy w' v.ownBlock ∧ (v'.ownBlock = v.ownBlock ∨ v'.ownBlock = some w.heap.size) := by
  obtain ⟨i, hi, hz, hsize, hby, hzs, hsz⟩ := hinf
  rcases hs with ⟨rfl, rfl, rfl⟩ | ⟨ad, c, rfl, hl, hc⟩
  · refine ⟨v, w, run_append_owned_none (P := P) (w := w) base t ty e i size ht hi v n xs hown, ?_, World.grownBy.refl w _, .inl rfl⟩
    simpa using hown
  · obtain ⟨v', w', h1, h2, h3, -, h5⟩ := run_append_own_at (P := P) w base t ty e i z size bytes ht hi hz hsize hby hzs hsz v n xs hown ad m c ys hl hc h1 h63 hb hbase
    exact ⟨v', w', h1, h2, h3, h5⟩
/-- 'append', as one step of a region that draws. -/
theorem step_app {P : Program} {ops : Array Oper} {o : Oper} {a : Act} {w : World} {K : Act → World → Prop} {Q : Exit → Act → World → Prop} {E : Prop}
    (hg : o.guard = none) (s x : Operand) (t : TypeId) (hop : o.op = Op.call { callee := Callee.builtin Builtin.append, args := #[s, x], argTypes := #[t, t] })
    {e : TypeId} {z : Value} {size bytes : Nat} (ht : P.underlying t = some (.slice e)) (hinf : Info P e z size bytes) {base n m : Nat} (v u : Value) {xs ys : List Value} (hs : a.eval s = v) (hx : a.eval x = u)
    (hown : w.ownsRow base e size v n xs) (hbase : base ≤ w.heap.size) (hsrc : Src w size u m ys) (h1 : ∀ u ∈ ys, u.oneCell' = true) (h63 : n + m ≤ maxLen) (hb : (n + m) * bytes ≤ 140737488355328)
    (hK : ∀ v' w', w'.ownsRow base e size v' (n + m) (xs ++ ys) → w.grownBy w' v.ownBlock → (v'.ownBlock = v.ownBlock ∨ v'.ownBlock = some w.heap.size) → K (a.put o.dst v') w') :
    if Region.wanted o (yielded ops a.tmps) = true then Oper.wp P o a w K Q else E := by
  have hw : Region.wanted o (yielded ops a.tmps) = true := by simp [Region.wanted, hg]
  rw [if_pos hw]
  obtain ⟨v', w', hrun, r1, r2, r3⟩ := run_app (ty := o.type) ht hinf hown hbase hsrc h1 h63 hb
  unfold Oper.wp
  simp [execOp, hop, resolve, invoke, builtin, hs, hx, hrun, Result.andThen]
  exact hK v' w' r1 r2 r3
/-- 'append', at the list of a plain region's operations. -/
theorem wpList_app {P : Program} {ops : Array Oper} {rest : List Oper} {o : Oper} {a : Act} {w : World} {Q : Exit → Act → World → Prop} (hgd : o.guard = none) (s x : Operand) (t : TypeId)
    (hop : o.op = Op.call { callee := Callee.builtin Builtin.append, args := #[s, x], argTypes := #[t, t] })
    {e : TypeId} {z : Value} {size bytes : Nat} (ht : P.underlying t = some (.slice e)) (hinf : Info P e z size bytes) {base n m : Nat} (v u : Value) {xs ys : List Value} (hs : a.eval s = v) (hx : a.eval x = u)
    (hown : w.ownsRow base e size v n xs) (hbase : base ≤ w.heap.size) (hsrc : Src w size u m ys) (h1 : ∀ u ∈ ys, u.oneCell' = true) (h63 : n + m ≤ maxLen) (hb : (n + m) * bytes ≤ 140737488355328)
    (hK : ∀ v' w', w'.ownsRow base e size v' (n + m) (xs ++ ys) → w.grownBy w' v.ownBlock → (v'.ownBlock = v.ownBlock ∨ v'.ownBlock = some w.heap.size) → wpList P ops Q rest (a.put o.dst v') w') : wpList P ops Q (o :: rest) a w := by
  refine wpList_plain hgd fun K' hK' => ?_
  obtain ⟨v', w', hrun, r1, r2, r3⟩ := run_app (ty := o.type) ht hinf hown hbase hsrc h1 h63 hb
  unfold Oper.wp
  simp [execOp, hop, resolve, invoke, builtin, hs, hx, hrun, Result.andThen]
  exact hK' _ _ (hK v' w' r1 r2 r3)
/-- 'make' of an empty row with room. -/
theorem make_room {P : Program} {t e : TypeId} {z : Value} {size bytes : Nat} (ht : P.underlying t = some (.slice e)) (hinf : Info P e z size bytes) (m : Nat) (zz : Int) (hzm : zz = m) (h : m * bytes ≤ 140737488355328) (h2 : m ≤ 140737488355328) :
    ∃ X : Obj, (∀ W : World, (Instr.makeSlice t (.int .i64 0) (.int .i64 zz)).run P W = .ok (.slice (some ⟨W.heap.size, 0, none⟩) 0 m) (W.alloc X)) ∧
    ∀ (W : World) (base : Nat), base ≤ W.heap.size → (W.alloc X).ownsRow base e size (.slice (some ⟨W.heap.size, 0, none⟩) 0 m) 0 [] := by
  subst hzm
  obtain ⟨i0, hi, hz0, hz1, hz2, hzs, hsz⟩ := hinf
  refine ⟨_, fun W => ?_, fun W base hb => World.ownsRow_made (size := size) W _ m hb (by unfold maxLen; omega) (size_madeCells z.cells (m * size))⟩
  have hr := run_make (P := P) W t e i0 z ht hi hz0 .i64 .i64 0 (m : Int) (Int.le_refl _) (by omega) (by rw [hz2, Int.mul_comm, ← Int.natCast_mul]; omega) (by omega)
  simp only [Int.toNat_zero, Int.toNat_natCast, hz1] at hr
  exact hr
end Own
end Go.Proofs.YtigbjhmodpplbaaGreatDoor

/- The document's own tree: a table is given back. -/
namespace Go.Proofs.YtigbjhmodpplbaaGreatDoor
open Go.ChangeShapes Go.WideShapes Go.ChangeAt Go.RowKit
set_option linter.unusedVariables false
set_option linter.unusedSimpArgs false

/-- What a call of the document's tree leaves: all blocks but its own are as they were; its new ones are its own or new. -/
structure Mv (D D' : List Nat) (w w' : World) : Prop where
  but : But D w w'
  own : ∀ x ∈ D', x ∈ D ∨ w.heap.size ≤ x
theorem Mv.refl (D : List Nat) (w : World) : Mv D D w w := ⟨But.refl _ _, fun x h => .inl h⟩
theorem Mv.trans {D D' D2 : List Nat} {w w' w2 : World} (h : Mv D D' w w') (k : Mv D' D2 w' w2) : Mv D D2 w w2 := by
  refine ⟨⟨k.but.os.trans h.but.os, k.but.tape.trans h.but.tape, k.but.output.trans h.but.output, Nat.le_trans h.but.size k.but.size, fun i hi hS => ?_⟩, fun x hx => ?_⟩
  · refine (k.but.block i (Nat.lt_of_lt_of_le hi h.but.size) fun hm => ?_).trans (h.but.block i hi hS)
    rcases h.own i hm with h1 | h1
    · exact hS h1
    · omega
  · rcases k.own x hx with h1 | h1
    · exact h.own x h1
    · exact .inr (Nat.le_trans h.but.size h1)
theorem Mv.of {D : List Nat} {w w' : World} (h : Below w.heap.size w w') : Mv D D w w' := ⟨But.of h, fun x h => .inl h⟩

theorem info_tab : Own.Info Tryz.prog 105 (.agg #[.int .u64 0, .int .i64 0, .int .u64 0]) 3 24 := Own.info_of (by kernel_rfl) rfl (by decide)
theorem info_pg : Own.Info Tryz.prog 38 (.agg #[.int .u64 0, .int .u64 0, .int .i64 0, .bool false]) 4 32 := Own.info_of (by kernel_rfl) rfl (by decide)
theorem tbc_one (l : List RX.Tb) : ∀ u ∈ tcl l, u.oneCell' = true := by
  intro u hu
  obtain ⟨x, -, hx⟩ := List.mem_flatMap.1 hu
  simp only [tbc, List.mem_cons, List.not_mem_nil, or_false] at hx
  rcases hx with rfl | rfl | rfl <;> rfl
theorem pgc_one (l : List RX.Pg) : ∀ u ∈ pcl l, u.oneCell' = true := by
  intro u hu
  obtain ⟨x, -, hx⟩ := List.mem_flatMap.1 hu
  simp only [pgc, List.mem_cons, List.not_mem_nil, or_false] at hx
  rcases hx with rfl | rfl | rfl | rfl <;> rfl

/-- A cut at the beginning. -/
theorem run_lo {P : Program} {t e : TypeId} {z : Value} {size bytes : Nat} (ht : P.underlying t = some (.slice e)) (hel : P.elem t = e) (hinf : Own.Info P e z size bytes) (b o n cap k : Nat) (kk : Int) (hkk : kk = k) (hk : k ≤ n) (hn : n ≤ cap) :
    ∃ ad : Addr, (∀ W : World, (Instr.slice t (.slice (some ⟨b, o, none⟩) n cap) (some (.int .i64 kk)) none none).run P W = .ok (.slice (some ad) (n - k) (cap - k)) W) ∧ ad.block = b ∧ (0 < n - k → ad = ⟨b, o + k * size, none⟩) := by
  subst hkk
  obtain ⟨i, hi, hz, hsize, hby, hzs, hsz⟩ := hinf
  have hs : ∀ W : World, (sizeOf (P.elem t)).run P W = .ok size W := fun W => by rw [hel]; simp [sizeOf, typeInfo, hi, hsize]
  by_cases hc : cap = k
  · refine ⟨⟨b, o, none⟩, fun W => ?_, rfl, fun h => by omega⟩
    have hr := run_slice_l (P := P) W t (some ⟨b, o, none⟩) n cap (by rw [hel]; exact ht) .i64 (k : Int) (by omega) (by omega)
    rw [hs] at hr
    simp only [Result.andThen, sliced, Int.toNat_natCast, if_pos hc] at hr
    exact hr
  · refine ⟨⟨b, o + k * size, none⟩, fun W => ?_, rfl, fun _ => rfl⟩
    have hr := run_slice_l (P := P) W t (some ⟨b, o, none⟩) n cap (by rw [hel]; exact ht) .i64 (k : Int) (by omega) (by omega)
    rw [hs] at hr
    simp only [Result.andThen, sliced, Int.toNat_natCast, if_neg hc, Option.map_some, Addr.add_lit] at hr
    exact hr
theorem run_hi {P : Program} {t e : TypeId} {z : Value} {size bytes : Nat} (ht : P.underlying t = some (.slice e)) (hel : P.elem t = e) (hinf : Own.Info P e z size bytes) (a : Option Addr) (n cap k : Nat) (hk : k ≤ n) (hn : n ≤ cap) (ha : a = none ∨ ∃ b o, a = some ⟨b, o, none⟩) :
    ∀ W : World, (Instr.slice t (.slice a n cap) none (some (.int .i64 (k : Int))) none).run P W = .ok (.slice a k cap) W := by
  obtain ⟨i, hi, hz, hsize, hby, hzs, hsz⟩ := hinf
  intro W
  have hs : (sizeOf (P.elem t)).run P W = .ok size W := by rw [hel]; simp [sizeOf, typeInfo, hi, hsize]
  have hr := run_slice_h (P := P) W t a n cap (by rw [hel]; exact ht) .i64 (k : Int) (by omega) (by omega)
  rw [hs] at hr
  simp only [Result.andThen, sliced, Int.toNat_natCast, Nat.zero_mul, Nat.sub_zero] at hr
  rw [hr]
  rcases ha with rfl | ⟨b, o, rfl⟩
  · simp
  · simp [Addr.add_lit]
theorem elem_tab : Tryz.prog.elem 71 = 105 := by kernel_rfl
theorem elem_pg : Tryz.prog.elem 47 = 38 := by kernel_rfl

/-- A row cut in two reads so. -/
theorem src_take {w : World} {base e size n : Nat} {v : Value} {xs : List Value} (h : w.ownsRow base e size v n xs) {a : Option Addr} {cap : Nat} (hv : v = .slice a n cap) (k : Nat) (hk : k ≤ n) : Own.Src w size (.slice a k cap) k (xs.take (k * size)) := by
  rcases h.2 with ⟨h1, h0⟩ | ⟨g, cap', cur, h1, hb, hg, hnc, hcm, hcs, htake⟩
  · subst h0
    obtain rfl : k = 0 := by omega
    rw [hv] at h1
    simp only [Value.slice.injEq] at h1
    obtain ⟨rfl, -, rfl⟩ := h1
    exact .inl ⟨rfl, rfl, by simp⟩
  · rw [hv] at h1
    simp only [Value.slice.injEq, true_and] at h1
    obtain ⟨rfl, rfl⟩ := h1
    refine .inr ⟨_, _, rfl, by rw [List.length_take, h.1]; exact Nat.min_eq_left (Nat.mul_le_mul_right _ hk), fun j u hu => ?_⟩
    rw [Addr.add_lit, Nat.zero_add, cell_of_row w g j cur e (0, 0) hg]
    rw [List.getElem?_take] at hu
    split at hu
    · rw [← htake, List.getElem?_take] at hu
      split at hu
      · simpa using hu
      · cases hu
    · cases hu
theorem src_drop {w : World} {base e size n : Nat} {b o cap : Nat} {xs : List Value} (h : w.ownsRow base e size (.slice (some ⟨b, o, none⟩) n cap) n xs) (k : Nat) (hk : k ≤ n) (ad : Addr) (c : Nat) (had : 0 < n - k → ad = ⟨b, o + k * size, none⟩) : Own.Src w size (.slice (some ad) (n - k) c) (n - k) (xs.drop (k * size)) := by
  have hlen : (xs.drop (k * size)).length = (n - k) * size := by rw [List.length_drop, h.1, Nat.sub_mul]
  refine .inr ⟨_, _, rfl, hlen, fun j u hu => ?_⟩
  rcases Nat.eq_zero_or_pos (n - k) with h0 | h0
  · rw [h0, Nat.zero_mul] at hlen
    rw [List.eq_nil_of_length_eq_zero hlen] at hu; cases hu
  · rw [had h0]
    rcases h.2 with ⟨h1, _⟩ | ⟨g, cap', cur, h1, hb, hg, hnc, hcm, hcs, htake⟩
    · simp at h1
    · simp only [Value.slice.injEq, Option.some.injEq, Addr.mk.injEq, and_true, true_and] at h1
      obtain ⟨⟨rfl, rfl⟩, rfl⟩ := h1
      rw [Addr.add_lit, Nat.zero_add, cell_of_row w b _ cur e (0, 0) hg]
      rw [List.getElem?_drop, ← htake, List.getElem?_take] at hu
      split at hu
      · simpa using hu
      · cases hu

theorem But.mono {S S' : List Nat} {w w' : World} (h : But S w w') (hs : ∀ x ∈ S, x ∈ S') : But S' w w' := ⟨h.os, h.tape, h.output, h.size, fun k hk hS => h.block k hk fun hm => hS (hs k hm)⟩
/-- The pool was written. -/
theorem DM.pool {w w' : World} {D : List Nat} {g pg pb n : Nat} {T T' : Nat → Bool} {lv tv : Value} {L : List RX.Pg} {Tl : List RX.Tb} (h : DM w D g pg pb n T lv tv L Tl) (hr : RL w' pg pb n T') (t : Two pg pb w w') : DM w' D g pg pb n T' lv tv L Tl := by
  have hb : But [pg, pb] w w' := But.two t (by simp) (by simp)
  exact ⟨h.box.two t h.gp h.gb, own_but h.lo hb (fun x hx => by have := h.ld x hx; simp; omega), own_but h.trow hb (fun x hx => by have := h.td x hx; simp; omega), hr, h.dg, h.dp, h.db, h.gp, h.gb, h.ld, h.td, h.llt, h.tlt⟩
/-- The tables are another list, in a row of its own. -/
theorem DM.newT {w w' : World} {D : List Nat} {g pg pb n : Nat} {T : Nat → Bool} {lv tv tv' : Value} {L : List RX.Pg} {Tl Tl' : List RX.Tb} (h : DM w D g pg pb n T lv tv L Tl) (hb : Below w.heap.size w w') (ho : w'.ownsRow w.heap.size 105 3 tv' Tl'.length (tcl Tl')) (ht : ∀ x ∈ Tl', x ∈ Tl) :
    ∃ D', DM (w'.setCell ⟨g, 2, none⟩ tv') D' g pg pb n T lv tv' L Tl' ∧ Mv D D' w (w'.setCell ⟨g, 2, none⟩ tv') := by
  have k := h.keep hb
  have hgl := h.box.lt
  have hpl := h.rl.box.lt
  have hbl := h.rl.row.lt
  have hge := fun x hx => Own.ge ho x hx
  refine ⟨tv'.ownBlock.toList ++ D, ⟨k.box.set 2 tv', ?_, ?_, ?_, by simp [h.dg], by simp [h.dp], by simp [h.db], h.gp, h.gb, fun x hx => ?_, fun x hx => ?_, h.llt, fun x hx => h.tlt x (ht x hx)⟩, ⟨?_, ?_⟩⟩
  · exact own_but (S := [g]) k.lo (But.set (But.refl _ _) (.inl (by simp)) _) (fun x hx => by have := (h.ld x hx).2.1; simpa using this)
  · exact own_but (S := [g]) (Own.low (Nat.zero_le _) ho) (But.set (But.refl _ _) (.inl (by simp)) _) (fun x hx => by have := hge x hx; simp; omega)
  · exact k.rl.but (S := [g]) (But.set (But.refl _ _) (.inl (by simp)) _) (by have := h.gp; simp; omega) (by have := h.gb; simp; omega)
  · obtain ⟨a1, a2, a3, a4, -⟩ := h.ld x hx
    refine ⟨by simp [a1], a2, a3, a4, fun e => ?_⟩
    have h1 := hge x e
    have h2 := own_lt h.lo x hx
    omega
  · have h1 := hge x hx
    exact ⟨by rw [hx]; simp, by omega, by omega, by omega⟩
  · exact ((But.refl D w).low hb).set (.inl h.dg) _
  · intro x hx
    rw [List.mem_append] at hx
    rcases hx with hx | hx
    · rw [Option.mem_toList] at hx
      exact .inr (hge x hx)
    · exact .inl hx

set_option maxRecDepth 100000 in
set_option maxHeartbeats 8000000 in
theorem drop_any (D : List Nat) (g pg pb n : Nat) (T : Nat → Bool) (lv tv : Value) (L : List RX.Pg) (Tl : List RX.Tb) (w : World) (h : DM w D g pg pb n T lv tv L Tl) (i f l a : Nat) (hi : i < Tl.length) (he : Tl[i] = (f, l, a)) (hf : f < n) (hTf : T f = true) (hlen : Tl.length ≤ 100000) :
    Calls Tryz.prog 106 #[.pointer (some ⟨g, 0, none⟩), .int .i64 (i : Int)] w fun e w' => e = .returned (.tuple #[]) ∧ ∃ D' tv', DM w' D' g pg pb n (FR.st T f 1 false) lv tv' L (RX.cutAt Tl i) ∧ Mv D D' w w' := by
  obtain ⟨b, o, cap, rfl, hc1, hc2, t0, t1, t2, l0, l1, l2, l3⟩ := h.tab hi
  rw [he] at t0 l0
  simp only at t0 l0
  have c0 := h.c0
  have c2 := h.c2
  have hF := W_hid (fun w h => rFree_any pg pb n f T _ 1 0 w h (by omega) (puts_one hf hTf))
  have hb := h.td b rfl
  have hbl := cell_lt t0
  have hmo := Own.make_room Tryz.underlying71 info_tab Tl.length (Tl.length : Int) rfl (by omega) (by omega)
  obtain ⟨X, hmk, hmo⟩ := hmo
  obtain ⟨ad, hlo, had1, had2⟩ := run_lo Tryz.underlying71 elem_tab info_tab b o Tl.length cap (i + 1) ((i : Int) + 1) (by omega) (by omega) hc1
  have hhi := run_hi Tryz.underlying71 elem_tab info_tab (some ⟨b, o, none⟩) Tl.length cap i (by omega) hc1 (.inr ⟨_, _, rfl⟩)
  have hwr : IntKind.i64.wrap ((i : Int) + 1) = (i : Int) + 1 := IntWalk.i64_in _ (by omega)
  have hi2 : (i : Int) < Tl.length := by omega
  have hi3 : (i : Int) + 1 ≤ Tl.length := by omega
  have H := W_hid h
  have hHi := W_hid (fun (W : World) (ho : W.ownsRow 0 105 3 (.slice (some ⟨b, o, none⟩) Tl.length cap) Tl.length (tcl Tl)) => src_take ho rfl i (by omega))
  have hLo := W_hid (fun (W : World) (ho : W.ownsRow 0 105 3 (.slice (some ⟨b, o, none⟩) Tl.length cap) Tl.length (tcl Tl)) => src_drop ho (i + 1) (by omega) ad (cap - (i + 1)) had2)
  have hcut : Hid ([] ++ (tcl Tl).take (i * 3) ++ (tcl Tl).drop ((i + 1) * 3) = tcl (RX.cutAt Tl i) ∧ 0 + i + (Tl.length - (i + 1)) = (RX.cutAt Tl i).length) := by
    refine ⟨?_, by rw [RX.cutAt_length Tl i hi]; omega⟩
    unfold tcl RX.cutAt
    rw [flat_take tbc 3 tbc_len, flat_drop tbc 3 tbc_len, List.flatMap_append, List.nil_append]
  have hsub : Hid (∀ x ∈ RX.cutAt Tl i, x ∈ Tl) := W_hid (fun x hx => (RX.cutAt_sub Tl i).subset hx)
  unfold maxLen at hc2
  replace hmo := W_hid hmo
  replace he := W_hid he
  obtain ⟨adb, ado, ads⟩ := ad
  simp only at had1
  obtain rfl := had1.symm
  have hb := W_hid hb
  have hbl := W_hid hbl
  have hone := W_hid (tbc_one Tl)
  obtain ⟨N, hN⟩ : ∃ N, Tl.length = N := ⟨_, rfl⟩
  rw [hN] at hmk hlo hhi hi2 hi3 hc1 hmo c2 hi hlen hHi hLo hcut H
  have hN' := W_hid hN
  clear h t1 t2 l1 l2 l3 hN had2
  go_enter Tryz.func106, Tryz.ntmps106
  go_wp2_with fail
  go_region_held3 (fun w' => w'.cell? ⟨g, 0, none⟩ = some (.pointer (some ⟨pg, 0, none⟩)) ∧ w'.cell? ⟨g, 2, none⟩ = some (.slice (some ⟨b, o, none⟩) N cap) ∧ w'.cell? ⟨b, o + i * 3, none⟩ = some (.int .u64 (f : Int))) (first | assumption | go_keep)
    (first | (go_at_call 157; refine (hF.out _ (H.out.drewN 1).rl).mono ?_; rintro e w1 ⟨rfl, hR1, tt1⟩;
              have hD1 := W_hid ((H.out.drewN 1).pool hR1 tt1);
              have b1 := W_hid (But.undrew (n := 1) (But.two (S := [pg, pb]) tt1 (by simp) (by simp)));
              have x0 := hD1.out.c0; have x2 := hD1.out.c2;
              have x3 : w1.cell? ⟨b, o + i * 3, none⟩ = some (.int .u64 (f : Int)) := (World.cell?_of_block (w := w.drewN 1) (tt1.block b hbl.out hb.out.2.2.1 hb.out.2.2.2)).trans t0; clear tt1 hR1))
  clear c0 c2 t0 x0 x3 hF
  have xa : ∀ ob, (w1.alloc ob).cell? ⟨g, 2, none⟩ = some (.slice (some ⟨b, o, none⟩) N cap) := fun ob => (hD1.out.box.alloc ob).cell rfl
  have A1 : Hid ((w1.alloc X).drew.ownsRow w1.heap.size 105 3 (.slice (some ⟨w1.heap.size, 0, none⟩) 0 N) 0 []) := W_hid (hmo.out w1 w1.heap.size (Nat.le_refl _))
  have S1 := W_hid ((hHi.out w1 (by have t := hD1.out.trow; rw [hN'.out] at t; exact t)).keep (((Below.refl _ _).alloc (Nat.le_refl _) X).drew))
  have S2 := W_hid ((hLo.out w1 (by have t := hD1.out.trow; rw [hN'.out] at t; exact t)).keep (((Below.refl _ _).alloc (Nat.le_refl _) X).drew))
  have hbl1 : Hid (b < w1.heap.size) := W_hid (own_lt hD1.out.trow b rfl)
  have hgl1 : Hid (g < w1.heap.size) := W_hid hD1.out.box.lt
  have hone1 : Hid (∀ u ∈ (tcl Tl).take (i * 3), u.oneCell' = true) := W_hid (fun u hu => hone.out u (List.mem_of_mem_take hu))
  have hone2 : Hid (∀ u ∈ (tcl Tl).drop ((i + 1) * 3), u.oneCell' = true) := W_hid (fun u hu => hone.out u (List.mem_of_mem_drop hu))
  have hend := W_hid (fun (w3 : World) (v3 : Value) (hb : Below w1.heap.size w1 w3) (ho : w3.ownsRow w1.heap.size 105 3 v3 (RX.cutAt Tl i).length (tcl (RX.cutAt Tl i))) => hD1.out.newT hb ho hsub.out)
  clear hmo hHi hLo hone hsub
  go_wp2_with fail
  go_region_law (first
    | (refine Own.step_app rfl (.tmp 23) (.tmp 29) 71 rfl Tryz.underlying71 info_tab (.slice (some ⟨w1.heap.size, 0, none⟩) 0 N) (.slice (some ⟨b, o, none⟩) i cap) rfl rfl A1.out (by simp) S1.out hone1.out (by unfold maxLen; omega) (by omega) ?_
       intro v2 w2 ho2 hg2 hob2
       have A2 := W_hid ho2
       have S3 := W_hid (Own.Src.grown S2.out hg2 (fun ad n c e _ => by simp only [Value.slice.injEq, Option.some.injEq] at e; have := hbl1.out; obtain ⟨rfl, -, -⟩ := e; simp [Value.ownBlock]; omega))
       have x2b : w2.cell? ⟨g, 2, none⟩ = some (.slice (some ⟨b, o, none⟩) N cap) := Own.cellg hg2 (xa X) (by have := hgl1.out; simp [Value.ownBlock]; omega)
       have B2 := W_hid ((((Below.refl w1.heap.size w1).alloc (Nat.le_refl _) X).drew).grown hg2 (by simp) (fun j hj => Own.ge A1.out j hj))
       clear ho2 hg2 hob2)
    | (refine Own.step_app rfl (.tmp 30) (.tmp 37) 71 rfl Tryz.underlying71 info_tab v2 (.slice (some ⟨b, ado, ads⟩) (N - (i + 1)) (cap - (i + 1))) rfl rfl A2.out B2.out.size S3.out hone2.out (by unfold maxLen; omega) (by omega) ?_
       intro v3 w3 ho3 hg3 hob3
       obtain ⟨a3, c3, rfl⟩ := Own.form ho3
       have B3 := W_hid (B2.out.grown hg3 B2.out.size (fun k h => Own.ge A2.out k h))
       have A3 := W_hid ho3
       have bx3 := hD1.out.box.below B3.out hgl1.out
       have x3b := bx3.cell (j := 2) rfl
       have f3b := bx3.fz
       clear ho3 hg3 hob3 bx3))
  all_goals
    go_end0
    have ho3 := A3.out
    have e2 := hcut.out.2
    rw [hcut.out.1] at ho3
    simp only [Nat.zero_add] at ho3 e2
    rw [e2] at ho3
    rw [e2]
    obtain ⟨D', hD', hM'⟩ := hend.out w3 _ B3.out ho3
    exact ⟨rfl, D', _, hD', Mv.trans ⟨But.mono b1.out (by have := H.out.dp; have := H.out.db; intro x hx; simp at hx; rcases hx with rfl | rfl <;> assumption), fun x hx => .inl hx⟩ hM'⟩
end Go.Proofs.YtigbjhmodpplbaaGreatDoor

/- The document's own tree: New, Protect. -/
namespace Go.Proofs.YtigbjhmodpplbaaGreatDoor
open Go.ChangeShapes Go.WideShapes Go.ChangeAt Go.RowKit
set_option linter.unusedVariables false
set_option linter.unusedSimpArgs false

set_option maxRecDepth 100000 in
set_option maxHeartbeats 1000000 in
theorem rNew_tree (pg pb n f : Nat) (T : Nat → Bool) (w : World) (h : RL w pg pb n T) (hn : n ≤ 65536) (hlow : FR.Low T n 1 f) :
    Calls Tryz.prog 14 #[.pointer (some ⟨pg, 0, none⟩)] w fun e w' => ∃ g tv D, e = .returned (.tuple #[.pointer (some ⟨g, 0, none⟩), .int .i64 0]) ∧ DM w' D g pg pb n (FR.st T f 1 true) (.slice none 0 0) tv [] [(f, 4, 0)] ∧ But [pg, pb] w w' ∧ ∀ x ∈ D, x = pg ∨ x = pb ∨ w.heap.size ≤ x := by
  have hA := W_hid (fun w h => rAlloc_any pg pb n T _ 1 f 0 w h (gets_one hlow))
  have hf := (low_one hlow).1
  have hl1 := h.box.lt
  have hl2 := h.row.lt
  have H := W_hid h
  clear h
  go_enter Tryz.func14, Tryz.ntmps14
  go_wp2_with fail
  refine (hA.out _ H.out).mono ?_
  rintro e w1 ⟨rfl, hR, t1⟩
  have hR := W_hid hR
  have t1 := W_hid t1
  have hs1 := t1.out.size
  have hto := World.ownsRow_lit (base := 0) (e := 105) (size := 3) w1 #[.int .u64 (f : Int), .int .i64 4, .int .u64 0] 1 (Nat.zero_le _) (by decide) rfl
  have hto2 := W_hid (hto.alloc (.cells #[.pointer (some ⟨pg, 0, none⟩), .slice none 0 0, .slice (some ⟨w1.heap.size, 0, none⟩) 1 1] 73))
  have hbx : Hid (Blk ((w1.alloc (.cells #[.int .u64 (f : Int), .int .i64 4, .int .u64 0] 105)).alloc (.cells #[.pointer (some ⟨pg, 0, none⟩), .slice none 0 0, .slice (some ⟨w1.heap.size, 0, none⟩) 1 1] 73)) (w1.heap.size + 1) 73 [.pointer (some ⟨pg, 0, none⟩), .slice none 0 0, .slice (some ⟨w1.heap.size, 0, none⟩) 1 1]) := W_hid (Blk.new _ _ _ (by simp))
  clear hto
  go_wp2
  go_ret2
  have hb : Below w1.heap.size w1 ((w1.alloc (.cells #[.int .u64 (f : Int), .int .i64 4, .int .u64 0] 105)).alloc (.cells #[.pointer (some ⟨pg, 0, none⟩), .slice none 0 0, .slice (some ⟨w1.heap.size, 0, none⟩) 1 1] 73)) := ((Below.refl _ _).alloc (Nat.le_refl _) _).alloc (by simp) _
  refine ⟨w1.heap.size + 1, .slice (some ⟨w1.heap.size, 0, none⟩) 1 1, [w1.heap.size + 1, pg, pb, w1.heap.size], rfl, ⟨hbx.out, World.ownsRow_nil _ _ _ _, hto2.out, ?_, by simp, by simp, by simp, by omega, by omega, fun x hx => (by cases hx), fun x hx => ?_, fun x hx => (by cases hx), fun x hx => ?_⟩, (But.two t1.out (by simp) (by simp)).keep hb, fun x hx => ?_⟩
  · exact ⟨hR.out.box.keep hb, hR.out.row.keep hb, hR.out.ne, hR.out.n1, hR.out.n2⟩
  · obtain rfl : w1.heap.size = x := Option.some.inj hx
    refine ⟨by simp, by omega, by omega, by omega⟩
  · simp only [List.mem_singleton] at hx
    subst hx
    exact ⟨by show f < 65536; omega, by show 1 ≤ 4; omega, by show 4 ≤ 4; omega, by show 0 < _; omega⟩
  · simp at hx
    rcases hx with rfl | rfl | rfl | rfl
    · exact .inr (.inr (by omega))
    · exact .inl rfl
    · exact .inr (.inl rfl)
    · exact .inr (.inr (by omega))

theorem flat_set {α : Type} (c : α → List Value) (k : Nat) (hc : ∀ x, (c x).length = k) : ∀ (l : List α) (i m : Nat) (x : α) (v : Value) (hi : i < l.length), m < k → c x = (c l[i]).set m v → (l.set i x).flatMap c = (l.flatMap c).set (i * k + m) v
  | [], i, m, x, v, hi, _, _ => absurd hi (by simp)
  | y :: l, 0, m, x, v, hi, hm, h => by
    rw [List.set_cons_zero, List.flatMap_cons, List.flatMap_cons, Nat.zero_mul, Nat.zero_add, List.set_append_left _ _ (by rw [hc]; exact hm), h]
    rfl
  | y :: l, i + 1, m, x, v, hi, hm, h => by
    rw [List.set_cons_succ, List.flatMap_cons, List.flatMap_cons, List.set_append_right _ _ (by rw [hc, Nat.succ_mul]; omega), hc, flat_set c k hc l i m x v (by simpa using hi) hm h]
    rw [show (i + 1) * k + m - k = i * k + m by rw [Nat.succ_mul]; omega]

section
variable {w w' : World} {D : List Nat} {g pg pb n : Nat} {T : Nat → Bool} {lv tv : Value} {L : List RX.Pg} {Tl : List RX.Tb}
/-- A page's permissions are written. -/
theorem DM.perm (h : DM w D g pg pb n T lv tv L Tl) {i b o cap v f : Nat} {p q : Int} {u : Bool} (hi : i < L.length) (hx : L[i] = (v, f, p, u)) (hv : lv = .slice (some ⟨b, o, none⟩) L.length cap) :
    DM (w.setCell ⟨b, o + i * 4 + 2, none⟩ (.int .i64 q)) D g pg pb n T lv tv (L.set i (v, f, q, u)) Tl ∧ b ∈ D ∧ w.frozen? ⟨b, o + i * 4 + 2, none⟩ = false := by
  obtain ⟨b', cap', hv'⟩ : ∃ b' cap', lv = .slice (some ⟨b', 0, none⟩) L.length cap' := by
    rcases h.lo.2 with ⟨_, h0⟩ | ⟨g', cap', cur, h1, _⟩
    · omega
    · exact ⟨_, _, h1⟩
  have e := hv.symm.trans hv'
  simp only [Value.slice.injEq, Option.some.injEq, Addr.mk.injEq, and_true, true_and] at e
  obtain ⟨⟨rfl, rfl⟩, rfl⟩ := e
  have hob : lv.ownBlock = some b := by rw [hv]; rfl
  have hd := h.ld b hob
  have ho := h.lo
  rw [hv] at ho
  have hst := (ho.stored (i * 4 + 2) (.int .i64 q)).1
  have e2 : pcl (L.set i (v, f, q, u)) = (pcl L).set (i * 4 + 2) (.int .i64 q) := flat_set pgc 4 pgc_len L i 2 _ _ hi (by omega) (by rw [hx]; rfl)
  have hbut : But [b] w (w.setCell ⟨b, i * 4 + 2, none⟩ (.int .i64 q)) := (But.refl _ _).set (.inl (by simp)) _
  rw [show 0 + i * 4 + 2 = i * 4 + 2 by omega]
  refine ⟨⟨h.box.but hbut (by simp; omega), ?_, own_but h.trow hbut (fun x hx => ?_), h.rl.but hbut (by simp; omega) (by simp; omega), h.dg, h.dp, h.db, h.gp, h.gb, h.ld, h.td, fun x hm => ?_, h.tlt⟩, hd.1, ho.frozenAt _⟩
  · rw [e2, List.length_set, hv]
    exact hst
  · intro hm
    simp only [List.mem_singleton] at hm
    subst hm
    exact hd.2.2.2.2 hx
  · have hl := h.llt _ (List.getElem_mem hi)
    rw [hx] at hl
    rcases List.mem_or_eq_of_mem_set hm with hm | rfl
    · exact h.llt x hm
    · exact hl
/-- The pages are another list, in a row of its own. -/
theorem DM.newL {lv' : Value} {L' : List RX.Pg} (h : DM w D g pg pb n T lv tv L Tl) (hb : Below w.heap.size w w') (ho : w'.ownsRow w.heap.size 38 4 lv' L'.length (pcl L')) (ht : ∀ x ∈ L', x.1 < 140737488355328 ∧ x.2.1 < 68719476736) :
    ∃ D', DM (w'.setCell ⟨g, 1, none⟩ lv') D' g pg pb n T lv' tv L' Tl ∧ Mv D D' w (w'.setCell ⟨g, 1, none⟩ lv') := by
  have k := h.keep hb
  have hgl := h.box.lt
  have hpl := h.rl.box.lt
  have hbl := h.rl.row.lt
  have hge := fun x hx => Own.ge ho x hx
  refine ⟨lv'.ownBlock.toList ++ D, ⟨k.box.set 1 lv', ?_, ?_, ?_, by simp [h.dg], by simp [h.dp], by simp [h.db], h.gp, h.gb, fun x hx => ?_, fun x hx => ?_, ht, h.tlt⟩, ⟨?_, ?_⟩⟩
  · exact own_but (S := [g]) (Own.low (Nat.zero_le _) ho) (But.set (But.refl _ _) (.inl (by simp)) _) (fun x hx => by have := hge x hx; simp; omega)
  · exact own_but (S := [g]) k.trow (But.set (But.refl _ _) (.inl (by simp)) _) (fun x hx => by have := (h.td x hx).2.1; simpa using this)
  · exact k.rl.but (S := [g]) (But.set (But.refl _ _) (.inl (by simp)) _) (by have := h.gp; simp; omega) (by have := h.gb; simp; omega)
  · have h1 := hge x hx
    refine ⟨by rw [hx]; simp, by omega, by omega, by omega, fun e => ?_⟩
    have h2 := own_lt h.trow x e
    omega
  · obtain ⟨a1, a2, a3, a4⟩ := h.td x hx
    exact ⟨by simp [a1], a2, a3, a4⟩
  · exact ((But.refl D w).low hb).set (.inl h.dg) _
  · intro x hx
    rw [List.mem_append] at hx
    rcases hx with hx | hx
    · rw [Option.mem_toList] at hx
      exact .inr (hge x hx)
    · exact .inl hx
end

set_option maxRecDepth 100000 in
set_option maxHeartbeats 1000000 in
theorem rProt_arg (g va : Nat) (perm : Int) (w : World) (hno : ¬ (va < 140737488355328 ∧ EN.perms perm)) :
    Calls Tryz.prog 54 #[.pointer (some ⟨g, 0, none⟩), .int .u64 (va : Int), .int .i64 perm] w fun e w' => e = .returned (.int .i64 2) ∧ w = w' := by
  have hP := W_hid (isPerm_any perm w)
  by_cases h1 : va < 140737488355328
  · have d1 : decide ((140737488355328 : Int) ≤ (va : Int)) = false := by simp; omega
    rw [decide_eq_false (fun h => hno ⟨h1, h⟩)] at hP
    clear hno h1
    go_enter Tryz.func54, Tryz.ntmps54
    go_wp2_with fail
    refine hP.out.mono ?_
    rintro e w1 ⟨rfl, rfl⟩
    go_wp2
    go_ret
    exact ⟨rfl, rfl⟩
  · have d1 : decide ((140737488355328 : Int) ≤ (va : Int)) = true := by simp; omega
    generalize decide (EN.perms perm) = t at hP
    clear hno h1
    go_enter Tryz.func54, Tryz.ntmps54
    go_wp2_with fail
    refine hP.out.mono ?_
    rintro e w1 ⟨rfl, rfl⟩
    go_wp2
    go_ret
    exact ⟨rfl, rfl⟩

set_option maxRecDepth 100000 in
set_option maxHeartbeats 2000000 in
theorem rProt_yes (D : List Nat) (g pg pb n r m : Nat) (T : Nat → Bool) (lv tv : Value) (L : List RX.Pg) (Tl : List RX.Tb) (F : RX.Tabs) (G G' : RX.Pags) (w : World) (h : DM w D g pg pb n T lv tv L Tl) (I : RX.Inv F G r m) (hP : RX.PB L G) (va : Nat) (perm c : Int) (hva : va < 140737488355328) (hp : EN.perms perm) (hR : ProtR G va perm c G') :
    Calls Tryz.prog 54 #[.pointer (some ⟨g, 0, none⟩), .int .u64 (va : Int), .int .i64 perm] w fun e w' => e = .returned (.int .i64 c) ∧ ∃ L', DM w' D g pg pb n T lv tv L' Tl ∧ RX.PB L' G' ∧ L'.length = L.length ∧ Mv D D w w' := by
  have hA := W_hid (at_any D g pg pb n T lv tv L Tl w h va (by omega))
  have hQ := W_hid (isPerm_any perm w)
  rw [decide_eq_true hp] at hQ
  have d1 : decide ((140737488355328 : Int) ≤ (va : Int)) = false := by simp; omega
  have H := W_hid h
  cases hR with
  | none hpg =>
    rw [hP.at_none hpg] at hA
    replace hP := W_hid hP
    clear hpg h I
    go_enter Tryz.func54, Tryz.ntmps54
    go_wp2_with fail
    refine hQ.out.mono ?_
    rintro e w1 ⟨rfl, rfl⟩
    go_wp2_with fail
    refine hA.out.mono ?_
    rintro e w1 ⟨rfl, bel⟩
    have bel := W_hid bel
    unfold ixI
    go_wp2
    go_ret
    exact ⟨rfl, L, H.out.keep bel.out, hP.out, rfl, Mv.of bel.out⟩
  | done k f p hpg =>
    obtain ⟨i, hi, hil, hLi⟩ := hP.at_some I hpg
    rw [hi] at hA
    obtain ⟨k1, k2, hg⟩ := RX.pg_some hpg
    have hN := W_hid (RX.PB.put I hP (q := perm) hil ⟨k1, k2⟩ hg (by rw [hLi, RX.sub_mod]))
    have hpm := W_hid (fun w (h : DM w D g pg pb n T lv tv L Tl) b o cap hv => h.perm (q := perm) (b := b) (o := o) (cap := cap) hil hLi hv)
    rw [RX.sub_mod] at hpm
    clear hpg h I hP hi hLi
    go_enter Tryz.func54, Tryz.ntmps54
    go_wp2_with fail
    refine hQ.out.mono ?_
    rintro e w1 ⟨rfl, rfl⟩
    go_wp2_with fail
    refine hA.out.mono ?_
    rintro e w1 ⟨rfl, bel⟩
    have hD := H.out.keep bel
    obtain ⟨b, o, cap, hlv, hc1, hc2, -, -, t2, -, -, -⟩ := hD.page hil
    obtain ⟨hD2, hbD, hfz⟩ := hpm.out w1 hD b o cap hlv
    have c1 := hD.c1
    have hD2 := W_hid hD2
    have hbD := W_hid hbD
    subst hlv
    unfold maxLen at hc2
    have hi2 : (i : Int) < L.length := by omega
    have bel := W_hid bel
    unfold ixI
    clear hD hA H hpm
    go_wp2
    go_ret
    exact ⟨rfl, _, hD2.out, hN.out, by rw [List.length_set], (Mv.of bel.out).trans ⟨(But.refl _ _).set (.inl hbD.out) _, fun x hx => .inl hx⟩⟩
end Go.Proofs.YtigbjhmodpplbaaGreatDoor

namespace Go.Proofs.YtigbjhmodpplbaaGreatDoor
open Go.ChangeShapes Go.WideShapes Go.ChangeAt Go.RowKit
set_option linter.unusedVariables false
set_option linter.unusedSimpArgs false

theorem place_lt {F : RX.Tabs} {G : RX.Pags} {r n : Nat} (I : RX.Inv F G r n) : ∀ (d l j f : Nat), l + d = 4 → F l j = some f → j < 512 ^ d
  | 0, l, j, f, hl, h => by
    have := (I.lev h).2.2.1 (by omega)
    subst this; decide
  | d + 1, l, j, f, hl, h => by
    obtain ⟨f', h'⟩ := I.up h (by omega)
    have := place_lt I d (l + 1) (j / 512) f' (by omega) h'
    rw [Nat.pow_succ]
    omega
theorem sz_pow : ∀ (d l : Nat), EN.sz (l + d) = EN.sz l * 512 ^ d
  | 0, l => by simp
  | d + 1, l => by rw [show l + (d + 1) = (l + d) + 1 by omega, EN.sz_succ, sz_pow d l, Nat.pow_succ, Nat.mul_assoc]
theorem place_top {F : RX.Tabs} {G : RX.Pags} {r n l j f : Nat} (I : RX.Inv F G r n) (h : F l j = some f) : j * EN.sz l + EN.sz l ≤ 281474976710656 := by
  have hl := I.lev h
  have h1 := place_lt I (4 - l) l j f (by omega) h
  have h2 := sz_pow (4 - l) l
  rw [show l + (4 - l) = 4 by omega] at h2
  have h3 : (j + 1) * EN.sz l ≤ 512 ^ (4 - l) * EN.sz l := Nat.mul_le_mul_right _ h1
  rw [Nat.mul_comm (512 ^ (4 - l)), ← h2, Nat.add_mul, Nat.one_mul] at h3
  exact Nat.le_trans h3 (EN.sz_le 4 (Nat.le_refl _))
theorem pcl_append (a b : List RX.Pg) : pcl (a ++ b) = pcl a ++ pcl b := List.flatMap_append
theorem src_own {w : World} {base e size n : Nat} {v : Value} {xs : List Value} (h : w.ownsRow base e size v n xs) : Own.Src w size v n xs := by
  obtain ⟨a, cap, hv, -, -⟩ := own_lens h
  have := src_take h hv n (Nat.le_refl _)
  rw [← hv, List.take_of_length_le (by rw [h.1]; exact Nat.le_refl _)] at this
  exact this

/-- What under says of a table. -/
def Unders (g pg r b : Nat) (M : Nat → Option (Nat → Nat)) (F : RX.Tabs) (G : RX.Pags) (l : Nat) : Prop := ∀ (j f : Nat) (z : Int), F l j = some f → z = ((j * EN.sz l : Nat) : Int) → ∀ w, TM w g pg r b M →
    Calls Tryz.prog 62 #[.pointer (some ⟨g, 0, none⟩), .int .u64 (f : Int), .int .i64 (l : Int), .int .u64 z] w fun e w' => ∃ v, e = .returned v ∧ w'.ownsRow w.heap.size 38 4 v (RX.und F G l j).length (pcl (RX.und F G l j)) ∧ Below w.heap.size w w'

set_option maxRecDepth 100000 in
set_option maxHeartbeats 4000000 in
theorem under_step (g pg r b n : Nat) (M : Nat → Option (Nat → Nat)) (F : RX.Tabs) (G : RX.Pags) (I : RX.Inv F G r n) (R : RX.Rep M F G) (l : Nat) (h4 : l + 1 ≤ 4) (ih : Unders g pg r b M F G l) : Unders g pg r b M F G (l + 1) := by
  intro j f z hF hz w h
  obtain ⟨ws, hM, hws⟩ := R.yes hF
  have hf := (I.lev hF).2.2.2
  have hn := I.n2
  have htop := place_top I hF
  have hsz : EN.sz (l + 1) = EN.sz l * 512 := EN.sz_succ l
  have hlk := h.mb.look f (by omega)
  rw [hM] at hlk
  change (Instr.lookup 110 (.map (some b)) (.int .u64 (f : Int)) false).run Tryz.prog w = .ok (.agg (tw ws).toArray) w at hlk
  have c2 := h.box.cell (j := 2) rfl
  have hix := W_hid (fun k hk w => tw_index ws k hk w)
  have hSp := W_hid (fun w => span_any (l + 1) (by omega) h4 w)
  rw [Nat.add_sub_cancel] at hSp
  have hDc := W_hid (fun c (hc : c / 512 = j) w hk => decode_word (l := l + 1) (c := c) (f0 := f) I (by rw [hc]; exact hF) w hk)
  have hMp := W_hid mapping_any
  have H := W_hid h
  obtain ⟨A, hA⟩ : ∃ A, A = j * EN.sz (l + 1) := ⟨_, rfl⟩
  obtain ⟨S, hS⟩ : ∃ S, S = EN.sz l := ⟨_, rfl⟩
  have hAS : Hid (∀ k, (512 * j + k) * S = A + k * S) := W_hid (fun k => by rw [hA, hS, hsz, Nat.add_mul, Nat.mul_comm (EN.sz l) 512, ← Nat.mul_assoc, Nat.mul_comm 512 j])
  rw [← hA, hsz, ← hS] at htop
  rw [← hA] at hz
  subst hz
  rw [← hS] at hSp
  obtain ⟨T0, hT0⟩ : ∃ T0, T0 = (tw ws).toArray := ⟨_, rfl⟩
  rw [← hT0] at hlk hix
  have hun : Hid (∀ k, (List.range (k + 1)).flatMap (fun i => RX.one F G (RX.und F G l) (l + 1) (512 * j + i)) = (List.range k).flatMap (fun i => RX.one F G (RX.und F G l) (l + 1) (512 * j + i)) ++ RX.one F G (RX.und F G l) (l + 1) (512 * j + k)) := W_hid (fun k => by
    rw [List.range_succ, List.flatMap_append]; simp)
  have hle : Hid (∀ k, k ≤ 512 → ((List.range k).flatMap (fun i => RX.one F G (RX.und F G l) (l + 1) (512 * j + i))).length ≤ 68719476736) := W_hid (fun k hk => by
    have h1 := RX.flat_le (fun i => RX.one F G (RX.und F G l) (l + 1) (512 * j + i)) (512 ^ l) (fun i => RX.one_le (RX.und_length l _) (Nat.pow_pos (by decide))) k
    have h2 : k * 512 ^ l ≤ 512 * 512 ^ 3 := Nat.mul_le_mul hk (Nat.pow_le_pow_right (by decide) (by omega))
    exact Nat.le_trans h1 (Nat.le_trans h2 (by decide)))
  have hle1 : Hid (∀ c, (RX.one F G (RX.und F G l) (l + 1) c).length ≤ 68719476736) := W_hid (fun c => by
    have h1 := RX.one_le (F := F) (G := G) (l := l + 1) (c := c) (RX.und_length (F := F) (G := G) l c) (Nat.pow_pos (by decide))
    exact Nat.le_trans h1 (Nat.le_trans (Nat.pow_le_pow_right (by decide) (show l ≤ 4 by omega)) (by decide)))
  have hone : Hid (∀ c, (∃ y, F l c = some y ∧ RX.one F G (RX.und F G l) (l + 1) c = RX.und F G l c ∧ RX.ent F G (l + 1) c = (true, false, 7, y) ∧ RX.pres F G (l + 1) c = true ∧ 1 ≤ l) ∨ (∃ f p, RX.one F G (RX.und F G l) (l + 1) c = [(c * S, f, p, decide (l + 1 = 2))] ∧ RX.ent F G (l + 1) c = (false, decide (l + 1 = 2), p, f) ∧ RX.pres F G (l + 1) c = true) ∨ (RX.one F G (RX.und F G l) (l + 1) c = [] ∧ RX.ent F G (l + 1) c = (false, false, 0, 0) ∧ RX.pres F G (l + 1) c = false)) := W_hid (fun c => by
    unfold RX.one RX.ent RX.pres
    rw [Nat.add_sub_cancel]
    cases hf : F l c with
    | some y => exact .inl ⟨y, rfl, rfl, rfl, rfl, (I.lev hf).1⟩
    | none =>
      cases hg : G (l + 1) c with
      | some y => obtain ⟨f, p⟩ := y; exact .inr (.inl ⟨f, p, by rw [hS], rfl, rfl⟩)
      | none => exact .inr (.inr ⟨rfl, rfl, rfl⟩))
  have hih : Hid (∀ c y z, F l c = some y → z = ((c * S : Nat) : Int) → ∀ w, TM w g pg r b M → Calls Tryz.prog 62 #[.pointer (some ⟨g, 0, none⟩), .int .u64 (y : Int), .int .i64 (l : Int), .int .u64 z] w fun e w' => ∃ v, e = .returned v ∧ w'.ownsRow w.heap.size 38 4 v (RX.und F G l c).length (pcl (RX.und F G l c)) ∧ Below w.heap.size w w') := W_hid (fun c y z h1 h2 => ih c y z h1 (by rw [hS] at h2; exact h2))
  have hfin : Hid ((List.range 512).flatMap (fun i => RX.one F G (RX.und F G l) (l + 1) (512 * j + i)) = RX.und F G (l + 1) j) := W_hid rfl
  have hl4 : (l : Int) + 1 ≤ 4 := by omega
  have hcast : ((l + 1 : Nat) : Int) = (l : Int) + 1 := rfl
  rw [hcast] at hSp hDc ⊢
  replace hws := W_hid hws
  clear h ih hA hS hsz hM R I hF hcast
  replace hT0 := W_hid hT0
  go_enter Tryz.func62, Tryz.ntmps62
  go_wp2_with fail
  go_loopw [9, 22] (fun v i wr => ∃ (k : Nat), k ≤ 512 ∧ i = .int .i64 (k : Int) ∧ Hid (wr.ownsRow w.heap.size 38 4 v ((List.range k).flatMap (fun i => RX.one F G (RX.und F G l) (l + 1) (512 * j + i))).length (pcl ((List.range k).flatMap (fun i => RX.one F G (RX.und F G l) (l + 1) (512 * j + i))))) ∧ Hid (Below w.heap.size w wr)) (fun _ i _ => 512 - (intOf i).toNat)
  case atStart => exact ⟨0, by omega, rfl, W_hid (World.ownsRow_nil _ _ _ _), W_hid (Below.refl _ _)⟩
  case round =>
    obtain ⟨k, hk, rfl, hown, bel⟩ := hrel
    by_cases hlt : k < 512
    · have hix := hix.out k hlt
      have hm0 : k * S ≤ 511 * S := Nat.mul_le_mul_right _ (by omega)
      have hm1 : (0 : Int) ≤ (k : Int) * (S : Int) := Int.mul_nonneg (by omega) (by omega)
      have hm2 : (k : Int) * (S : Int) ≤ 511 * S := by rw [← Int.natCast_mul]; omega
      have hat : Hid ((A : Int) + (k : Int) * (S : Int) = (((512 * j + k) * S : Nat) : Int)) := W_hid (by rw [hAS.out k, Int.natCast_add, Int.natCast_mul])
      have H2 := W_hid (H.out.keep bel.out)
      have hDc := hDc.out (512 * j + k) (by omega) wr H2.out.kt
      rw [← hws.out k hlt] at hDc
      have hun := W_hid (hun.out k)
      have hpl := W_hid (hle.out k (by omega))
      have hpo := W_hid (hle1.out (512 * j + k))
      have hlt' : (k : Int) < 512 := by omega
      obtain ⟨q, hq⟩ : ∃ q, q = (List.range k).flatMap (fun i => RX.one F G (RX.und F G l) (l + 1) (512 * j + i)) := ⟨_, rfl⟩
      rw [← hq] at hown hun hpl
      clear hq hle hle1
      obtain ⟨ao, co, rfl⟩ := Own.form hown.out
      generalize ws k = V at *
      rcases hone.out (512 * j + k) with ⟨y, hy, e1, e2, e3, hl1⟩ | ⟨y, p, e1, e2, e3⟩ | ⟨e1, e2, e3⟩
      · rw [e2, e3] at hDc
        rw [e1] at hun hpo
        have hDc := W_hid hDc
        have hih := W_hid (hih.out (512 * j + k) y _ hy hat.out)
        clear hone e1 e2 e3 hMp hfin hy
        go_wp2_with (first
          | (go_at_call 67; refine (hSp.out _).mono ?_; rintro e w1 ⟨rfl, rfl⟩)
          | (go_at_call 110; refine hDc.out.mono ?_; rintro e w1 ⟨rfl, bel1⟩; have H3 := W_hid ((H2.out.keep bel1).keep ((Below.refl _ _).alloc (Nat.le_refl _) (.cells #[.bool true, .bool false, .int .i64 7, .int .u64 (y : Int)] 117))); have bel2 := W_hid (bel.out.trans ((bel1.alloc bel1.size (.cells #[.bool true, .bool false, .int .i64 7, .int .u64 (y : Int)] 117)).mono bel.out.size)); have ho2 := W_hid (Own.below hown.out (bel1.alloc bel1.size (.cells #[.bool true, .bool false, .int .i64 7, .int .u64 (y : Int)] 117))); clear bel1)
          | (go_at_call 62; refine (hih.out _ H3.out).mono ?_; rintro e w3 ⟨v3, rfl, ho3, bel3⟩; have hs3 := W_hid (src_own ho3); have ho4 := W_hid (Own.below ho2.out bel3); have bel4 := W_hid (bel2.out.trans (bel3.mono bel2.out.size)); clear ho3 bel3)
          | (refine Own.wpList_app rfl (.tmp 43) (.tmp 50) 47 rfl Tryz.underlying47 info_pg _ v3 rfl rfl ho4.out bel4.out.size hs3.out (pgc_one _) (by have := hpl.out; have := hpo.out; unfold maxLen; omega) (by have := hpl.out; have := hpo.out; omega) ?_; intro v5 w5 ho5 hg5 hob5; have ho5' := W_hid ho5; have bel5 := W_hid (bel4.out.grown hg5 bel4.out.size (fun x hx => Own.ge ho4.out x hx)); clear ho5 hg5 hob5))
        go_roundw
        case rel => exact ⟨k + 1, by omega, by go_num, W_hid (by rw [hun.out, List.length_append, pcl_append]; exact ho5'.out), bel5⟩
        case measure => simp [intOf]; omega
      · rw [e2, e3] at hDc
        rw [e1] at hun hpo
        have hDc := W_hid hDc
        obtain ⟨d, hd⟩ : ∃ d, decide (l + 1 = 2) = d := ⟨_, rfl⟩
        rw [hd] at hDc hun
        have hs0 := W_hid (fun w2 : World => src_own (World.ownsRow_lit (base := 0) (e := 38) (size := 4) w2 #[.int .u64 ((A : Int) + (k : Int) * (S : Int)), .int .u64 (y : Int), .int .i64 p, .bool d] 1 (Nat.zero_le _) (by decide) rfl))
        have hpc : Hid ([Value.int .u64 ((A : Int) + (k : Int) * (S : Int)), .int .u64 (y : Int), .int .i64 p, .bool d] = pcl [((512 * j + k) * S, y, p, d)]) := W_hid (by rw [hat.out]; rfl)
        have hone4 : Hid (∀ u ∈ [Value.int .u64 ((A : Int) + (k : Int) * (S : Int)), .int .u64 (y : Int), .int .i64 p, .bool d], u.oneCell' = true) := W_hid (by rw [hpc.out]; exact pgc_one _)
        clear hone e1 e2 e3 hih hfin hd
        go_wp2_with (first
          | (go_at_call 67; refine (hSp.out _).mono ?_; rintro e w1 ⟨rfl, rfl⟩)
          | (go_at_call 110; refine hDc.out.mono ?_; rintro e w1 ⟨rfl, bel1⟩; have bel2 := W_hid (bel.out.trans ((bel1.alloc bel1.size (.cells #[.bool false, .bool d, .int .i64 p, .int .u64 (y : Int)] 117)).mono bel.out.size)); have ho2 := W_hid (Own.below hown.out (bel1.alloc bel1.size (.cells #[.bool false, .bool d, .int .i64 p, .int .u64 (y : Int)] 117))); clear bel1)
          | (go_at_call 111; refine (hMp.out _ _ _ _ _ _).mono ?_; rintro e w3 ⟨rfl, bel3⟩; have hs3 := W_hid (hs0.out w3); have ho4 := W_hid ((Own.below ho2.out bel3).alloc (.cells #[.int .u64 ((A : Int) + (k : Int) * (S : Int)), .int .u64 (y : Int), .int .i64 p, .bool d] 38)); have bel4 := W_hid ((bel2.out.trans (bel3.mono bel2.out.size)).alloc (bel2.out.trans (bel3.mono bel2.out.size)).size (.cells #[.int .u64 ((A : Int) + (k : Int) * (S : Int)), .int .u64 (y : Int), .int .i64 p, .bool d] 38)); clear bel3)
          | (refine Own.wpList_app rfl (.tmp 54) (.tmp 58) 47 rfl Tryz.underlying47 info_pg _ _ rfl rfl ho4.out bel4.out.size hs3.out hone4.out (by have := hpl.out; unfold maxLen; omega) (by have := hpl.out; omega) ?_; intro v5 w5 ho5 hg5 hob5; have ho5' := W_hid ho5; have bel5 := W_hid (bel4.out.grown hg5 bel4.out.size (fun x hx => Own.ge ho4.out x hx)); clear ho5 hg5 hob5))
        go_roundw
        case rel => exact ⟨k + 1, by omega, by go_num, W_hid (by rw [hun.out, List.length_append, pcl_append, ← hpc.out]; exact ho5'.out), bel5⟩
        case measure => simp [intOf]; omega
      · rw [e2, e3] at hDc
        rw [e1, List.append_nil] at hun
        have hDc := W_hid hDc
        clear hone e1 e2 e3 hih hfin hMp hpo
        go_wp2_with (first
          | (go_at_call 67; refine (hSp.out _).mono ?_; rintro e w1 ⟨rfl, rfl⟩)
          | (go_at_call 110; refine hDc.out.mono ?_; rintro e w1 ⟨rfl, bel1⟩; have bel2 := W_hid (bel.out.trans ((bel1.alloc bel1.size (.cells #[.bool false, .bool false, .int .i64 0, .int .u64 0] 117)).mono bel.out.size)); have ho2 := W_hid (Own.below hown.out (bel1.alloc bel1.size (.cells #[.bool false, .bool false, .int .i64 0, .int .u64 0] 117))); clear bel1))
        go_roundw
        case rel => exact ⟨k + 1, by omega, by go_num, W_hid (by rw [hun.out]; exact ho2.out), bel2⟩
        case measure => simp [intOf]; omega
    · obtain rfl : k = 512 := by omega
      rw [hfin.out] at hown
      clear hle hle1 hone hih hun hix hDc hws
      go_wp2_with fail
      go_ret
      exact ⟨_, rfl, hown.out, bel.out⟩

theorem unders (g pg r b n : Nat) (M : Nat → Option (Nat → Nat)) (F : RX.Tabs) (G : RX.Pags) (I : RX.Inv F G r n) (R : RX.Rep M F G) : Unders g pg r b M F G 4 := by
  have h0 : Unders g pg r b M F G 0 := fun j f z hF => by have := I.lev hF; omega
  have h1 := under_step g pg r b n M F G I R 0 (by omega) h0
  have h2 := under_step g pg r b n M F G I R 1 (by omega) h1
  have h3 := under_step g pg r b n M F G I R 2 (by omega) h2
  exact under_step g pg r b n M F G I R 3 (by omega) h3

set_option maxRecDepth 100000 in
set_option maxHeartbeats 1000000 in
/-- Pages. -/
theorem Pages_any (g pg r b n : Nat) (M : Nat → Option (Nat → Nat)) (F : RX.Tabs) (G : RX.Pags) (I : RX.Inv F G r n) (R : RX.Rep M F G) (w : World) (h : TM w g pg r b M) :
    Calls Tryz.prog 20 #[.pointer (some ⟨g, 0, none⟩)] w fun e w' => ∃ v, e = .returned v ∧ w'.ownsRow w.heap.size 38 4 v (RX.und F G 4 0).length (pcl (RX.und F G 4 0)) ∧ Below w.heap.size w w' := by
  have cN := W_hid (none_tree g pg r b M w h)
  have c1 := h.box.cell (j := 1) rfl
  have hU := W_hid (unders g pg r b n M F G I R 0 r 0 I.root (by rw [Nat.zero_mul]; rfl) w h)
  clear h I R
  go_enter Tryz.func20, Tryz.ntmps20
  go_wp2_with fail
  refine cN.out.mono ?_
  rintro e w1 ⟨rfl, rfl⟩
  go_wp2_with fail
  refine hU.out.mono ?_
  rintro e w1 ⟨v, rfl, ho, bel⟩
  have ho := W_hid ho
  have bel := W_hid bel
  go_wp2
  go_ret
  exact ⟨_, rfl, ho.out, bel.out⟩
end Go.Proofs.YtigbjhmodpplbaaGreatDoor

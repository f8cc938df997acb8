/- Rows that are owned, continued: what reads as cells, appended; rows made empty; cuts. Free of any program's numbers. -/
import Derived.Test.YthdohimjcjkneaaGreatDoorZL04
import Derived.Deep.RegionHeld3
import Derived.IntWalk
import Derived.Test.YthdohimjcjkneaaGreatDoorZL03
import Derived.Maps.AppendAt
import Derived.Laws.OwnMore
import Derived.Laws.AppendOwnNone

/- The document's own tree: at, used, isPerm. -/
namespace Go.Proofs.YthdohimjcjkneaaGreatDoor
open Go.ChangeShapes Go.WideShapes Go.ChangeAt Go.RowKit
set_option linter.unusedVariables false
set_option linter.unusedSimpArgs false

theorem cell_keep {w w' : World} {B : Nat} {p : Addr} {v : Value} (hb : Below B w w') (hB : B = w.heap.size) (h : w.cell? p = some v) : w'.cell? p = some v := by
  subst hB; rw [hb.cell (cell_lt h)]; exact h
theorem bel_step {w wr w2 : World} (h : Below w.heap.size w wr) (h2 : Below wr.drew.heap.size wr.drew w2) : Below w.heap.size w w2 := h.trans ((bundrew h2).mono h.size)

set_option maxRecDepth 100000 in
set_option maxHeartbeats 2000000 in
theorem at_any (D : List Nat) (g pg pb n : Nat) (T : Nat → Bool) (lv tv : Value) (L : List RX.Pg) (Tl : List RX.Tb) (w : World) (h : DM w D g pg pb n T lv tv L Tl) (va : Nat) (hva : va < 18446744073709551616) :
    Calls Tryz.prog 71 #[.pointer (some ⟨g, 0, none⟩), .int .u64 (va : Int)] w fun e w' => e = .returned (.int .i64 (ixI (RX.atI L va))) ∧ Below w.heap.size w w' := by
  have hS := W_hid rSize_any
  obtain ⟨⟨a0, cap0, hlv, hc1, hc2⟩, -⟩ := h.lens
  unfold maxLen at hc2
  have H := W_hid h
  subst hlv
  have hfa := W_hid (fun i hi h0 h1 => @find_at _ L (fun x => RX.has x va) i hi h0 h1)
  have hfe := W_hid (fun h0 => @find_end _ L (fun x => RX.has x va) h0)
  obtain ⟨N, hN⟩ : ∃ N, L.length = N := ⟨_, rfl⟩
  have hN' := W_hid hN
  clear h
  rw [hN] at hc1
  go_enter Tryz.func71, Tryz.ntmps71
  go_wp2
  go_loopw [5] (fun i wr => ∃ k : Nat, k ≤ N ∧ i = .int .i64 (k : Int) ∧ Hid (∀ (j : Nat) (hj : j < L.length), j < k → RX.has L[j] va = false) ∧ Hid (DM wr D g pg pb n T (.slice a0 N cap0) tv L Tl) ∧ Hid (Below w.heap.size w wr)) (fun i _ => N - (intOf i).toNat)
  case atStart => exact ⟨0, by omega, rfl, W_hid (fun j hj h => by omega), by rw [hN] at H; exact H, W_hid (Below.refl _ _)⟩
  case round =>
    obtain ⟨k, hk, rfl, hno, hD, hq⟩ := hrel
    have c1 := hD.out.c1
    by_cases hlt : k < N
    · have hk' : k < L.length := by rw [hN'.out]; exact hlt
      obtain ⟨b, o, cap, e0, -, -, t0, t1, t2, t3, l0, l1⟩ := hD.out.page hk'
      rw [hN'.out] at e0
      simp only [Value.slice.injEq] at e0
      obtain ⟨rfl, -, rfl⟩ := e0
      have hx : Hid (RX.has L[k] va = decide (L[k].1 ≤ va ∧ va < L[k].1 + RX.psz L[k].2.2.2)) := W_hid rfl
      have hfa := W_hid (hfa.out k hk' (fun j hj h => hno.out j hj h))
      have hnx : RX.has L[k] va = false → Hid (∀ (j : Nat) (hj : j < L.length), j < k + 1 → RX.has L[j] va = false) := fun hf => W_hid (fun j hj h => by
        by_cases e : j = k
        · subst e; exact hf
        · exact hno.out j hj (by omega))
      replace hnx := W_hid hnx
      generalize L[k] = x at *
      obtain ⟨v, f, p, hu⟩ := x
      simp only at t0 t1 t2 t3 l0 l1 hx
      have hi1 : (k : Int) < N := by omega
      obtain ⟨sz, hsz⟩ : ∃ sz, RX.psz hu = sz := ⟨_, rfl⟩
      have hszl : sz ≤ 2097152 := by rw [← hsz]; unfold RX.psz; split <;> omega
      have hS2 := W_hid (fun w => hS.out v f p hu w)
      rw [hsz] at hS2 hx
      have hwr : IntKind.u64.wrap ((v : Int) + (sz : Int)) = (v : Int) + (sz : Int) := IntWalk.u64_in _ (by omega)
      clear hsz
      by_cases hl : v ≤ va
      · have d1 : decide ((v : Int) ≤ (va : Int)) = true := by simp; omega
        have d1n : decide (v ≤ va) = true := decide_eq_true hl
        by_cases hf : va < v + sz
        · have d2 : decide ((va : Int) < (v : Int) + (sz : Int)) = true := by simp; omega
          have hfin : Hid (ixI (RX.atI L va) = (k : Int)) := W_hid (by unfold RX.atI; rw [hfa.out (by rw [hx.out]; exact decide_eq_true ⟨hl, hf⟩)]; rfl)
          clear hfa hnx hx hl hf hno hS
          go_wp2_with fail
          go_region_held3 (fun w' => w'.cell? ⟨g, 1, none⟩ = some (.slice (some ⟨b, o, none⟩) N cap0) ∧ w'.cell? ⟨b, o + k * 4, none⟩ = some (.int .u64 (v : Int)) ∧ w'.cell? ⟨b, o + k * 4 + 1, none⟩ = some (.int .u64 (f : Int)) ∧ w'.cell? ⟨b, o + k * 4 + 2, none⟩ = some (.int .i64 p) ∧ w'.cell? ⟨b, o + k * 4 + 3, none⟩ = some (.bool hu)) (first | assumption | go_keep)
            (first | (go_at_call 30; refine (hS2.out _).mono ?_; rintro e w2 ⟨rfl, bel2⟩; have x1 := cell_keep bel2 rfl c1; have x2 := cell_keep bel2 rfl t0; have x3 := cell_keep bel2 rfl t1; have x4 := cell_keep bel2 rfl t2; have x5 := cell_keep bel2 rfl t3; have bl := W_hid (bel_step hq.out bel2); clear bel2))
          go_wp2_with fail
          go_ret
          exact ⟨ret_i64 hfin.out.symm, bl.out⟩
        · have d2 : decide ((va : Int) < (v : Int) + (sz : Int)) = false := by simp; omega
          have hnx := hnx.out (by rw [hx.out]; exact decide_eq_false (fun h => hf h.2))
          clear hfa hx hl hf hno hS
          go_wp2_with fail
          go_region_held3 (fun w' => w'.cell? ⟨g, 1, none⟩ = some (.slice (some ⟨b, o, none⟩) N cap0) ∧ w'.cell? ⟨b, o + k * 4, none⟩ = some (.int .u64 (v : Int)) ∧ w'.cell? ⟨b, o + k * 4 + 1, none⟩ = some (.int .u64 (f : Int)) ∧ w'.cell? ⟨b, o + k * 4 + 2, none⟩ = some (.int .i64 p) ∧ w'.cell? ⟨b, o + k * 4 + 3, none⟩ = some (.bool hu)) (first | assumption | go_keep)
            (first | (go_at_call 30; refine (hS2.out _).mono ?_; rintro e w2 ⟨rfl, bel2⟩; have x1 := cell_keep bel2 rfl c1; have x2 := cell_keep bel2 rfl t0; have x3 := cell_keep bel2 rfl t1; have x4 := cell_keep bel2 rfl t2; have x5 := cell_keep bel2 rfl t3; have bl := W_hid (bel_step hq.out bel2); have hD2 := W_hid (hD.out.keep (bundrew bel2)); clear bel2))
          clear hD hq
          go_wp2_with fail
          go_roundw
          case rel => exact ⟨k + 1, by omega, by go_num, hnx, hD2, bl⟩
          case measure => simp [intOf]; omega
      · have d1 : decide ((v : Int) ≤ (va : Int)) = false := by simp; omega
        have d1n : decide (v ≤ va) = false := decide_eq_false hl
        have hnx := hnx.out (by rw [hx.out]; exact decide_eq_false (fun h => hl h.1))
        clear hfa hx hl hno hS
        go_wp2_with fail
        go_quiet (fail)
        have hD2 := W_hid (hD.out.drewN nq)
        have hq2 := W_hid (below_drewN hq.out nq)
        clear hD hq
        go_wp2_with fail
        go_roundw
        case rel => exact ⟨k + 1, by omega, by go_num, hnx, hD2, hq2⟩
        case measure => simp [intOf]; omega
    · obtain rfl : k = N := by omega
      have hfin : Hid (ixI (RX.atI L va) = -1) := W_hid (by unfold RX.atI; rw [hfe.out (fun j hj => hno.out j hj (by rw [← hN'.out]; exact hj))]; rfl)
      clear hfa hfe hno
      go_wp2_with fail
      go_ret
      exact ⟨ret_i64 hfin.out.symm, hq.out⟩
end Go.Proofs.YthdohimjcjkneaaGreatDoor

/- Contracts of package radix's Word. -/
namespace Go.Proofs.YthdohimjcjkneaaGreatDoor
open Go.ChangeShapes Go.WideShapes Go.ChangeAt Go.RowKit
set_option linter.unusedVariables false
set_option linter.unusedSimpArgs false

set_option maxRecDepth 100000 in
set_option maxHeartbeats 1000000 in
theorem Word_out (g pg r b f : Nat) (i : Int) (M : Nat → Option (Nat → Nat)) (w : World) (h : TM w g pg r b M) (hi : i < 0 ∨ 512 ≤ i) :
    Calls Tryz.prog 27 #[.pointer (some ⟨g, 0, none⟩), .int .u64 (f : Int), .int .i64 i] w fun e w' => e = .returned (.tuple #[.int .u64 0, .bool false]) ∧ w = w' := by
  have cN := W_hid (none_tree g pg r b M w h)
  clear h
  go_enter Tryz.func27, Tryz.ntmps27
  by_cases h0 : i < 0
  · go_wp2_with fail
    refine cN.out.mono ?_
    rintro e w1 ⟨rfl, rfl⟩
    go_wp2
    go_ret2
    exact ⟨rfl, rfl⟩
  · have h5 : 512 ≤ i := by omega
    go_wp2_with fail
    refine cN.out.mono ?_
    rintro e w1 ⟨rfl, rfl⟩
    go_wp2
    go_ret2
    exact ⟨rfl, rfl⟩

set_option maxRecDepth 100000 in
set_option maxHeartbeats 1000000 in
theorem Word_any (g pg r b f i : Nat) (M : Nat → Option (Nat → Nat)) (w : World) (h : TM w g pg r b M) (hf : f < 18446744073709551616) (hi : i < 512) :
    Calls Tryz.prog 27 #[.pointer (some ⟨g, 0, none⟩), .int .u64 (f : Int), .int .i64 (i : Int)] w fun e w' => e = .returned (.tuple #[.int .u64 ((((M f).getD zero) i : Nat) : Int), .bool (M f).isSome]) ∧ Below w.heap.size w w' := by
  have cN := W_hid (none_tree g pg r b M w h)
  have c2 := h.box.cell (j := 2) rfl
  have hlk := h.mb.look_ok f hf
  obtain ⟨ws, hws⟩ : ∃ ws, ws = (M f).getD zero := ⟨_, rfl⟩
  obtain ⟨ok, hok⟩ : ∃ ok, ok = (M f).isSome := ⟨_, rfl⟩
  rw [← hws, ← hok] at hlk ⊢
  have hZ : Blk (w.alloc (.cells Tryz.zeroCells125 125)) w.heap.size 125 Tryz.zeroCells125.toList := by
    show _ = _
    rw [Array.toArray_toList]
    exact heap_alloc_new w _
  have hzl : Tryz.zeroCells125.toList.toArray.size = (tw ws).toArray.size := by
    rw [List.size_toArray, List.size_toArray, tw_len]
    kernel_rfl
  have hone : (tw ws).toArray.all (·.oneCell') = true := by
    rw [List.all_toArray, List.all_eq_true]
    intro v hv
    simp only [tw, List.mem_map] at hv
    obtain ⟨i, -, rfl⟩ := hv
    rfl
  have hinf := table_info ws
  have i2 : (i : Int) < 512 := by omega
  have hB0 : Below w.heap.size w (w.alloc (.cells Tryz.zeroCells125 125)) := (Below.refl _ _).alloc (Nat.le_refl _) _
  have hget := tw_get ws i hi
  replace hget := W_hid hget
  replace hZ := W_hid hZ
  replace hB0 := W_hid hB0
  clear h hws hok
  go_enter Tryz.func27, Tryz.ntmps27
  go_wp2_with fail
  refine cN.out.mono ?_
  rintro e w1 ⟨rfl, rfl⟩
  go_wp2_with (refine wpList_store_b rfl _ _ _ rfl w.heap.size (tw ws) rfl rfl _ _ hZ.out hinf hzl hone ?_; intro w2 hT hbl hw2; have bel := W_hid (hbl w.heap.size w (Nat.le_refl _) hB0.out); have kt : w2.cell? ⟨w.heap.size, i, none⟩ = some (.int .u64 ((ws i : Nat) : Int)) := hT.cell hget.out; clear hT hbl hw2)
  go_ret2
  exact ⟨rfl, bel.out⟩
end Go.Proofs.YthdohimjcjkneaaGreatDoor

/- The document's own tree: used, isPerm, Walk, Protect, New. -/
namespace Go.Proofs.YthdohimjcjkneaaGreatDoor
open Go.ChangeShapes Go.WideShapes Go.ChangeAt Go.RowKit
set_option linter.unusedVariables false
set_option linter.unusedSimpArgs false

set_option maxRecDepth 100000 in
set_option maxHeartbeats 2000000 in
theorem used_any (D : List Nat) (g pg pb n : Nat) (T : Nat → Bool) (lv tv : Value) (L : List RX.Pg) (Tl : List RX.Tb) (w : World) (h : DM w D g pg pb n T lv tv L Tl) (f l from_ : Nat) (h1 : 1 ≤ l) (h4 : l ≤ 4) (hfr : from_ < 281474976710656) :
    Calls Tryz.prog 116 #[.pointer (some ⟨g, 0, none⟩), .agg #[.int .u64 (f : Int), .int .i64 (l : Int), .int .u64 (from_ : Int)]] w fun e w' => e = .returned (.bool (L.any (RX.inT from_ l))) ∧ Below w.heap.size w w' := by
  have hS := W_hid (fun (w : World) (t : Nat) => Calls.quiet_of_same ((rspan_any l h1 h4 (w.drewN t)).mono fun e w' ⟨he, hw⟩ => ⟨he, hw.symm⟩))
  obtain ⟨⟨a0, cap0, hlv, hc1, hc2⟩, -⟩ := h.lens
  unfold maxLen at hc2
  obtain ⟨S, hSe⟩ : ∃ S, S = EN.sz l := ⟨_, rfl⟩
  rw [← hSe] at hS
  have hSl : S ≤ 281474976710656 := by rw [hSe]; exact EN.sz_le l h4
  have hT : Hid (∀ x : RX.Pg, RX.inT from_ l x = decide (from_ ≤ x.1 ∧ x.1 < from_ + S)) := W_hid (fun x => by rw [hSe]; rfl)
  have hwr : IntKind.u64.wrap ((from_ : Int) + (S : Int)) = (from_ : Int) + (S : Int) := IntWalk.u64_in _ (by omega)
  have H := W_hid h
  subst hlv
  obtain ⟨N, hN⟩ : ∃ N, L.length = N := ⟨_, rfl⟩
  have hN' := W_hid hN
  have hB0 := W_hid (Blk.new w 53 [.int .u64 (f : Int), .int .i64 (l : Int), .int .u64 (from_ : Int)] rfl)
  have bel0 := W_hid ((Below.refl w.heap.size w).alloc (Nat.le_refl _) (.cells #[.int .u64 (f : Int), .int .i64 (l : Int), .int .u64 (from_ : Int)] 53))
  rw [hN] at hc1
  have H1 := W_hid (H.out.keep ((Below.refl w.heap.size w).alloc (Nat.le_refl _) (.cells #[.int .u64 (f : Int), .int .i64 (l : Int), .int .u64 (from_ : Int)] 53)))
  rw [hN] at H1
  clear h hSe
  go_enter Tryz.func116, Tryz.ntmps116
  go_wp2
  go_loopw [5] (fun i wr => ∃ k : Nat, k ≤ N ∧ i = .int .i64 (k : Int) ∧ Hid (∀ (j : Nat) (hj : j < L.length), j < k → RX.inT from_ l L[j] = false) ∧ Hid (DM wr D g pg pb n T (.slice a0 N cap0) tv L Tl) ∧ Hid (Blk wr w.heap.size 53 [.int .u64 (f : Int), .int .i64 (l : Int), .int .u64 (from_ : Int)]) ∧ Hid (Below w.heap.size w wr)) (fun i _ => N - (intOf i).toNat)
  case atStart => exact ⟨0, by omega, rfl, W_hid (fun j hj h => by omega), H1, hB0, bel0⟩
  case round =>
    obtain ⟨k, hk, rfl, hno, hD, hB, hq⟩ := hrel
    have c1 := hD.out.c1
    have b1 := hB.out.cell (j := 1) rfl
    have b2 := hB.out.cell (j := 2) rfl
    by_cases hlt : k < N
    · have hk' : k < L.length := by rw [hN'.out]; exact hlt
      obtain ⟨b, o, cap, e0, -, -, t0, -, -, -, l0, l1⟩ := hD.out.page hk'
      rw [hN'.out] at e0
      simp only [Value.slice.injEq] at e0
      obtain ⟨rfl, -, rfl⟩ := e0
      have hx := W_hid (hT.out L[k])
      have hfa : Hid (RX.inT from_ l L[k] = true → L.any (RX.inT from_ l) = true) := W_hid (fun h => List.any_eq_true.2 ⟨_, List.getElem_mem hk', h⟩)
      have hnx : RX.inT from_ l L[k] = false → Hid (∀ (j : Nat) (hj : j < L.length), j < k + 1 → RX.inT from_ l L[j] = false) := fun hf => W_hid (fun j hj h => by
        by_cases e : j = k
        · subst e; exact hf
        · exact hno.out j hj (by omega))
      replace hnx := W_hid hnx
      generalize L[k] = x at *
      obtain ⟨v, f', p, hu⟩ := x
      simp only at t0 l0 l1 hx
      have hi1 : (k : Int) < N := by omega
      by_cases hl : from_ ≤ v
      · have d1 : decide ((from_ : Int) ≤ (v : Int)) = true := by simp; omega
        by_cases hf : v < from_ + S
        · have d2 : decide ((v : Int) < (from_ : Int) + (S : Int)) = true := by simp; omega
          have hfin : Hid (L.any (RX.inT from_ l) = true) := W_hid (hfa.out (by rw [hx.out]; exact decide_eq_true ⟨hl, hf⟩))
          clear hfa hnx hx hf hno hT
          go_wp2_with fail
          go_quiet ((go_at_call 68; exact hS.out _ _))
          go_wp2_with fail
          go_ret
          exact ⟨ret_bool hfin.out.symm, below_drewN hq.out _⟩
        · have d2 : decide ((v : Int) < (from_ : Int) + (S : Int)) = false := by simp; omega
          have hnx := hnx.out (by rw [hx.out]; exact decide_eq_false (fun h => hf h.2))
          clear hfa hx hf hno hT
          go_wp2_with fail
          go_quiet ((go_at_call 68; exact hS.out _ _))
          have hD2 := W_hid (hD.out.drewN nq)
          have hq2 := W_hid (below_drewN hq.out nq)
          have hB2 : Hid (Blk (wr.drewN nq) w.heap.size 53 [.int .u64 (f : Int), .int .i64 (l : Int), .int .u64 (from_ : Int)]) := W_hid hB.out
          clear hD hq hB
          go_wp2_with fail
          go_roundw
          case rel => exact ⟨k + 1, by omega, by go_num, hnx, hD2, hB2, hq2⟩
          case measure => simp [intOf]; omega
      · have d1 : decide ((from_ : Int) ≤ (v : Int)) = false := by simp; omega
        have hnx := hnx.out (by rw [hx.out]; exact decide_eq_false (fun h => hl h.1))
        clear hfa hx hno hT
        go_wp2_with fail
        go_quiet ((go_at_call 68; exact hS.out _ _))
        have hD2 := W_hid (hD.out.drewN nq)
        have hq2 := W_hid (below_drewN hq.out nq)
        have hB2 : Hid (Blk (wr.drewN nq) w.heap.size 53 [.int .u64 (f : Int), .int .i64 (l : Int), .int .u64 (from_ : Int)]) := W_hid hB.out
        clear hD hq hB
        go_wp2_with fail
        go_roundw
        case rel => exact ⟨k + 1, by omega, by go_num, hnx, hD2, hB2, hq2⟩
        case measure => simp [intOf]; omega
    · obtain rfl : k = N := by omega
      have hfin : Hid (L.any (RX.inT from_ l) = false) := W_hid (by
        rw [List.any_eq_false]
        intro x hx
        obtain ⟨j, hj, rfl⟩ := List.getElem_of_mem hx
        rw [hno.out j hj (by rw [← hN'.out]; exact hj)]
        simp)
      clear hno
      go_wp2_with fail
      go_ret
      exact ⟨ret_bool hfin.out.symm, hq.out⟩

set_option maxRecDepth 100000 in
set_option maxHeartbeats 1000000 in
theorem isPerm_any (p : Int) (w : World) : Calls Tryz.prog 118 #[.int .i64 p] w fun e w' => e = .returned (.bool (decide (EN.perms p))) ∧ w = w' := by
  by_cases h1 : p = 1
  · subst h1
    have hh : Hid (decide (EN.perms 1) = true) := W_hid (by decide)
    go_enter Tryz.func118, Tryz.ntmps118
    go_wp2
    go_ret
    exact ⟨ret_bool hh.out.symm, rfl⟩
  by_cases h3 : p = 3
  · subst h3
    have hh : Hid (decide (EN.perms 3) = true) := W_hid (by decide)
    go_enter Tryz.func118, Tryz.ntmps118
    go_wp2
    go_ret
    exact ⟨ret_bool hh.out.symm, rfl⟩
  by_cases h5 : p = 5
  · subst h5
    have hh : Hid (decide (EN.perms 5) = true) := W_hid (by decide)
    go_enter Tryz.func118, Tryz.ntmps118
    go_wp2
    go_ret
    exact ⟨ret_bool hh.out.symm, rfl⟩
  by_cases h7 : p = 7
  · subst h7
    have hh : Hid (decide (EN.perms 7) = true) := W_hid (by decide)
    go_enter Tryz.func118, Tryz.ntmps118
    go_wp2
    go_ret
    exact ⟨ret_bool hh.out.symm, rfl⟩
  · have d1 : (p == 1) = false := by simpa using h1
    have d3 : (p == 3) = false := by simpa using h3
    have d5 : (p == 5) = false := by simpa using h5
    have d7 : (p == 7) = false := by simpa using h7
    have hh : Hid (decide (EN.perms p) = false) := W_hid (decide_eq_false (by unfold EN.perms; omega))
    clear h1 h3 h5 h7
    go_enter Tryz.func118, Tryz.ntmps118
    go_wp2
    go_ret
    exact ⟨ret_bool hh.out.symm, rfl⟩

theorem want_bits (want p : Int) (h0 : 0 ≤ want) (h7 : want ≤ 7) (hp : EN.perms p) : (bits BinOp.and .i64 want p != want) = (bits BinOp.andNot .i64 want p != 0) := by
  have hw : want = 0 ∨ want = 1 ∨ want = 2 ∨ want = 3 ∨ want = 4 ∨ want = 5 ∨ want = 6 ∨ want = 7 := by omega
  unfold EN.perms at hp
  rcases hp with rfl | rfl | rfl | rfl <;> rcases hw with rfl | rfl | rfl | rfl | rfl | rfl | rfl | rfl <;> decide

set_option maxRecDepth 100000 in
set_option maxHeartbeats 2000000 in
theorem rWalk_arg (g : Nat) (va : Nat) (want : Int) (w : World) (h : ¬ (va < 140737488355328 ∧ 0 ≤ want ∧ want ≤ 7)) :
    Calls Tryz.prog 61 #[.pointer (some ⟨g, 0, none⟩), .int .u64 (va : Int), .int .i64 want] w fun e w' => e = .returned (.tuple #[.int .u64 0, .int .i64 2]) ∧ w = w' := by
  by_cases h1 : va < 140737488355328
  · have d1 : decide ((140737488355328 : Int) ≤ (va : Int)) = false := by simp; omega
    by_cases h2 : want < 0
    · clear h h1
      go_enter Tryz.func61, Tryz.ntmps61
      go_wp2
      go_ret2
      exact ⟨rfl, rfl⟩
    · have h3 : 7 < want := by omega
      clear h h1
      go_enter Tryz.func61, Tryz.ntmps61
      go_wp2
      go_ret2
      exact ⟨rfl, rfl⟩
  · have d1 : decide ((140737488355328 : Int) ≤ (va : Int)) = true := by simp; omega
    clear h h1
    go_enter Tryz.func61, Tryz.ntmps61
    go_wp2
    go_ret2
    exact ⟨rfl, rfl⟩

set_option maxRecDepth 100000 in
set_option maxHeartbeats 2000000 in
theorem rWalk_yes (D : List Nat) (g pg pb n r m : Nat) (T : Nat → Bool) (lv tv : Value) (L : List RX.Pg) (Tl : List RX.Tb) (F : RX.Tabs) (G : RX.Pags) (w : World) (h : DM w D g pg pb n T lv tv L Tl) (I : RX.Inv F G r m) (hP : RX.PB L G) (va : Nat) (want : Int) (hva : va < 140737488355328) (h0 : 0 ≤ want) (h7 : want ≤ 7) :
    Calls Tryz.prog 61 #[.pointer (some ⟨g, 0, none⟩), .int .u64 (va : Int), .int .i64 want] w fun e w' => e = .returned (.tuple #[.int .u64 ((walkA G va want : Nat) : Int), .int .i64 (walkC G va want)]) ∧ Below w.heap.size w w' := by
  have hA := W_hid (at_any D g pg pb n T lv tv L Tl w h va (by omega))
  have d1 : decide ((140737488355328 : Int) ≤ (va : Int)) = false := by simp; omega
  cases hpg : RX.pg G va with
  | none =>
    have hC : Hid (walkC G va want = 26 ∧ walkA G va want = 0) := W_hid (by unfold walkC walkA; rw [hpg]; exact ⟨rfl, rfl⟩)
    rw [hP.at_none hpg] at hA
    clear hpg h hP I
    go_enter Tryz.func61, Tryz.ntmps61
    go_wp2_with fail
    refine hA.out.mono ?_
    rintro e w1 ⟨rfl, bel⟩
    have bel := W_hid bel
    unfold ixI
    go_wp2
    go_ret2
    exact ⟨by rw [hC.out.1, hC.out.2]; rfl, bel.out⟩
  | some x =>
    obtain ⟨k, f, p⟩ := x
    obtain ⟨i, hi, hil, hLi⟩ := hP.at_some I hpg
    rw [hi] at hA
    have hpp := I.page (RX.pg_some hpg).2.2
    have hprm : EN.perms p := by
      have := hpp.2.2.1.2.2.2
      rcases this with h | h
      · exact absurd h.1 (by simp)
      · exact h.2.1
    have hbits := want_bits want p h0 h7 hprm
    have H := W_hid h
    have hsz := EN.sz_pos (k - 1)
    have hmod := Nat.mod_le va (EN.sz (k - 1))
    have hmod2 := Nat.mod_lt va hsz
    have hms := EN.sz_le (k - 1) (by omega)
    have hf36 : f < 68719476736 := hpp.2.2.1.2.2.1
    cases ht : (bits BinOp.andNot IntKind.i64 want p != 0) with
    | true =>
      rw [ht] at hbits
      have hC : Hid (walkC G va want = 27 ∧ walkA G va want = 0) := W_hid (by unfold walkC walkA; rw [hpg]; simp only [ht]; exact ⟨rfl, rfl⟩)
      clear hpg hP I h hpp hprm ht
      go_enter Tryz.func61, Tryz.ntmps61
      go_wp2_with fail
      refine hA.out.mono ?_
      rintro e w1 ⟨rfl, bel⟩
      have hD := H.out.keep bel
      obtain ⟨b, o, cap, rfl, hc1, hc2, t0, t1, t2, t3, l0, l1⟩ := hD.page hil
      rw [hLi] at t0 t1 t2 t3
      simp only at t0 t1 t2 t3
      have c1 := hD.c1
      unfold maxLen at hc2
      have hi2 : (i : Int) < L.length := by omega
      clear l0 l1 hLi
      have bel := W_hid bel
      unfold ixI
      clear hD hA H
      go_wp2
      go_ret2
      exact ⟨by rw [hC.out.1, hC.out.2]; rfl, bel.out⟩
    | false =>
      rw [ht] at hbits
      have hC : Hid (walkC G va want = 0 ∧ walkA G va want = 4096 * f + va % EN.sz (k - 1)) := W_hid (by unfold walkC walkA; rw [hpg]; simp only [ht]; exact ⟨rfl, rfl⟩)
      obtain ⟨q, hq⟩ : ∃ q, q = va - va % EN.sz (k - 1) := ⟨_, rfl⟩
      rw [← hq] at hLi
      have hv : Hid ((4096 : Int) * f + ((va : Int) - q) = ((4096 * f + va % EN.sz (k - 1) : Nat) : Int)) := W_hid (by omega)
      have hq2 : q ≤ va := by omega
      clear hpg hP I h hpp hprm ht hq hmod hmod2 hsz hms
      go_enter Tryz.func61, Tryz.ntmps61
      go_wp2_with fail
      refine hA.out.mono ?_
      rintro e w1 ⟨rfl, bel⟩
      have hD := H.out.keep bel
      obtain ⟨b, o, cap, rfl, hc1, hc2, t0, t1, t2, t3, l0, l1⟩ := hD.page hil
      rw [hLi] at t0 t1 t2 t3
      simp only at t0 t1 t2 t3
      have c1 := hD.c1
      unfold maxLen at hc2
      have hi2 : (i : Int) < L.length := by omega
      clear l0 l1 hLi
      have bel := W_hid bel
      unfold ixI
      clear hD hA H
      go_wp2_with fail
      go_quiet (fail)
      go_wp2
      go_ret2
      exact ⟨by rw [hC.out.1, hC.out.2, ← hv.out]; rfl, below_drewN bel.out _⟩
end Go.Proofs.YthdohimjcjkneaaGreatDoor

namespace Go.Proofs.YthdohimjcjkneaaGreatDoor
open Go.ChangeShapes Go.WideShapes Go.ChangeAt Go.RowKit
set_option linter.unusedVariables false
set_option linter.unusedSimpArgs false
namespace Own

/-- A slice value that reads as these cells, m elements of so many. -/
def Src (w : World) (size : Nat) (u : Value) (m : Nat) (ys : List Value) : Prop :=
  (u = .slice none 0 0 ∧ m = 0 ∧ ys = []) ∨ ∃ ad c, u = .slice (some ad) m c ∧ ys.length = m * size ∧ ∀ j v, ys[j]? = some v → w.cell? (ad.add j) = some v
theorem Src.keep {w w' : World} {size m : Nat} {u : Value} {ys : List Value} (h : Src w size u m ys) (hb : Below w.heap.size w w') : Src w' size u m ys := by
  rcases h with h | ⟨ad, c, h1, h2, h3⟩
  · exact .inl h
  · exact .inr ⟨ad, c, h1, h2, fun j v hj => by rw [hb.cell (World.block_lt_of_cell? w _ (h3 j v hj))]; exact h3 j v hj⟩
theorem Src.grown {w w' : World} {size m : Nat} {u : Value} {ys : List Value} {row : Option Nat} (h : Src w size u m ys) (hg : w.grownBy w' row) (hr : ∀ ad n c, u = .slice (some ad) n c → 0 < n → some ad.block ≠ row) : Src w' size u m ys := by
  rcases h with h | ⟨ad, c, h1, h2, h3⟩
  · exact .inl h
  · refine .inr ⟨ad, c, h1, h2, fun j v hj => ?_⟩
    have hm : 0 < m := by
      rcases Nat.eq_zero_or_pos m with h0 | h0
      · subst h0
        rw [Nat.zero_mul] at h2
        rw [List.eq_nil_of_length_eq_zero h2] at hj
        cases hj
      · exact h0
    refine cellg hg (h3 j v hj) ?_
    have e : (ad.add j).block = ad.block := by unfold Addr.add; split <;> rfl
    rw [e]
    exact hr ad m c h1 hm

/-- What the model says of an element's type. -/
def Info (P : Program) (e : TypeId) (z : Value) (size bytes : Nat) : Prop := ∃ i, P.info? e = some i ∧ i.zero = some z ∧ i.size = size ∧ i.bytes = bytes ∧ z.cells.size = size ∧ 0 < size
theorem info_of {P : Program} {e : TypeId} {z : Value} {size bytes : Nat} (h : (P.info? e).map (fun i => (i.zero, i.size, i.bytes)) = some (some z, size, bytes)) (h2 : z.cells.size = size) (h3 : 0 < size) : Info P e z size bytes := by
  cases hi : P.info? e with
  | none => rw [hi] at h; cases h
  | some i =>
    rw [hi] at h
    simp only [Option.map_some, Option.some.injEq, Prod.mk.injEq] at h
    exact ⟨i, hi, h.1, h.2.1, h.2.2, h2, h3⟩

theorem run_app {P : Program} {w : World} {t ty e : TypeId} {z : Value} {size bytes : Nat} (ht : P.underlying t = some (.slice e)) (hinf : Info P e z size bytes) {base n m : Nat} {v u : Value} {xs ys : List Value}
    (hown : w.ownsRow base e size v n xs) (hbase : base ≤ w.heap.size) (hs : Src w size u m ys) (h1 : ∀ u ∈ ys, u.oneCell' = true) (h63 : n + m ≤ maxLen) (hb : (n + m) * bytes ≤ 140737488355328) :
    ∃ v' w', (Builtin.append_ #[t, t] ty #[v, u]).run P w = .ok v' w' ∧ w'.ownsRow base e size v' (n + m) (xs ++ ys) ∧ w.grownBy w' v.ownBlock ∧ (v'.ownBlock = v.ownBlock ∨ v'.ownBlock = some w.heap.size) := by
  obtain ⟨i, hi, hz, hsize, hby, hzs, hsz⟩ := hinf
  rcases hs with ⟨rfl, rfl, rfl⟩ | ⟨ad, c, rfl, hl, hc⟩
  · refine ⟨v, w, run_append_owned_none (P := P) (w := w) base t ty e i size ht hi v n xs hown, ?_, World.grownBy.refl w _, .inl rfl⟩
    simpa using hown
  · obtain ⟨v', w', h1, h2, h3, -, h5⟩ := run_append_own_at (P := P) w base t ty e i z size bytes ht hi hz hsize hby hzs hsz v n xs hown ad m c ys hl hc h1 h63 hb hbase
    exact ⟨v', w', h1, h2, h3, h5⟩
/-- 'append', as one step of a region that draws. -/
theorem step_app {P : Program} {ops : Array Oper} {o : Oper} {a : Act} {w : World} {K : Act → World → Prop} {Q : Exit → Act → World → Prop} {E : Prop}
    (hg : o.guard = none) (s x : Operand) (t : TypeId) (hop : o.op = Op.call { callee := Callee.builtin Builtin.append, args := #[s, x], argTypes := #[t, t] })
    {e : TypeId} {z : Value} {size bytes : Nat} (ht : P.underlying t = some (.slice e)) (hinf : Info P e z size bytes) {base n m : Nat} (v u : Value) {xs ys : List Value} (hs : a.eval s = v) (hx : a.eval x = u)
    (hown : w.ownsRow base e size v n xs) (hbase : base ≤ w.heap.size) (hsrc : Src w size u m ys) (h1 : ∀ u ∈ ys, u.oneCell' = true) (h63 : n + m ≤ maxLen) (hb : (n + m) * bytes ≤ 140737488355328)
    (hK : ∀ v' w', w'.ownsRow base e size v' (n + m) (xs ++ ys) → w.grownBy w' v.ownBlock → (v'.ownBlock = v.ownBlock ∨ v'.ownBlock = some w.heap.size) → K (a.put o.dst v') w') :
    if Region.wanted o (yielded ops a.tmps) = true then Oper.wp P o a w K Q else E := by
  have hw : Region.wanted o (yielded ops a.tmps) = true := by simp [Region.wanted, hg]
  rw [if_pos hw]
  obtain ⟨v', w', hrun, r1, r2, r3⟩ := run_app (ty := o.type) ht hinf hown hbase hsrc h1 h63 hb
  unfold Oper.wp
  simp [execOp, hop, resolve, invoke, builtin, hs, hx, hrun, Result.andThen]
  exact hK v' w' r1 r2 r3
/-- 'append', at the list of a plain region's operations. -/
theorem wpList_app {P : Program} {ops : Array Oper} {rest : List Oper} {o : Oper} {a : Act} {w : World} {Q : Exit → Act → World → Prop} (hgd : o.guard = none) (s x : Operand) (t : TypeId)
    (hop : o.op = Op.call { callee := Callee.builtin Builtin.append, args := #[s, x], argTypes := #[t, t] })
    {e : TypeId} {z : Value} {size bytes : Nat} (ht : P.underlying t = some (.slice e)) (hinf : Info P e z size bytes) {base n m : Nat} (v u : Value) {xs ys : List Value} (hs : a.eval s = v) (hx : a.eval x = u)
    (hown : w.ownsRow base e size v n xs) (hbase : base ≤ w.heap.size) (hsrc : Src w size u m ys) (h1 : ∀ u ∈ ys, u.oneCell' = true) (h63 : n + m ≤ maxLen) (hb : (n + m) * bytes ≤ 140737488355328)
    (hK : ∀ v' w', w'.ownsRow base e size v' (n + m) (xs ++ ys) → w.grownBy w' v.ownBlock → (v'.ownBlock = v.ownBlock ∨ v'.ownBlock = some w.heap.size) → wpList P ops Q rest (a.put o.dst v') w') : wpList P ops Q (o :: rest) a w := by
  refine wpList_plain hgd fun K' hK' => ?_
  obtain ⟨v', w', hrun, r1, r2, r3⟩ := run_app (ty := o.type) ht hinf hown hbase hsrc h1 h63 hb
  unfold Oper.wp
  simp [execOp, hop, resolve, invoke, builtin, hs, hx, hrun, Result.andThen]
  exact hK' _ _ (hK v' w' r1 r2 r3)
/-- 'make' of an empty row with room. -/
theorem make_room {P : Program} {t e : TypeId} {z : Value} {size bytes : Nat} (ht : P.underlying t = some (.slice e)) (hinf : Info P e z size bytes) (m : Nat) (zz : Int) (hzm : zz = m) (h : m * bytes ≤ 140737488355328) (h2 : m ≤ 140737488355328) :
    ∃ X : Obj, (∀ W : World, (Instr.makeSlice t (.int .i64 0) (.int .i64 zz)).run P W = .ok (.slice (some ⟨W.heap.size, 0, none⟩) 0 m) (W.alloc X)) ∧
    ∀ (W : World) (base : Nat), base ≤ W.heap.size → (W.alloc X).ownsRow base e size (.slice (some ⟨W.heap.size, 0, none⟩) 0 m) 0 [] := by
  subst hzm
  obtain ⟨i0, hi, hz0, hz1, hz2, hzs, hsz⟩ := hinf
  refine ⟨_, fun W => ?_, fun W base hb => World.ownsRow_made (size := size) W _ m hb (by unfold maxLen; omega) (size_madeCells z.cells (m * size))⟩
  have hr := run_make (P := P) W t e i0 z ht hi hz0 .i64 .i64 0 (m : Int) (Int.le_refl _) (by omega) (by rw [hz2, Int.mul_comm, ← Int.natCast_mul]; omega) (by omega)
  simp only [Int.toNat_zero, Int.toNat_natCast, hz1] at hr
  exact hr
end Own
end Go.Proofs.YthdohimjcjkneaaGreatDoor

/- The document's drop, Spawn, of a table of processes. -/
import Derived.Test.YtahcpimpmedbiaaRefPrc
import Derived.Deep.RegionHeld3
import Derived.OrdersHeld
import Derived.Deep.RegionLaw
namespace Go.Proofs.Ytahcpimpmedbiaa
open Go.ChangeShapes Go.WideShapes Go.ChangeAt Go.RowKit Go.Maps
set_option linter.unusedVariables false
set_option linter.unusedSimpArgs false
set_option maxRecDepth 100000
namespace PC
open IS (I64)
open IN (Keeps lt_of_some)
theorem elem_prcs : Try.prog.elem 35 = 43 := by kernel_rfl
theorem pdrew_keep {w : World} (n : Nat) : Below w.heap.size w (w.drewN n) := ⟨rfl, rfl, rfl, Nat.le_refl _, fun _ _ => rfl⟩
theorem pcellkept {w w' : World} {p : Addr} {v : Value} (hb : Below w.heap.size w w') (h : w.cell? p = some v) : w'.cell? p = some v := by rw [hb.cell (cell_lt h)]; exact h
theorem Keeps.drewFrom {B : Nat} {T : Nat → Obj → Prop} {w w' : World} (n : Nat) (h : Keeps B T (w.drewN n) w') : Keeps B T w w' := ⟨h.os, h.tape, h.output, h.size, h.low, h.block⟩
section
variable {base : Nat} {w w' : World} {rb N : Nat} {v : Value} {L : List Pr} {Y : Nat → Prop}
set_option maxRecDepth 100000 in
set_option maxHeartbeats 8000000 in
theorem rpdrop_any (p : Nat) (h : DW base w rb N L Y) (hp : p < L.length) (hlen : L.length ≤ 1024) :
    Calls Try.prog 38 #[.pointer (some ⟨rb, 0, none⟩), .int .i64 (p : Int)] w fun e w' => e = .returned (.tuple #[]) ∧ DO base w rb N (L.take p ++ L.drop (p + 1)) Y w' := by
  obtain ⟨v, h, hY⟩ := h
  obtain ⟨g, n, cap, rfl, hn, hpn, hnc, hcm, hbg, hgr, hgl, hrl, hgf, hrf, c0, c1, -⟩ := h.opened hp
  obtain ⟨X, hmk, hmo⟩ := Own.make_room (t := 35) und_prcs info_prc n (n : Int) rfl (by omega) (by omega)
  obtain ⟨ad, hlo, had1, had2⟩ := Own.cut_lo (t := 35) und_prcs elem_prcs info_prc g 0 n cap (p + 1) ((p : Int) + 1) (by omega) (by omega) hnc
  have hhi := Own.cut_hi (t := 35) und_prcs elem_prcs info_prc (some ⟨g, 0, none⟩) n cap p (by omega) hnc (.inr ⟨_, _, rfl⟩)
  have hwr : IntKind.i64.wrap ((p : Int) + 1) = (p : Int) + 1 := IntWalk.i64_in _ (by omega)
  have hi3 : (p : Int) + 1 ≤ (n : Int) := by omega
  have hrow : Hid (w.ownsRow base 43 5 (.slice (some ⟨g, 0, none⟩) n cap) n (pcl L)) := W_hid (by have := h.row; rw [hn] at this; exact this)
  have A1 : Hid ((w.alloc X).drew.ownsRow w.heap.size 43 5 (.slice (some ⟨w.heap.size, 0, none⟩) 0 n) 0 []) := W_hid (hmo w w.heap.size (Nat.le_refl _))
  have S1 := W_hid ((Own.src_take hrow.out rfl p (by omega)).keep (((Below.refl _ _).alloc (Nat.le_refl _) X).drew))
  have S2 := W_hid ((Own.src_drop hrow.out (p + 1) (by omega) ad (cap - (p + 1)) (by simpa using had2)).keep (((Below.refl _ _).alloc (Nat.le_refl _) X).drew))
  have hone1 : Hid (∀ u ∈ (pcl L).take (p * 5), u.oneCell' = true) := W_hid (fun u hu => pcl_one_cell L u (List.mem_of_mem_take hu))
  have hone2 : Hid (∀ u ∈ (pcl L).drop ((p + 1) * 5), u.oneCell' = true) := W_hid (fun u hu => pcl_one_cell L u (List.mem_of_mem_drop hu))
  have hcut : Hid ([] ++ (pcl L).take (p * 5) ++ (pcl L).drop ((p + 1) * 5) = pcl (L.take p ++ L.drop (p + 1)) ∧ 0 + p + (n - (p + 1)) = (L.take p ++ L.drop (p + 1)).length) := W_hid ⟨by rw [pcl_take, pcl_drop, pcl_app]; rfl, by rw [List.length_append, List.length_take, List.length_drop, hn]; omega⟩
  have hend := W_hid (fun (w3 : World) (v3 : Value) (hb : Below w.heap.size w w3) (ho : w3.ownsRow w.heap.size 43 5 v3 (L.take p ++ L.drop (p + 1)).length (pcl (L.take p ++ L.drop (p + 1)))) => h.newRow hb ho)
  obtain ⟨adb, ado, ads⟩ := ad
  simp only at had1
  obtain rfl := had1.symm
  have xa : ∀ ob, (w.alloc ob).cell? ⟨rb, 1, none⟩ = some (.slice (some ⟨g, 0, none⟩) n cap) := fun ob => (h.box.alloc ob).cell rfl
  have H := W_hid h
  rw [hn] at hlen
  replace hn := W_hid hn
  replace hrow := W_hid hrow.out
  have hbl1 : Hid (g < w.heap.size) := W_hid hgl
  have hgl1 : Hid (rb < w.heap.size) := W_hid hrl
  have hY := W_hid hY
  clear h had2 hmo hp c0
  go_enter Try.func38, Try.ntmps38
  go_wp2_with fail
  go_region_law (first
    | (refine Own.step_app rfl (.tmp 10) (.tmp 16) 35 rfl und_prcs info_prc (.slice (some ⟨w.heap.size, 0, none⟩) 0 n) (.slice (some ⟨g, 0, none⟩) p cap) rfl rfl A1.out (by simp) S1.out hone1.out (by unfold maxLen; omega) (by omega) ?_
       intro v2 w2 ho2 hg2 hob2
       have A2 := W_hid ho2
       have S3 := W_hid (Own.Src.grown S2.out hg2 (fun ad n c e _ => by simp only [Value.slice.injEq, Option.some.injEq] at e; have := hbl1.out; obtain ⟨rfl, -, -⟩ := e; simp [Value.ownBlock]; omega))
       have x2b : w2.cell? ⟨rb, 1, none⟩ = some (.slice (some ⟨g, 0, none⟩) n cap) := Own.cellg hg2 (xa X) (by have := hgl1.out; simp [Value.ownBlock]; omega)
       have B2 := W_hid ((((Below.refl w.heap.size w).alloc (Nat.le_refl _) X).drew).grown hg2 (by simp) (fun j hj => Own.ge A1.out j hj))
       clear ho2 hg2 hob2)
    | (refine Own.step_app rfl (.tmp 17) (.tmp 24) 35 rfl und_prcs info_prc v2 (.slice (some ⟨g, ado, ads⟩) (n - (p + 1)) (cap - (p + 1))) rfl rfl A2.out B2.out.size S3.out hone2.out (by unfold maxLen; omega) (by omega) ?_
       intro v3 w3 ho3 hg3 hob3
       obtain ⟨a3, c3, rfl⟩ := Own.form ho3
       have B3 := W_hid (B2.out.grown hg3 B2.out.size (fun k h => Own.ge A2.out k h))
       have A3 := W_hid ho3
       have bx3 := H.out.box.below B3.out hgl1.out
       have x3b := bx3.cell (j := 1) rfl
       have f3b := bx3.fz
       clear ho3 hg3 hob3 bx3))
  all_goals
    go_end0
    have ho3 := A3.out
    have e2 := hcut.out.2
    rw [hcut.out.1] at ho3
    simp only [Nat.zero_add] at ho3 e2
    rw [e2] at ho3
    rw [e2]
    obtain ⟨q1, q2, q3⟩ := hend.out w3 _ B3.out ho3
    exact ⟨rfl, _, ⟨_, q1, fun k => Iff.rfl⟩, keeps_iff q2 fun k hk => (hY.out k).2 hk, fun k hk => (q3 k hk).imp (fun h => (hY.out k).2 h) id⟩

set_option maxRecDepth 100000 in
set_option maxHeartbeats 8000000 in
theorem rpSpawn_any (h : DW base w rb N L Y) (hG : Good N L) (pp nn : Int) :
    Calls Try.prog 24 #[.pointer (some ⟨rb, 0, none⟩), .int .i64 pp, .int .i64 nn] w fun e w' => e = .returned (.tuple #[.int .i64 (spawnR N L pp nn).1.1, .int .i64 (spawnR N L pp nn).1.2]) ∧ DO base w rb N (spawnR N L pp nn).2 Y w' := by
  have hid : Hid (∀ w', Below w.heap.size w w' → DO base w rb N L Y w') := W_hid fun _ hb => h.same hb
  obtain ⟨v, hM, hY⟩ := h
  have hlen1024 : L.length ≤ 1024 := by have := hG.len; have := hG.top; omega
  have hruns := rpruns_any pp hM hlen1024
  unfold runR at hruns
  unfold spawnR
  have hn := fun w => rIsNice_any nn w
  cases hr : runs L pp with
  | false =>
    rw [if_pos rfl]
    rw [hr, if_neg (by simp)] at hruns
    obtain ⟨r, hr'⟩ : ∃ r, isNice nn = r := ⟨_, rfl⟩
    rw [hr'] at hn
    clear hM hY hG hr hr'
    go_enter Try.func24, Try.ntmps24
    go_wp2_with (first
      | (go_at_call 36; refine (hn _).mono ?_; rintro e w' ⟨rfl, rfl⟩)
      | (go_at_call 37; refine hruns.mono ?_; rintro e w' ⟨rfl, rfl⟩))
    go_ret2
    exact ⟨rfl, hid.out _ (Below.refl _ _)⟩
  | true =>
    rw [if_neg (by simp)]
    rw [hr, if_pos rfl] at hruns
    obtain ⟨q0, hq0⟩ : ∃ q0, pos L pp = q0 := ⟨_, rfl⟩
    rw [hq0] at hruns
    have hd0 : decide ((q0 : Int) < 0) = false := by simp
    cases hni : isNice nn with
    | false =>
      rw [if_pos rfl]
      rw [hni] at hn
      clear hM hY hG hr hni hq0
      go_enter Try.func24, Try.ntmps24
      go_wp2_with (first
        | (go_at_call 36; refine (hn _).mono ?_; rintro e w' ⟨rfl, rfl⟩)
        | (go_at_call 37; refine hruns.mono ?_; rintro e w' ⟨rfl, rfl⟩))
      go_ret2
      exact ⟨rfl, hid.out _ (Below.refl _ _)⟩
    | true =>
      rw [if_neg (by simp)]
      rw [hni] at hn
      have hL0 : 0 < L.length := by obtain ⟨x1, m1, -⟩ := hG.one; exact List.length_pos_of_mem m1
      obtain ⟨g, n, cap, rfl, hnl, -, hnc, hcm, hbg, hgr, hgl, hrl, hgf, hrf, c0, c1, -⟩ := hM.opened hL0
      obtain ⟨lo, hlo⟩ : ∃ lo, low L = lo := ⟨_, rfl⟩
      have hlon : lo ≤ n := by have := low_le L; omega
      have hel : Hid (∀ j (hj : j < L.length), (j < lo → L[j].pid = (j : Int) + 1) ∧ (j = lo → ¬ L[j].pid = (j : Int) + 1)) := W_hid (by
        intro j hj
        rw [← hlo]
        refine ⟨fun h => low_at hj h, fun h => ?_⟩
        subst h
        exact low_stop hj)
      have H := W_hid hM
      have hln := hG.len
      rw [hnl] at hln hlen1024
      have d0N : ∀ k, (w.drewN k).cell? ⟨rb, 0, none⟩ = some (.int .i64 (N : Int)) := fun k => Blk.cell (w := w) hM.box (j := 0) rfl
      have d1N : ∀ k, (w.drewN k).cell? ⟨rb, 1, none⟩ = some (.slice (some ⟨g, 0, none⟩) n cap) := fun k => Blk.cell (w := w) hM.box (j := 1) rfl
      by_cases hfull : n = N
      · rw [if_pos (by rw [hnl]; exact hfull)]
        subst hfull
        clear hM hY hG hr hni hq0 hlo
        go_enter Try.func24, Try.ntmps24
        go_wp2_with (first
          | (go_at_call 36; refine (hn _).mono ?_; rintro e w' ⟨rfl, rfl⟩)
          | (go_at_call 37; refine hruns.mono ?_; rintro e w' ⟨rfl, rfl⟩))
        go_quiet (fail)
        go_wp2_with fail
        go_ret2
        exact ⟨rfl, hid.out _ (pdrew_keep _)⟩
      · rw [if_neg (by rw [hnl]; exact hfull)]
        have hnN : (n : Int) < (N : Int) := by omega
        have hspl : Hid (spawnL L pp nn = L.take lo ++ ⟨(lo : Int) + 1, pp, 1, 0, nn⟩ :: L.drop lo) := W_hid (by unfold spawnL newP; rw [hlo])
        rw [hlo]
        have hY := W_hid hY
        replace hnl := W_hid hnl
        obtain ⟨X, hmk, hmo⟩ := Own.make_room (t := 35) und_prcs info_prc (n + 1) ((n : Int) + 1) (by omega) (by omega) (by omega)
        have hhi := Own.cut_hi (t := 35) und_prcs elem_prcs info_prc (some ⟨g, 0, none⟩) n cap lo hlon hnc (.inr ⟨_, _, rfl⟩)
        obtain ⟨ad, hlo3, had1, had2⟩ := Own.cut_lo (t := 35) und_prcs elem_prcs info_prc g 0 n cap lo (lo : Int) rfl hlon hnc
        have hwN : IntKind.i64.wrap ((n : Int) + 1) = (n : Int) + 1 := IntWalk.i64_in _ (by omega)
        have hwP : IntKind.i64.wrap ((lo : Int) + 1) = (lo : Int) + 1 := IntWalk.i64_in _ (by omega)
        have hPN' : (lo : Int) ≤ (n : Int) := by omega
        have hmo := W_hid hmo
        have had2 := W_hid had2
        have hhi := W_hid hhi
        clear hM hG hr hni hq0 hlo hfull
        go_enter Try.func24, Try.ntmps24
        go_wp2_with (first
          | (go_at_call 36; refine (hn _).mono ?_; rintro e w' ⟨rfl, rfl⟩)
          | (go_at_call 37; refine hruns.mono ?_; rintro e w' ⟨rfl, rfl⟩))
        go_quiet (fail)
        go_wp2_with fail
        have H1 := W_hid (H.out.drewN nq)
        have hb1 := W_hid (pdrew_keep (w := w) nq)
        have d0 := d0N nq
        have d1 := d1N nq
        obtain ⟨w1, hw1⟩ : ∃ w1, w.drewN nq = w1 := ⟨_, rfl⟩
        have hw1s : w1.heap.size = w.heap.size := by rw [← hw1]; rfl
        rw [hw1] at H1 hb1 d0 d1 ⊢
        replace hw1s := W_hid hw1s
        replace hw1 := W_hid hw1
        clear c0 c1 d0N d1N
        go_loopw [9] (fun i wr => ∃ j : Nat, j ≤ lo ∧ i = .int .i64 (j : Int) ∧ w1 = wr) (fun i _ => lo - (intOf i).toNat)
        case atStart => exact ⟨0, Nat.zero_le _, rfl, rfl⟩
        case round =>
          obtain ⟨j, hj, rfl, hwr⟩ := hrel
          subst hwr
          by_cases hjP : j < lo
          · have hjq : j < L.length := by rw [hnl.out]; omega
            obtain ⟨g', n', cap', hv, hn', -, -, -, -, -, -, -, -, -, -, -, e0, -⟩ := H1.out.opened hjq
            simp only [Value.slice.injEq, Option.some.injEq, Addr.mk.injEq, and_true, true_and] at hv
            obtain ⟨rfl, -, -⟩ := hv
            rw [(hel.out j hjq).1 hjP] at e0
            have hjN : (j : Int) < (n : Int) := by omega
            have hwj : IntKind.i64.wrap ((j : Int) + 1) = (j : Int) + 1 := IntWalk.i64_in _ (by omega)
            clear hn' n' hjq
            go_wp2_with fail
            go_roundw
            case rel => exact ⟨j + 1, by omega, by go_num, by first | trivial | rfl⟩
            case measure => simp [intOf]; omega
          · obtain rfl : j = lo := by omega
            have hcase : Hid (j = n) ∨ (j < n ∧ ∃ a, w1.cell? ⟨g, j * 5, none⟩ = some (.int .i64 a) ∧ ¬ a = (j : Int) + 1) := by
              rcases Nat.lt_or_ge j n with hlt | hge
              · right
                have hjq : j < L.length := by rw [hnl.out]; omega
                obtain ⟨g', n', cap', hv, hn', -, -, -, -, -, -, -, -, -, -, -, e0, -⟩ := H1.out.opened hjq
                simp only [Value.slice.injEq, Option.some.injEq, Addr.mk.injEq, and_true, true_and] at hv
                obtain ⟨rfl, -, -⟩ := hv
                exact ⟨hlt, _, e0, (hel.out j hjq).2 rfl⟩
              · left; exact W_hid (by omega)
            have hrowL : w1.ownsRow base 43 5 (.slice (some ⟨g, 0, none⟩) n cap) n (pcl L) := by have := H1.out.row; rw [hnl.out] at this; exact this
            have hS1 := W_hid (Own.src_take (v := .slice (some ⟨g, 0, none⟩) n cap) hrowL rfl j hlon)
            have hone1 : Hid (∀ u ∈ (pcl L).take (j * 5), u.oneCell' = true) := W_hid (fun u hu => pcl_one_cell L u (List.mem_of_mem_take hu))
            have hone3 : Hid (∀ u ∈ (pcl L).drop (j * 5), u.oneCell' = true) := W_hid (fun u hu => pcl_one_cell L u (List.mem_of_mem_drop hu))
            have hsrc3 : Hid (Own.Src w1 5 (.slice (some ad) (n - j) (cap - j)) (n - j) ((pcl L).drop (j * 5))) := W_hid (Own.src_drop hrowL j hlon ad _ had2.out)
            have hgl1 : Hid (ad.block < w1.heap.size) := W_hid (by rw [had1, hw1s.out]; exact hgl)
            have xa : ∀ ob, (w1.drew.alloc ob).cell? ⟨rb, 1, none⟩ = some (.slice (some ⟨g, 0, none⟩) n cap) := fun ob => pcellkept (((Below.refl w1.heap.size w1).drew).alloc (Nat.le_refl _) ob) d1
            have A1 : Hid ((w1.drew.alloc X).ownsRow w1.heap.size 43 5 (.slice (some ⟨w1.heap.size, 0, none⟩) 0 (n + 1)) 0 []) := W_hid (hmo.out w1.drew w1.heap.size (Nat.le_refl _))
            have hrl1 := W_hid H1.out.box.lt
            have hbS := W_hid (((Below.refl w1.heap.size w1).drew).alloc (Nat.le_refl _) X)
            have hhi' := hhi.out
            replace hrowL := W_hid hrowL
            rcases hcase with h1 | ⟨h1, a, e0, e1⟩
            · have hge : (n : Int) ≤ (j : Int) := by have := h1.out; omega
              go_wp2_with fail
              refine wp_region_held_drew (S := (fun w' => w'.cell? ⟨rb, 1, none⟩ = some (.slice (some ⟨g, 0, none⟩) n cap))) (by kernel_rfl) d1 (fun hHeld => ?_)
              refine wpAnyH_take (i := 0) (v := .pointer (some ⟨rb, 0, none⟩)) rfl (by kernel_rfl) (by kernel_rfl) (by kernel_rfl) (fun _ _ _ h => h) (Or.inl ⟨by rfl, fun w0 s1 => ?_⟩) hHeld ?_
              · go_simp
              try simp only [Act.put, List.setIfInBounds_toArray, List.set_cons_zero, List.set_cons_succ, List.getElem_toArray, List.getElem_cons_zero, List.getElem_cons_succ]
              refine wpAnyH_take (i := 1) (v := .pointer (some ⟨rb, 0, none⟩)) rfl (by kernel_rfl) (by kernel_rfl) (by kernel_rfl) (fun _ _ _ h => h) (Or.inl ⟨by rfl, fun w0 s1 => ?_⟩) hHeld ?_
              · go_simp
              try simp only [Act.put, List.setIfInBounds_toArray, List.set_cons_zero, List.set_cons_succ, List.getElem_toArray, List.getElem_cons_zero, List.getElem_cons_succ]
              refine wpAnyH_take (i := 2) (v := .pointer (some ⟨rb, 1, none⟩)) rfl (by kernel_rfl) (by kernel_rfl) (by kernel_rfl) (fun _ _ _ h => h) (Or.inl ⟨by rfl, fun w0 s1 => ?_⟩) hHeld ?_
              · go_simp
              try simp only [Act.put, List.setIfInBounds_toArray, List.set_cons_zero, List.set_cons_succ, List.getElem_toArray, List.getElem_cons_zero, List.getElem_cons_succ]
              refine wpAnyH_take (i := 3) (v := .slice (some ⟨g, 0, none⟩) n cap) rfl (by kernel_rfl) (by kernel_rfl) (by kernel_rfl) (fun _ _ _ h => h) (Or.inl ⟨by rfl, fun w0 s1 => ?_⟩) hHeld ?_
              · go_simp
              try simp only [Act.put, List.setIfInBounds_toArray, List.set_cons_zero, List.set_cons_succ, List.getElem_toArray, List.getElem_cons_zero, List.getElem_cons_succ]
              refine wpAnyH_take (i := 4) (v := .int .i64 (n : Int)) rfl (by kernel_rfl) (by kernel_rfl) (by kernel_rfl) (fun _ _ _ h => h) (Or.inl ⟨by rfl, fun w0 s1 => ?_⟩) hHeld ?_
              · go_simp
              try simp only [Act.put, List.setIfInBounds_toArray, List.set_cons_zero, List.set_cons_succ, List.getElem_toArray, List.getElem_cons_zero, List.getElem_cons_succ]
              refine wpAnyH_take (i := 5) (v := .int .i64 ((n : Int) + 1)) rfl (by kernel_rfl) (by kernel_rfl) (by kernel_rfl) (fun _ _ _ h => h) (Or.inl ⟨by rfl, fun w0 s1 => ?_⟩) hHeld ?_
              · go_simp
              try simp only [Act.put, List.setIfInBounds_toArray, List.set_cons_zero, List.set_cons_succ, List.getElem_toArray, List.getElem_cons_zero, List.getElem_cons_succ]
              refine wpAnyH_take (i := 7) (v := .pointer (some ⟨rb, 0, none⟩)) rfl (by kernel_rfl) (by kernel_rfl) (by kernel_rfl) (fun _ _ _ h => h) (Or.inl ⟨by rfl, fun w0 s1 => ?_⟩) hHeld ?_
              · go_simp
              try simp only [Act.put, List.setIfInBounds_toArray, List.set_cons_zero, List.set_cons_succ, List.getElem_toArray, List.getElem_cons_zero, List.getElem_cons_succ]
              refine wpAnyH_take (i := 8) (v := .pointer (some ⟨rb, 0, none⟩)) rfl (by kernel_rfl) (by kernel_rfl) (by kernel_rfl) (fun _ _ _ h => h) (Or.inl ⟨by rfl, fun w0 s1 => ?_⟩) hHeld ?_
              · go_simp
              try simp only [Act.put, List.setIfInBounds_toArray, List.set_cons_zero, List.set_cons_succ, List.getElem_toArray, List.getElem_cons_zero, List.getElem_cons_succ]
              refine wpAnyH_take (i := 9) (v := .pointer (some ⟨rb, 1, none⟩)) rfl (by kernel_rfl) (by kernel_rfl) (by kernel_rfl) (fun _ _ _ h => h) (Or.inl ⟨by rfl, fun w0 s1 => ?_⟩) hHeld ?_
              · go_simp
              try simp only [Act.put, List.setIfInBounds_toArray, List.set_cons_zero, List.set_cons_succ, List.getElem_toArray, List.getElem_cons_zero, List.getElem_cons_succ]
              refine wpAnyH_take (i := 10) (v := .slice (some ⟨g, 0, none⟩) n cap) rfl (by kernel_rfl) (by kernel_rfl) (by kernel_rfl) (fun _ _ _ h => h) (Or.inl ⟨by rfl, fun w0 s1 => ?_⟩) hHeld ?_
              · go_simp
              try simp only [Act.put, List.setIfInBounds_toArray, List.set_cons_zero, List.set_cons_succ, List.getElem_toArray, List.getElem_cons_zero, List.getElem_cons_succ]
              refine wpAnyH_take (i := 11) (v := .int .i64 (j : Int)) rfl (by kernel_rfl) (by kernel_rfl) (by kernel_rfl) (fun _ _ _ h => h) (Or.inl ⟨by rfl, fun w0 s1 => ?_⟩) hHeld ?_
              · go_simp
              try simp only [Act.put, List.setIfInBounds_toArray, List.set_cons_zero, List.set_cons_succ, List.getElem_toArray, List.getElem_cons_zero, List.getElem_cons_succ]
              refine wpAnyH_take (i := 12) (v := .slice (some ⟨g, 0, none⟩) j cap) rfl (by kernel_rfl) (by kernel_rfl) (by kernel_rfl) (fun _ _ _ h => h) (Or.inl ⟨by rfl, fun w0 s1 => ?_⟩) hHeld ?_
              · go_simp
              try simp only [Act.put, List.setIfInBounds_toArray, List.set_cons_zero, List.set_cons_succ, List.getElem_toArray, List.getElem_cons_zero, List.getElem_cons_succ]
              refine wpAnyH_ready (rs := [6]) (by kernel_rfl) (by simp) ?_
              refine AllReadyH.cons rfl (fun K hK => ?_) AllReadyH.nil
              go_simp
              refine hK.out _ _ (xa X) (fun hHeld1 => ?_)
              clear hK K
              try simp only [Act.put, List.setIfInBounds_toArray, List.set_cons_zero, List.set_cons_succ, List.getElem_toArray, List.getElem_cons_zero, List.getElem_cons_succ]
              refine wpAnyH_ready (rs := [13]) (by kernel_rfl) (by simp) ?_
              refine AllReadyH.cons rfl (fun K hK => ?_) AllReadyH.nil
              refine Own.step_app rfl (.tmp 60) (.tmp 66) 35 rfl und_prcs info_prc (.slice (some ⟨w1.heap.size, 0, none⟩) 0 (n + 1)) (.slice (some ⟨g, 0, none⟩) j cap) rfl rfl A1.out (by simp) (hS1.out.keep hbS.out) hone1.out (by unfold maxLen; omega) (by omega) ?_
              intro v2 w2 ho2 hg2 hob2
              rw [Nat.zero_add] at ho2
              obtain ⟨a2, c2, rfl⟩ := Own.form ho2
              have A2 := W_hid ho2
              have B2 := W_hid (hbS.out.grown hg2 (by simp) (fun jj hj => Own.ge A1.out jj hj))
              have y2 := pcellkept B2.out d1
              clear ho2 hg2 hob2
              refine hK.out _ _ y2 (fun hHeld2 => ?_)
              clear hK K
              try simp only [Act.put, List.setIfInBounds_toArray, List.set_cons_zero, List.set_cons_succ, List.getElem_toArray, List.getElem_cons_zero, List.getElem_cons_succ]
              refine wpAnyH_take (i := 14) (v := .slice a2 j c2) rfl (by kernel_rfl) (by kernel_rfl) (by kernel_rfl) (fun _ _ _ h => h) (Or.inl ⟨by rfl, fun w0 s1 => ?_⟩) hHeld2 ?_
              · go_simp
              try simp only [Act.put, List.setIfInBounds_toArray, List.set_cons_zero, List.set_cons_succ, List.getElem_toArray, List.getElem_cons_zero, List.getElem_cons_succ]
              refine wpAnyH_done (by kernel_rfl) ?_ _
              have hblk := Blk.new w2 43 (prow ⟨(j : Int) + 1, pp, 1, 0, nn⟩) (x := w2.heap.size) rfl
              have B2a := W_hid (B2.out.alloc B2.out.size (.cells #[.int .i64 ((j : Int) + 1), .int .i64 pp, .int .i64 1, .int .i64 0, .int .i64 nn] 43))
              have A2a := W_hid (Own.below A2.out ((Below.refl w2.heap.size w2).alloc (Nat.le_refl _) (.cells #[.int .i64 ((j : Int) + 1), .int .i64 pp, .int .i64 1, .int .i64 0, .int .i64 nn] 43)))
              have S2a : Hid (Own.Src (w2.alloc (.cells #[.int .i64 ((j : Int) + 1), .int .i64 pp, .int .i64 1, .int .i64 0, .int .i64 nn] 43)) 5 (.slice (some ⟨w2.heap.size, 0, none⟩) 1 1) 1 (prow ⟨(j : Int) + 1, pp, 1, 0, nn⟩)) := W_hid (.inr ⟨_, _, rfl, rfl, fun i u hi => by
                have := hblk.cell hi
                rw [Addr.add_lit, Nat.zero_add]
                exact this⟩)
              clear hblk
              go_wp2_with (first
                | (at_builtin; refine Own.wpList_app rfl (.tmp 68) (.tmp 74) 35 rfl und_prcs info_prc (.slice a2 j c2) (.slice (some ⟨w2.heap.size, 0, none⟩) 1 1) rfl rfl A2a.out B2a.out.size S2a.out (prow_one _) (by unfold maxLen; omega) (by omega) ?_; intro v3 w3 ho3 hg3 hob3; obtain ⟨a3, c3, rfl⟩ := Own.form ho3; have A3 := W_hid ho3; have B3 := W_hid (B2a.out.grown hg3 B2a.out.size (fun k h => Own.ge A2a.out k h)); have S3 := W_hid (hsrc3.out.keep B3.out); have y7 := pcellkept B3.out d1; clear ho3 hg3 hob3)
                | (at_builtin; refine Own.wpList_app rfl (.tmp 77) (.tmp 83) 35 rfl und_prcs info_prc (.slice a3 (j + 1) c3) (.slice (some ad) (n - j) (cap - j)) rfl rfl A3.out B3.out.size S3.out hone3.out (by unfold maxLen; omega) (by omega) ?_; intro v4 w4 ho4 hg4 hob4; obtain ⟨a4, c4, rfl⟩ := Own.form ho4; have B4 := W_hid (B3.out.grown hg4 B3.out.size (fun k h => Own.ge A3.out k h)); have A4 := W_hid ho4; have f4 := (H1.out.box.below B4.out hrl1.out).fz; have z7 := (H1.out.box.below B4.out hrl1.out).cell (j := 1) rfl; clear ho4 hg4 hob4))
              go_ret2
              obtain ⟨q1, q2, q3⟩ := H1.out.newRow (L' := L.take j ++ ⟨(j : Int) + 1, pp, 1, 0, nn⟩ :: L.drop j) B4.out (by
                have e1 : (L.take j ++ (⟨(j : Int) + 1, pp, 1, 0, nn⟩ : Pr) :: L.drop j).length = j + 1 + (n - j) := by
                  rw [List.length_append, List.length_take, List.length_cons, List.length_drop, hnl.out]; omega
                have e2 : pcl (L.take j ++ (⟨(j : Int) + 1, pp, 1, 0, nn⟩ : Pr) :: L.drop j) = [] ++ (pcl L).take (j * 5) ++ prow ⟨(j : Int) + 1, pp, 1, 0, nn⟩ ++ (pcl L).drop (j * 5) := by
                  rw [pcl_take, pcl_drop, show L.take j ++ (⟨(j : Int) + 1, pp, 1, 0, nn⟩ : Pr) :: L.drop j = L.take j ++ ([⟨(j : Int) + 1, pp, 1, 0, nn⟩] ++ L.drop j) from rfl, pcl_app, pcl_app, pcl_one]
                  simp only [List.nil_append, List.append_assoc]
                rw [e1, e2]
                exact A4.out)
              refine ⟨by first | rfl | simp, ?_⟩
              rw [hspl.out]
              refine ⟨_, ⟨_, q1, fun k => Iff.rfl⟩, (Keeps.new hb1.out H.out.base_le).trans (keeps_iff q2 fun k hk => (hY.out k).2 hk), fun k hk => (q3 k hk).imp (fun h => (hY.out k).2 h) (fun h => by rw [← hw1s.out]; exact h)⟩
            · have hlt : (j : Int) < (n : Int) := by omega
              go_wp2_with fail
              refine wp_region_held_drew (S := (fun w' => w'.cell? ⟨rb, 1, none⟩ = some (.slice (some ⟨g, 0, none⟩) n cap))) (by kernel_rfl) d1 (fun hHeld => ?_)
              refine wpAnyH_take (i := 0) (v := .pointer (some ⟨rb, 0, none⟩)) rfl (by kernel_rfl) (by kernel_rfl) (by kernel_rfl) (fun _ _ _ h => h) (Or.inl ⟨by rfl, fun w0 s1 => ?_⟩) hHeld ?_
              · go_simp
              try simp only [Act.put, List.setIfInBounds_toArray, List.set_cons_zero, List.set_cons_succ, List.getElem_toArray, List.getElem_cons_zero, List.getElem_cons_succ]
              refine wpAnyH_take (i := 1) (v := .pointer (some ⟨rb, 0, none⟩)) rfl (by kernel_rfl) (by kernel_rfl) (by kernel_rfl) (fun _ _ _ h => h) (Or.inl ⟨by rfl, fun w0 s1 => ?_⟩) hHeld ?_
              · go_simp
              try simp only [Act.put, List.setIfInBounds_toArray, List.set_cons_zero, List.set_cons_succ, List.getElem_toArray, List.getElem_cons_zero, List.getElem_cons_succ]
              refine wpAnyH_take (i := 2) (v := .pointer (some ⟨rb, 1, none⟩)) rfl (by kernel_rfl) (by kernel_rfl) (by kernel_rfl) (fun _ _ _ h => h) (Or.inl ⟨by rfl, fun w0 s1 => ?_⟩) hHeld ?_
              · go_simp
              try simp only [Act.put, List.setIfInBounds_toArray, List.set_cons_zero, List.set_cons_succ, List.getElem_toArray, List.getElem_cons_zero, List.getElem_cons_succ]
              refine wpAnyH_take (i := 3) (v := .slice (some ⟨g, 0, none⟩) n cap) rfl (by kernel_rfl) (by kernel_rfl) (by kernel_rfl) (fun _ _ _ h => h) (Or.inl ⟨by rfl, fun w0 s1 => ?_⟩) hHeld ?_
              · go_simp
              try simp only [Act.put, List.setIfInBounds_toArray, List.set_cons_zero, List.set_cons_succ, List.getElem_toArray, List.getElem_cons_zero, List.getElem_cons_succ]
              refine wpAnyH_take (i := 4) (v := .int .i64 (n : Int)) rfl (by kernel_rfl) (by kernel_rfl) (by kernel_rfl) (fun _ _ _ h => h) (Or.inl ⟨by rfl, fun w0 s1 => ?_⟩) hHeld ?_
              · go_simp
              try simp only [Act.put, List.setIfInBounds_toArray, List.set_cons_zero, List.set_cons_succ, List.getElem_toArray, List.getElem_cons_zero, List.getElem_cons_succ]
              refine wpAnyH_take (i := 5) (v := .int .i64 ((n : Int) + 1)) rfl (by kernel_rfl) (by kernel_rfl) (by kernel_rfl) (fun _ _ _ h => h) (Or.inl ⟨by rfl, fun w0 s1 => ?_⟩) hHeld ?_
              · go_simp
              try simp only [Act.put, List.setIfInBounds_toArray, List.set_cons_zero, List.set_cons_succ, List.getElem_toArray, List.getElem_cons_zero, List.getElem_cons_succ]
              refine wpAnyH_take (i := 7) (v := .pointer (some ⟨rb, 0, none⟩)) rfl (by kernel_rfl) (by kernel_rfl) (by kernel_rfl) (fun _ _ _ h => h) (Or.inl ⟨by rfl, fun w0 s1 => ?_⟩) hHeld ?_
              · go_simp
              try simp only [Act.put, List.setIfInBounds_toArray, List.set_cons_zero, List.set_cons_succ, List.getElem_toArray, List.getElem_cons_zero, List.getElem_cons_succ]
              refine wpAnyH_take (i := 8) (v := .pointer (some ⟨rb, 0, none⟩)) rfl (by kernel_rfl) (by kernel_rfl) (by kernel_rfl) (fun _ _ _ h => h) (Or.inl ⟨by rfl, fun w0 s1 => ?_⟩) hHeld ?_
              · go_simp
              try simp only [Act.put, List.setIfInBounds_toArray, List.set_cons_zero, List.set_cons_succ, List.getElem_toArray, List.getElem_cons_zero, List.getElem_cons_succ]
              refine wpAnyH_take (i := 9) (v := .pointer (some ⟨rb, 1, none⟩)) rfl (by kernel_rfl) (by kernel_rfl) (by kernel_rfl) (fun _ _ _ h => h) (Or.inl ⟨by rfl, fun w0 s1 => ?_⟩) hHeld ?_
              · go_simp
              try simp only [Act.put, List.setIfInBounds_toArray, List.set_cons_zero, List.set_cons_succ, List.getElem_toArray, List.getElem_cons_zero, List.getElem_cons_succ]
              refine wpAnyH_take (i := 10) (v := .slice (some ⟨g, 0, none⟩) n cap) rfl (by kernel_rfl) (by kernel_rfl) (by kernel_rfl) (fun _ _ _ h => h) (Or.inl ⟨by rfl, fun w0 s1 => ?_⟩) hHeld ?_
              · go_simp
              try simp only [Act.put, List.setIfInBounds_toArray, List.set_cons_zero, List.set_cons_succ, List.getElem_toArray, List.getElem_cons_zero, List.getElem_cons_succ]
              refine wpAnyH_take (i := 11) (v := .int .i64 (j : Int)) rfl (by kernel_rfl) (by kernel_rfl) (by kernel_rfl) (fun _ _ _ h => h) (Or.inl ⟨by rfl, fun w0 s1 => ?_⟩) hHeld ?_
              · go_simp
              try simp only [Act.put, List.setIfInBounds_toArray, List.set_cons_zero, List.set_cons_succ, List.getElem_toArray, List.getElem_cons_zero, List.getElem_cons_succ]
              refine wpAnyH_take (i := 12) (v := .slice (some ⟨g, 0, none⟩) j cap) rfl (by kernel_rfl) (by kernel_rfl) (by kernel_rfl) (fun _ _ _ h => h) (Or.inl ⟨by rfl, fun w0 s1 => ?_⟩) hHeld ?_
              · go_simp
              try simp only [Act.put, List.setIfInBounds_toArray, List.set_cons_zero, List.set_cons_succ, List.getElem_toArray, List.getElem_cons_zero, List.getElem_cons_succ]
              refine wpAnyH_ready (rs := [6]) (by kernel_rfl) (by simp) ?_
              refine AllReadyH.cons rfl (fun K hK => ?_) AllReadyH.nil
              go_simp
              refine hK.out _ _ (xa X) (fun hHeld1 => ?_)
              clear hK K
              try simp only [Act.put, List.setIfInBounds_toArray, List.set_cons_zero, List.set_cons_succ, List.getElem_toArray, List.getElem_cons_zero, List.getElem_cons_succ]
              refine wpAnyH_ready (rs := [13]) (by kernel_rfl) (by simp) ?_
              refine AllReadyH.cons rfl (fun K hK => ?_) AllReadyH.nil
              refine Own.step_app rfl (.tmp 60) (.tmp 66) 35 rfl und_prcs info_prc (.slice (some ⟨w1.heap.size, 0, none⟩) 0 (n + 1)) (.slice (some ⟨g, 0, none⟩) j cap) rfl rfl A1.out (by simp) (hS1.out.keep hbS.out) hone1.out (by unfold maxLen; omega) (by omega) ?_
              intro v2 w2 ho2 hg2 hob2
              rw [Nat.zero_add] at ho2
              obtain ⟨a2, c2, rfl⟩ := Own.form ho2
              have A2 := W_hid ho2
              have B2 := W_hid (hbS.out.grown hg2 (by simp) (fun jj hj => Own.ge A1.out jj hj))
              have y2 := pcellkept B2.out d1
              clear ho2 hg2 hob2
              refine hK.out _ _ y2 (fun hHeld2 => ?_)
              clear hK K
              try simp only [Act.put, List.setIfInBounds_toArray, List.set_cons_zero, List.set_cons_succ, List.getElem_toArray, List.getElem_cons_zero, List.getElem_cons_succ]
              refine wpAnyH_take (i := 14) (v := .slice a2 j c2) rfl (by kernel_rfl) (by kernel_rfl) (by kernel_rfl) (fun _ _ _ h => h) (Or.inl ⟨by rfl, fun w0 s1 => ?_⟩) hHeld2 ?_
              · go_simp
              try simp only [Act.put, List.setIfInBounds_toArray, List.set_cons_zero, List.set_cons_succ, List.getElem_toArray, List.getElem_cons_zero, List.getElem_cons_succ]
              refine wpAnyH_done (by kernel_rfl) ?_ _
              have hblk := Blk.new w2 43 (prow ⟨(j : Int) + 1, pp, 1, 0, nn⟩) (x := w2.heap.size) rfl
              have B2a := W_hid (B2.out.alloc B2.out.size (.cells #[.int .i64 ((j : Int) + 1), .int .i64 pp, .int .i64 1, .int .i64 0, .int .i64 nn] 43))
              have A2a := W_hid (Own.below A2.out ((Below.refl w2.heap.size w2).alloc (Nat.le_refl _) (.cells #[.int .i64 ((j : Int) + 1), .int .i64 pp, .int .i64 1, .int .i64 0, .int .i64 nn] 43)))
              have S2a : Hid (Own.Src (w2.alloc (.cells #[.int .i64 ((j : Int) + 1), .int .i64 pp, .int .i64 1, .int .i64 0, .int .i64 nn] 43)) 5 (.slice (some ⟨w2.heap.size, 0, none⟩) 1 1) 1 (prow ⟨(j : Int) + 1, pp, 1, 0, nn⟩)) := W_hid (.inr ⟨_, _, rfl, rfl, fun i u hi => by
                have := hblk.cell hi
                rw [Addr.add_lit, Nat.zero_add]
                exact this⟩)
              clear hblk
              go_wp2_with (first
                | (at_builtin; refine Own.wpList_app rfl (.tmp 68) (.tmp 74) 35 rfl und_prcs info_prc (.slice a2 j c2) (.slice (some ⟨w2.heap.size, 0, none⟩) 1 1) rfl rfl A2a.out B2a.out.size S2a.out (prow_one _) (by unfold maxLen; omega) (by omega) ?_; intro v3 w3 ho3 hg3 hob3; obtain ⟨a3, c3, rfl⟩ := Own.form ho3; have A3 := W_hid ho3; have B3 := W_hid (B2a.out.grown hg3 B2a.out.size (fun k h => Own.ge A2a.out k h)); have S3 := W_hid (hsrc3.out.keep B3.out); have y7 := pcellkept B3.out d1; clear ho3 hg3 hob3)
                | (at_builtin; refine Own.wpList_app rfl (.tmp 77) (.tmp 83) 35 rfl und_prcs info_prc (.slice a3 (j + 1) c3) (.slice (some ad) (n - j) (cap - j)) rfl rfl A3.out B3.out.size S3.out hone3.out (by unfold maxLen; omega) (by omega) ?_; intro v4 w4 ho4 hg4 hob4; obtain ⟨a4, c4, rfl⟩ := Own.form ho4; have B4 := W_hid (B3.out.grown hg4 B3.out.size (fun k h => Own.ge A3.out k h)); have A4 := W_hid ho4; have f4 := (H1.out.box.below B4.out hrl1.out).fz; have z7 := (H1.out.box.below B4.out hrl1.out).cell (j := 1) rfl; clear ho4 hg4 hob4))
              go_ret2
              obtain ⟨q1, q2, q3⟩ := H1.out.newRow (L' := L.take j ++ ⟨(j : Int) + 1, pp, 1, 0, nn⟩ :: L.drop j) B4.out (by
                have e1 : (L.take j ++ (⟨(j : Int) + 1, pp, 1, 0, nn⟩ : Pr) :: L.drop j).length = j + 1 + (n - j) := by
                  rw [List.length_append, List.length_take, List.length_cons, List.length_drop, hnl.out]; omega
                have e2 : pcl (L.take j ++ (⟨(j : Int) + 1, pp, 1, 0, nn⟩ : Pr) :: L.drop j) = [] ++ (pcl L).take (j * 5) ++ prow ⟨(j : Int) + 1, pp, 1, 0, nn⟩ ++ (pcl L).drop (j * 5) := by
                  rw [pcl_take, pcl_drop, show L.take j ++ (⟨(j : Int) + 1, pp, 1, 0, nn⟩ : Pr) :: L.drop j = L.take j ++ ([⟨(j : Int) + 1, pp, 1, 0, nn⟩] ++ L.drop j) from rfl, pcl_app, pcl_app, pcl_one]
                  simp only [List.nil_append, List.append_assoc]
                rw [e1, e2]
                exact A4.out)
              refine ⟨by first | rfl | simp, ?_⟩
              rw [hspl.out]
              refine ⟨_, ⟨_, q1, fun k => Iff.rfl⟩, (Keeps.new hb1.out H.out.base_le).trans (keeps_iff q2 fun k hk => (hY.out k).2 hk), fun k hk => (q3 k hk).imp (fun h => (hY.out k).2 h) (fun h => by rw [← hw1s.out]; exact h)⟩
end
end PC
end Go.Proofs.Ytahcpimpmedbiaa

/- The document's Add. -/
import Derived.Test.YtmikgkelmdgckaaRefSch3
import Derived.Deep.RegionHeld3
import Derived.OrdersHeld
import Derived.Deep.RegionLaw
namespace Go.Proofs.Ytmikgkelmdgckaa
open Go.ChangeShapes Go.WideShapes Go.ChangeAt Go.RowKit
set_option linter.unusedVariables false
set_option linter.unusedSimpArgs false
set_option maxRecDepth 100000
namespace SD
open IN (Keeps lt_of_some)
theorem pcellkept5 {w w' : World} {p : Addr} {v : Value} (hb : Below w.heap.size w w') (h : w.cell? p = some v) : w'.cell? p = some v := by rw [hb.cell (World.block_lt_of_cell? w _ h)]; exact h
section
variable {base : Nat} {w : World} {rb : Nat} {S : Qs} {Y : Nat → Prop} {c : Nat}
set_option maxRecDepth 100000 in
set_option maxHeartbeats 16000000 in
theorem rAdd_any (h : DW base w rb S Y) (hG : Good c S) (hc : c ≤ 49000) (p nn : Int) : Calls Try.prog 26 #[ptr rb, .int .i64 p, .int .i64 nn] w fun e w' => e = .returned (.int .i64 (addR S p nn).1) ∧ DO base w rb (addR S p nn).2 Y w' := by
  have hid := W_hid (fun w' (hb : Below w.heap.size w w') => h.same hb)
  obtain ⟨vp, vl, hM, hY⟩ := h
  have hlen : S.P.length ≤ 60000 := by have := hG.len; omega
  have hll : S.L.length ≤ 60000 := by have := hG.llen; omega
  have hat := rat_any p hM hG.asc hlen
  unfold atI at hat
  have cN := W_hid (fun w1 => rIsNice_any nn w1)
  by_cases hp : p < 1
  · rw [show addR S p nn = (2, S) by unfold addR; rw [if_pos hp]]
    obtain ⟨r, hr⟩ : ∃ r, isNice nn = r := ⟨_, rfl⟩
    rw [hr] at cN
    clear hM hY hat hr
    go_enter Try.func26, Try.ntmps26
    go_wp2_with (go_at_call 51; refine (cN.out _).mono ?_; rintro e w' ⟨rfl, rfl⟩)
    go_ret
    exact ⟨rfl, hid.out _ (Below.refl _ _)⟩
  cases hin : isNice nn with
  | false =>
    rw [show addR S p nn = (2, S) by unfold addR; rw [if_neg hp, if_pos hin]]
    rw [hin] at cN
    clear hM hY hat hin
    go_enter Try.func26, Try.ntmps26
    go_wp2_with (go_at_call 51; refine (cN.out _).mono ?_; rintro e w' ⟨rfl, rfl⟩)
    go_ret
    exact ⟨rfl, hid.out _ (Below.refl _ _)⟩
  | true =>
    rw [hin] at cN
    cases hg : get S.P p with
    | some x =>
      rw [show addR S p nn = (12, S) by unfold addR; rw [if_neg hp, hin, hg]; rfl]
      rw [hg] at hat
      obtain ⟨i, hi⟩ : ∃ i, low S.P p = i := ⟨_, rfl⟩
      rw [hi] at hat
      have hd0 : decide ((0 : Int) ≤ (i : Int)) = true := by simp
      replace hat := W_hid hat
      clear hM hY hin hg hi
      go_enter Try.func26, Try.ntmps26
      go_wp2_with (first
        | (go_at_call 51; refine (cN.out _).mono ?_; rintro e w' ⟨rfl, rfl⟩)
        | (go_at_call 52; refine hat.out.mono ?_; rintro e w' ⟨rfl, rfl⟩))
      go_ret
      exact ⟨rfl, hid.out _ (Below.refl _ _)⟩
    | none =>
      rw [show addR S p nn = (0, ⟨insP S.P ⟨p, nn, true, 0⟩, S.L ++ [p]⟩) by unfold addR; rw [if_neg hp, hin, hg]; rfl]
      rw [hg] at hat
      have hpl : off S.L p = S.L := off_same fun hm => by
        obtain ⟨y, hy, -⟩ := (hG.mem p).1 hm
        rw [hg] at hy
        cases hy
      have c0 := hM.box.cell (j := 0) rfl
      have hrow := hM.row
      obtain ⟨ao, cap, hv⟩ := Own.form hM.row
      obtain ⟨n, hn⟩ : ∃ n, S.P.length = n := ⟨_, rfl⟩
      obtain ⟨lo, hlo⟩ : ∃ lo, low S.P p = lo := ⟨_, rfl⟩
      have hlon : lo ≤ n := by have := low_le S.P p; omega
      have hend : Hid (∀ (w4 : World) (v4 : Value), Below w.heap.size w w4 → w4.ownsRow w.heap.size DP 4 v4 (lo + 1 + (n - lo)) ([] ++ (dcl S.P).take (lo * 4) ++ drow ⟨p, nn, true, 0⟩ ++ (dcl S.P).drop (lo * 4)) → w4.cell? ⟨rb, 0, none⟩ = some vp ∧ (∀ j, w4.frozen? ⟨rb, j, none⟩ = false) ∧
          Calls Try.prog 53 #[ptr rb, .int .i64 p] (w4.setCell ⟨rb, 0, none⟩ v4) fun e w' => e = .returned (.tuple #[]) ∧ DO base w rb ⟨insP S.P ⟨p, nn, true, 0⟩, S.L ++ [p]⟩ Y w') := W_hid fun w4 v4 hb ho => by
        have hM4 := hM.keep hb
        have e1 : lo + 1 + (n - lo) = (insP S.P ⟨p, nn, true, 0⟩).length := by rw [ins_len]; omega
        have e2 : [] ++ (dcl S.P).take (lo * 4) ++ drow ⟨p, nn, true, 0⟩ ++ (dcl S.P).drop (lo * 4) = dcl (insP S.P ⟨p, nn, true, 0⟩) := by
          rw [dcl_take, dcl_drop]
          unfold insP
          rw [show low S.P (⟨p, nn, true, 0⟩ : Pr).pid = lo from hlo, dcl_app, show (⟨p, nn, true, 0⟩ : Pr) :: S.P.drop lo = [⟨p, nn, true, 0⟩] ++ S.P.drop lo from rfl, dcl_app, dcl_one]
          simp only [List.nil_append, List.append_assoc]
        rw [e1, e2] at ho
        obtain ⟨q1, q2, q3⟩ := hM.newRow hb ho
        refine ⟨hM4.box.cell rfl, hM4.box.fz, (rlast_any p q1 hll).mono ?_⟩
        rintro e w' ⟨rfl, vl', k1, k2, k3⟩
        rw [hpl] at k1
        refine ⟨rfl, DO.of hY k1 (keeps_two q2 k2 q3) fun k hk => ?_⟩
        rcases k3 k hk with h4 | h4
        · exact q3 k h4
        · exact .inr (Nat.le_trans q2.size h4)
      have hel : Hid (∀ j (hj : j < S.P.length), (j < lo → S.P[j].pid < p) ∧ (j = lo → ¬ S.P[j].pid < p)) := W_hid (by
        intro j hj
        rw [← hlo]
        refine ⟨fun h => (low_lt h).2, fun h => ?_⟩
        subst h
        have := low_stop hj
        omega)
      have hE := W_hid (fun i (hi : i < S.P.length) => hM.opened hi)
      rw [hv] at c0 hrow hE hend
      rw [hn] at c0 hrow hlen
      have hcapm : n ≤ cap ∧ cap ≤ 9223372036854775807 := by
        rcases hrow.2 with ⟨h2, h0⟩ | ⟨g', cap', cur, h2, hb, hg', h3, h4, -⟩
        · cases h2; omega
        · cases h2; unfold maxLen at h4; omega
      obtain ⟨Z, hmk, hmo⟩ := Own.make_room (t := DPs) und_drows info_drow (n + 1) ((n : Int) + 1) (by omega) (by omega) (by omega)
      have hwN : IntKind.i64.wrap ((n : Int) + 1) = (n : Int) + 1 := IntWalk.i64_in _ (by omega)
      have hPN' : (lo : Int) ≤ (n : Int) := by omega
      have A1 : Hid ((w.drew.alloc Z).ownsRow w.heap.size DP 4 (.slice (some ⟨w.heap.size, 0, none⟩) 0 (n + 1)) 0 []) := W_hid (hmo w.drew w.heap.size (Nat.le_refl _))
      have hbS := W_hid (((Below.refl w.heap.size w).drew).alloc (Nat.le_refl _) Z)
      have xa : ∀ ob, (w.drew.alloc ob).cell? ⟨rb, 0, none⟩ = some (.slice ao n cap) := fun ob => pcellkept5 (((Below.refl w.heap.size w).drew).alloc (Nat.le_refl _) ob) c0
      have hS1 := W_hid (Own.src_take (v := .slice ao n cap) hrow rfl lo hlon)
      have hone1 : Hid (∀ u ∈ (dcl S.P).take (lo * 4), u.oneCell' = true) := W_hid (fun u hu => dcl_one_cell S.P u (List.mem_of_mem_take hu))
      have hone3 : Hid (∀ u ∈ (dcl S.P).drop (lo * 4), u.oneCell' = true) := W_hid (fun u hu => dcl_one_cell S.P u (List.mem_of_mem_drop hu))
      have hrl1 := W_hid hM.box.lt
      have hform : (ao = none ∧ n = 0 ∧ cap = 0) ∨ ∃ g, ao = some ⟨g, 0, none⟩ := by
        rcases hrow.2 with ⟨h2, h0⟩ | ⟨g', cap', cur, h2, -⟩
        · cases h2; exact .inl ⟨rfl, rfl, rfl⟩
        · cases h2; exact .inr ⟨g', rfl⟩
      replace hat := W_hid hat
      replace hn := W_hid hn
      replace hmo := W_hid hmo
      have hrowH := W_hid hrow
      clear hM hY hin hg hpl hlo hrow hv
      rcases hform with ⟨rfl, rfl, rfl⟩ | ⟨g, rfl⟩
      · obtain rfl : lo = 0 := by omega
        have hPn : S.P = [] := List.eq_nil_of_length_eq_zero hn.out
        have hsrc3 : Hid (Own.Src w 4 (.slice none 0 0) 0 ((dcl S.P).drop (0 * 4))) := W_hid (.inl ⟨rfl, rfl, by rw [hPn]; rfl⟩)
        have hw1 : IntKind.i64.wrap 1 = 1 := IntWalk.i64_in _ (by omega)
        have hhi := Own.cut_hi (t := DPs) und_drows elem_drows info_drow none 0 0 0 (Nat.le_refl _) (Nat.le_refl _) (.inl rfl)
        have hlo3 := Own.cut_none (t := DPs) und_drows elem_drows info_drow
        obtain ⟨Z1, hmk1, hmo1⟩ := Own.make_room (t := DPs) und_drows info_drow 1 1 rfl (by omega) (by omega)
        have A11 : Hid ((w.drew.alloc Z1).ownsRow w.heap.size DP 4 (.slice (some ⟨w.heap.size, 0, none⟩) 0 1) 0 []) := W_hid (hmo1 w.drew w.heap.size (Nat.le_refl _))
        have hbS1 := W_hid (((Below.refl w.heap.size w).drew).alloc (Nat.le_refl _) Z1)
        have xa1 : ∀ ob, (w.drew.alloc ob).cell? ⟨rb, 0, none⟩ = some (.slice none 0 0) := xa
        replace hPn := W_hid hPn
        clear hmk hmo A1 hbS xa hmo1 hcapm hE hel hwN hPN'
        go_enter Try.func26, Try.ntmps26
        go_wp2_with (first
          | (go_at_call 51; refine (cN.out _).mono ?_; rintro e w' ⟨rfl, rfl⟩)
          | (go_at_call 52; refine hat.out.mono ?_; rintro e w' ⟨rfl, rfl⟩))
        go_loopw [8] (fun i wr => i = .int .i64 0 ∧ w = wr) (fun i _ => 0)
        case atStart => exact ⟨rfl, rfl⟩
        case round =>
            obtain ⟨rfl, hwr⟩ := hrel
            subst hwr
            go_wp2_with fail
            refine wp_region_held_drew (S := (fun w' => w'.cell? ⟨rb, 0, none⟩ = some (.slice none 0 0))) (by kernel_rfl) c0 (fun hHeld => ?_)
            refine wpAnyH_take (i := 0) (v := .pointer (some ⟨rb, 0, none⟩)) rfl (by kernel_rfl) (by kernel_rfl) (by kernel_rfl) (fun _ _ _ h => h) (Or.inl ⟨by rfl, fun w0 s1 => ?_⟩) hHeld ?_
            · go_simp
            try simp only [Act.put, List.setIfInBounds_toArray, List.set_cons_zero, List.set_cons_succ, List.getElem_toArray, List.getElem_cons_zero, List.getElem_cons_succ]
            refine wpAnyH_take (i := 1) (v := .pointer (some ⟨rb, 0, none⟩)) rfl (by kernel_rfl) (by kernel_rfl) (by kernel_rfl) (fun _ _ _ h => h) (Or.inl ⟨by rfl, fun w0 s1 => ?_⟩) hHeld ?_
            · go_simp
            try simp only [Act.put, List.setIfInBounds_toArray, List.set_cons_zero, List.set_cons_succ, List.getElem_toArray, List.getElem_cons_zero, List.getElem_cons_succ]
            refine wpAnyH_take (i := 2) (v := .pointer (some ⟨rb, 0, none⟩)) rfl (by kernel_rfl) (by kernel_rfl) (by kernel_rfl) (fun _ _ _ h => h) (Or.inl ⟨by rfl, fun w0 s1 => ?_⟩) hHeld ?_
            · go_simp
            try simp only [Act.put, List.setIfInBounds_toArray, List.set_cons_zero, List.set_cons_succ, List.getElem_toArray, List.getElem_cons_zero, List.getElem_cons_succ]
            refine wpAnyH_take (i := 3) (v := .slice none 0 0) rfl (by kernel_rfl) (by kernel_rfl) (by kernel_rfl) (fun _ _ _ h => h) (Or.inl ⟨by rfl, fun w0 s1 => ?_⟩) hHeld ?_
            · go_simp
            try simp only [Act.put, List.setIfInBounds_toArray, List.set_cons_zero, List.set_cons_succ, List.getElem_toArray, List.getElem_cons_zero, List.getElem_cons_succ]
            refine wpAnyH_take (i := 4) (v := .int .i64 0) rfl (by kernel_rfl) (by kernel_rfl) (by kernel_rfl) (fun _ _ _ h => h) (Or.inl ⟨by rfl, fun w0 s1 => ?_⟩) hHeld ?_
            · go_simp
            try simp only [Act.put, List.setIfInBounds_toArray, List.set_cons_zero, List.set_cons_succ, List.getElem_toArray, List.getElem_cons_zero, List.getElem_cons_succ]
            refine wpAnyH_take (i := 5) (v := .int .i64 1) rfl (by kernel_rfl) (by kernel_rfl) (by kernel_rfl) (fun _ _ _ h => h) (Or.inl ⟨by rfl, fun w0 s1 => ?_⟩) hHeld ?_
            · go_simp
            try simp only [Act.put, List.setIfInBounds_toArray, List.set_cons_zero, List.set_cons_succ, List.getElem_toArray, List.getElem_cons_zero, List.getElem_cons_succ]
            refine wpAnyH_take (i := 7) (v := .pointer (some ⟨rb, 0, none⟩)) rfl (by kernel_rfl) (by kernel_rfl) (by kernel_rfl) (fun _ _ _ h => h) (Or.inl ⟨by rfl, fun w0 s1 => ?_⟩) hHeld ?_
            · go_simp
            try simp only [Act.put, List.setIfInBounds_toArray, List.set_cons_zero, List.set_cons_succ, List.getElem_toArray, List.getElem_cons_zero, List.getElem_cons_succ]
            refine wpAnyH_take (i := 8) (v := .pointer (some ⟨rb, 0, none⟩)) rfl (by kernel_rfl) (by kernel_rfl) (by kernel_rfl) (fun _ _ _ h => h) (Or.inl ⟨by rfl, fun w0 s1 => ?_⟩) hHeld ?_
            · go_simp
            try simp only [Act.put, List.setIfInBounds_toArray, List.set_cons_zero, List.set_cons_succ, List.getElem_toArray, List.getElem_cons_zero, List.getElem_cons_succ]
            refine wpAnyH_take (i := 9) (v := .pointer (some ⟨rb, 0, none⟩)) rfl (by kernel_rfl) (by kernel_rfl) (by kernel_rfl) (fun _ _ _ h => h) (Or.inl ⟨by rfl, fun w0 s1 => ?_⟩) hHeld ?_
            · go_simp
            try simp only [Act.put, List.setIfInBounds_toArray, List.set_cons_zero, List.set_cons_succ, List.getElem_toArray, List.getElem_cons_zero, List.getElem_cons_succ]
            refine wpAnyH_take (i := 10) (v := .slice none 0 0) rfl (by kernel_rfl) (by kernel_rfl) (by kernel_rfl) (fun _ _ _ h => h) (Or.inl ⟨by rfl, fun w0 s1 => ?_⟩) hHeld ?_
            · go_simp
            try simp only [Act.put, List.setIfInBounds_toArray, List.set_cons_zero, List.set_cons_succ, List.getElem_toArray, List.getElem_cons_zero, List.getElem_cons_succ]
            refine wpAnyH_take (i := 11) (v := .int .i64 0) rfl (by kernel_rfl) (by kernel_rfl) (by kernel_rfl) (fun _ _ _ h => h) (Or.inl ⟨by rfl, fun w0 s1 => ?_⟩) hHeld ?_
            · go_simp
            try simp only [Act.put, List.setIfInBounds_toArray, List.set_cons_zero, List.set_cons_succ, List.getElem_toArray, List.getElem_cons_zero, List.getElem_cons_succ]
            refine wpAnyH_take (i := 12) (v := .slice none 0 0) rfl (by kernel_rfl) (by kernel_rfl) (by kernel_rfl) (fun _ _ _ h => h) (Or.inl ⟨by rfl, fun w0 s1 => ?_⟩) hHeld ?_
            · go_simp
            try simp only [Act.put, List.setIfInBounds_toArray, List.set_cons_zero, List.set_cons_succ, List.getElem_toArray, List.getElem_cons_zero, List.getElem_cons_succ]
            refine wpAnyH_ready (rs := [6]) (by kernel_rfl) (by simp) ?_
            refine AllReadyH.cons rfl (fun K hK => ?_) AllReadyH.nil
            go_simp
            refine hK.out _ _ (xa1 Z1) (fun hHeld1 => ?_)
            clear hK K
            try simp only [Act.put, List.setIfInBounds_toArray, List.set_cons_zero, List.set_cons_succ, List.getElem_toArray, List.getElem_cons_zero, List.getElem_cons_succ]
            refine wpAnyH_ready (rs := [13]) (by kernel_rfl) (by simp) ?_
            refine AllReadyH.cons rfl (fun K hK => ?_) AllReadyH.nil
            refine Own.step_app rfl (.tmp 49) (.tmp 55) DPs rfl und_drows info_drow (.slice (some ⟨w.heap.size, 0, none⟩) 0 1) (.slice none 0 0) rfl rfl A11.out (by simp) (hS1.out.keep hbS1.out) hone1.out (by unfold maxLen; omega) (by omega) ?_
            intro v2 w2 ho2 hg2 hob2
            rw [Nat.zero_add] at ho2
            obtain ⟨a2, c2, rfl⟩ := Own.form ho2
            have A2 := W_hid ho2
            have B2 := W_hid (hbS1.out.grown hg2 (by simp) (fun jj hj => Own.ge A11.out jj hj))
            have y2 := pcellkept5 B2.out c0
            clear ho2 hg2 hob2
            refine hK.out _ _ y2 (fun hHeld2 => ?_)
            clear hK K
            try simp only [Act.put, List.setIfInBounds_toArray, List.set_cons_zero, List.set_cons_succ, List.getElem_toArray, List.getElem_cons_zero, List.getElem_cons_succ]
            refine wpAnyH_take (i := 14) (v := .slice a2 0 c2) rfl (by kernel_rfl) (by kernel_rfl) (by kernel_rfl) (fun _ _ _ h => h) (Or.inl ⟨by rfl, fun w0 s1 => ?_⟩) hHeld2 ?_
            · go_simp
            try simp only [Act.put, List.setIfInBounds_toArray, List.set_cons_zero, List.set_cons_succ, List.getElem_toArray, List.getElem_cons_zero, List.getElem_cons_succ]
            refine wpAnyH_done (by kernel_rfl) ?_ _
            have hblk := Blk.new w2 DP (drow ⟨p, nn, true, 0⟩) (x := w2.heap.size) rfl
            have B2a := W_hid (B2.out.alloc B2.out.size (.cells #[.int .i64 p, .int .i64 nn, .bool true, .float .f64 0] DP))
            have A2a := W_hid (Own.below A2.out ((Below.refl w2.heap.size w2).alloc (Nat.le_refl _) (.cells #[.int .i64 p, .int .i64 nn, .bool true, .float .f64 0] DP)))
            have S2a : Hid (Own.Src (w2.alloc (.cells #[.int .i64 p, .int .i64 nn, .bool true, .float .f64 0] DP)) 4 (.slice (some ⟨w2.heap.size, 0, none⟩) 1 1) 1 (drow ⟨p, nn, true, 0⟩)) := W_hid (.inr ⟨_, _, rfl, rfl, fun i u hi => by
              have := hblk.cell hi
              rw [Addr.add_lit, Nat.zero_add]
              exact this⟩)
            clear hblk
            go_wp2_with (first
              | (at_builtin; refine Own.wpList_app rfl (.tmp 57) (.tmp 61) DPs rfl und_drows info_drow (.slice a2 0 c2) (.slice (some ⟨w2.heap.size, 0, none⟩) 1 1) rfl rfl A2a.out B2a.out.size S2a.out (drow_one _) (by unfold maxLen; omega) (by omega) ?_; intro v3 w3 ho3 hg3 hob3; obtain ⟨a3, c3, rfl⟩ := Own.form ho3; have A3 := W_hid ho3; have B3 := W_hid (B2a.out.grown hg3 B2a.out.size (fun k h => Own.ge A2a.out k h)); have S3 := W_hid (hsrc3.out.keep B3.out); have y7 := pcellkept5 B3.out c0; clear ho3 hg3 hob3)
              | (at_builtin; refine Own.wpList_app rfl (.tmp 64) (.tmp 70) DPs rfl und_drows info_drow (.slice a3 (0 + 1) c3) (.slice none 0 0) rfl rfl A3.out B3.out.size S3.out hone3.out (by unfold maxLen; omega) (by omega) ?_; intro v4 w4 ho4 hg4 hob4; obtain ⟨a4, c4, rfl⟩ := Own.form ho4; have B4 := W_hid (B3.out.grown hg4 B3.out.size (fun k h => Own.ge A3.out k h)); obtain ⟨z7, f4, cO⟩ := hend.out w4 _ B4.out ho4; have cO := W_hid cO; clear ho4 hg4 hob4)
              | (go_at_call 53; refine cO.out.mono ?_; rintro e w5 ⟨rfl, hO⟩; have hO := W_hid hO))
            go_ret
            exact ⟨rfl, hO.out⟩
      · have hhi := Own.cut_hi (t := DPs) und_drows elem_drows info_drow (some ⟨g, 0, none⟩) n cap lo hlon hcapm.1 (.inr ⟨_, _, rfl⟩)
        obtain ⟨ad, hlo3, had1, had2⟩ := Own.cut_lo (t := DPs) und_drows elem_drows info_drow g 0 n cap lo (lo : Int) rfl hlon hcapm.1
        have hsrc3 : Hid (Own.Src w 4 (.slice (some ad) (n - lo) (cap - lo)) (n - lo) ((dcl S.P).drop (lo * 4))) := W_hid (Own.src_drop hrowH.out lo hlon ad _ had2)
        obtain ⟨hnc, hcm⟩ := hcapm
        replace had2 := W_hid had2
        go_enter Try.func26, Try.ntmps26
        go_wp2_with (first
          | (go_at_call 51; refine (cN.out _).mono ?_; rintro e w' ⟨rfl, rfl⟩)
          | (go_at_call 52; refine hat.out.mono ?_; rintro e w' ⟨rfl, rfl⟩))
        go_loopw [8] (fun i wr => ∃ j : Nat, j ≤ lo ∧ i = .int .i64 (j : Int) ∧ w = wr) (fun i _ => lo - (intOf i).toNat)
        case atStart => exact ⟨0, Nat.zero_le _, rfl, rfl⟩
        case round =>
          obtain ⟨j, hj, rfl, hwr⟩ := hrel
          subst hwr
          by_cases hjP : j < lo
          · have hjq : j < S.P.length := by rw [hn.out]; omega
            obtain ⟨g', n', cap', hv, hn', -, -, -, -, -, -, -, -, -, -, e0, -⟩ := hE.out j hjq
            simp only [Value.slice.injEq, Option.some.injEq, Addr.mk.injEq, and_true, true_and] at hv
            obtain ⟨rfl, -, -⟩ := hv
            have e1 := (hel.out j hjq).1 hjP
            obtain ⟨a, ha⟩ : ∃ a, S.P[j].pid = a := ⟨_, rfl⟩
            rw [ha] at e0 e1
            have hjN : (j : Int) < (n : Int) := by omega
            clear hn' n' hjq ha
            go_wp2_with fail
            go_roundw
            case rel => exact ⟨j + 1, by omega, by go_num, by first | trivial | rfl⟩
            case measure => simp [intOf]; omega
          have hjl : j = lo := by omega
          subst hjl
          have hcase : ((n : Int) ≤ (j : Int)) ∨ ((j : Int) < (n : Int) ∧ ∃ a, w.cell? ⟨g, j * 4, none⟩ = some (.int .i64 a) ∧ ¬ a < p) := by
            rcases Nat.lt_or_ge j n with hlt | hge
            · right
              have hjq : j < S.P.length := by rw [hn.out]; omega
              obtain ⟨g', n', cap', hv, hn', -, -, -, -, -, -, -, -, -, -, e0, -⟩ := hE.out j hjq
              simp only [Value.slice.injEq, Option.some.injEq, Addr.mk.injEq, and_true, true_and] at hv
              obtain ⟨rfl, -, -⟩ := hv
              exact ⟨by omega, _, e0, by have := (hel.out j hjq).2 rfl; omega⟩
            · left; omega
          rcases hcase with h1 | ⟨h1, a, e0, e1⟩
          all_goals
            go_wp2_with fail
            refine wp_region_held_drew (S := (fun w' => w'.cell? ⟨rb, 0, none⟩ = some (.slice (some ⟨g, 0, none⟩) n cap))) (by kernel_rfl) c0 (fun hHeld => ?_)
            refine wpAnyH_take (i := 0) (v := .pointer (some ⟨rb, 0, none⟩)) rfl (by kernel_rfl) (by kernel_rfl) (by kernel_rfl) (fun _ _ _ h => h) (Or.inl ⟨by rfl, fun w0 s1 => ?_⟩) hHeld ?_
            · go_simp
            try simp only [Act.put, List.setIfInBounds_toArray, List.set_cons_zero, List.set_cons_succ, List.getElem_toArray, List.getElem_cons_zero, List.getElem_cons_succ]
            refine wpAnyH_take (i := 1) (v := .pointer (some ⟨rb, 0, none⟩)) rfl (by kernel_rfl) (by kernel_rfl) (by kernel_rfl) (fun _ _ _ h => h) (Or.inl ⟨by rfl, fun w0 s1 => ?_⟩) hHeld ?_
            · go_simp
            try simp only [Act.put, List.setIfInBounds_toArray, List.set_cons_zero, List.set_cons_succ, List.getElem_toArray, List.getElem_cons_zero, List.getElem_cons_succ]
            refine wpAnyH_take (i := 2) (v := .pointer (some ⟨rb, 0, none⟩)) rfl (by kernel_rfl) (by kernel_rfl) (by kernel_rfl) (fun _ _ _ h => h) (Or.inl ⟨by rfl, fun w0 s1 => ?_⟩) hHeld ?_
            · go_simp
            try simp only [Act.put, List.setIfInBounds_toArray, List.set_cons_zero, List.set_cons_succ, List.getElem_toArray, List.getElem_cons_zero, List.getElem_cons_succ]
            refine wpAnyH_take (i := 3) (v := .slice (some ⟨g, 0, none⟩) n cap) rfl (by kernel_rfl) (by kernel_rfl) (by kernel_rfl) (fun _ _ _ h => h) (Or.inl ⟨by rfl, fun w0 s1 => ?_⟩) hHeld ?_
            · go_simp
            try simp only [Act.put, List.setIfInBounds_toArray, List.set_cons_zero, List.set_cons_succ, List.getElem_toArray, List.getElem_cons_zero, List.getElem_cons_succ]
            refine wpAnyH_take (i := 4) (v := .int .i64 (n : Int)) rfl (by kernel_rfl) (by kernel_rfl) (by kernel_rfl) (fun _ _ _ h => h) (Or.inl ⟨by rfl, fun w0 s1 => ?_⟩) hHeld ?_
            · go_simp
            try simp only [Act.put, List.setIfInBounds_toArray, List.set_cons_zero, List.set_cons_succ, List.getElem_toArray, List.getElem_cons_zero, List.getElem_cons_succ]
            refine wpAnyH_take (i := 5) (v := .int .i64 ((n : Int) + 1)) rfl (by kernel_rfl) (by kernel_rfl) (by kernel_rfl) (fun _ _ _ h => h) (Or.inl ⟨by rfl, fun w0 s1 => ?_⟩) hHeld ?_
            · go_simp
            try simp only [Act.put, List.setIfInBounds_toArray, List.set_cons_zero, List.set_cons_succ, List.getElem_toArray, List.getElem_cons_zero, List.getElem_cons_succ]
            refine wpAnyH_take (i := 7) (v := .pointer (some ⟨rb, 0, none⟩)) rfl (by kernel_rfl) (by kernel_rfl) (by kernel_rfl) (fun _ _ _ h => h) (Or.inl ⟨by rfl, fun w0 s1 => ?_⟩) hHeld ?_
            · go_simp
            try simp only [Act.put, List.setIfInBounds_toArray, List.set_cons_zero, List.set_cons_succ, List.getElem_toArray, List.getElem_cons_zero, List.getElem_cons_succ]
            refine wpAnyH_take (i := 8) (v := .pointer (some ⟨rb, 0, none⟩)) rfl (by kernel_rfl) (by kernel_rfl) (by kernel_rfl) (fun _ _ _ h => h) (Or.inl ⟨by rfl, fun w0 s1 => ?_⟩) hHeld ?_
            · go_simp
            try simp only [Act.put, List.setIfInBounds_toArray, List.set_cons_zero, List.set_cons_succ, List.getElem_toArray, List.getElem_cons_zero, List.getElem_cons_succ]
            refine wpAnyH_take (i := 9) (v := .pointer (some ⟨rb, 0, none⟩)) rfl (by kernel_rfl) (by kernel_rfl) (by kernel_rfl) (fun _ _ _ h => h) (Or.inl ⟨by rfl, fun w0 s1 => ?_⟩) hHeld ?_
            · go_simp
            try simp only [Act.put, List.setIfInBounds_toArray, List.set_cons_zero, List.set_cons_succ, List.getElem_toArray, List.getElem_cons_zero, List.getElem_cons_succ]
            refine wpAnyH_take (i := 10) (v := .slice (some ⟨g, 0, none⟩) n cap) rfl (by kernel_rfl) (by kernel_rfl) (by kernel_rfl) (fun _ _ _ h => h) (Or.inl ⟨by rfl, fun w0 s1 => ?_⟩) hHeld ?_
            · go_simp
            try simp only [Act.put, List.setIfInBounds_toArray, List.set_cons_zero, List.set_cons_succ, List.getElem_toArray, List.getElem_cons_zero, List.getElem_cons_succ]
            refine wpAnyH_take (i := 11) (v := .int .i64 (j : Int)) rfl (by kernel_rfl) (by kernel_rfl) (by kernel_rfl) (fun _ _ _ h => h) (Or.inl ⟨by rfl, fun w0 s1 => ?_⟩) hHeld ?_
            · go_simp
            try simp only [Act.put, List.setIfInBounds_toArray, List.set_cons_zero, List.set_cons_succ, List.getElem_toArray, List.getElem_cons_zero, List.getElem_cons_succ]
            refine wpAnyH_take (i := 12) (v := .slice (some ⟨g, 0, none⟩) j cap) rfl (by kernel_rfl) (by kernel_rfl) (by kernel_rfl) (fun _ _ _ h => h) (Or.inl ⟨by rfl, fun w0 s1 => ?_⟩) hHeld ?_
            · go_simp
            try simp only [Act.put, List.setIfInBounds_toArray, List.set_cons_zero, List.set_cons_succ, List.getElem_toArray, List.getElem_cons_zero, List.getElem_cons_succ]
            refine wpAnyH_ready (rs := [6]) (by kernel_rfl) (by simp) ?_
            refine AllReadyH.cons rfl (fun K hK => ?_) AllReadyH.nil
            go_simp
            refine hK.out _ _ (xa Z) (fun hHeld1 => ?_)
            clear hK K
            try simp only [Act.put, List.setIfInBounds_toArray, List.set_cons_zero, List.set_cons_succ, List.getElem_toArray, List.getElem_cons_zero, List.getElem_cons_succ]
            refine wpAnyH_ready (rs := [13]) (by kernel_rfl) (by simp) ?_
            refine AllReadyH.cons rfl (fun K hK => ?_) AllReadyH.nil
            refine Own.step_app rfl (.tmp 49) (.tmp 55) DPs rfl und_drows info_drow (.slice (some ⟨w.heap.size, 0, none⟩) 0 (n + 1)) (.slice (some ⟨g, 0, none⟩) j cap) rfl rfl A1.out (by simp) (hS1.out.keep hbS.out) hone1.out (by unfold maxLen; omega) (by omega) ?_
            intro v2 w2 ho2 hg2 hob2
            rw [Nat.zero_add] at ho2
            obtain ⟨a2, c2, rfl⟩ := Own.form ho2
            have A2 := W_hid ho2
            have B2 := W_hid (hbS.out.grown hg2 (by simp) (fun jj hj => Own.ge A1.out jj hj))
            have y2 := pcellkept5 B2.out c0
            clear ho2 hg2 hob2
            refine hK.out _ _ y2 (fun hHeld2 => ?_)
            clear hK K
            try simp only [Act.put, List.setIfInBounds_toArray, List.set_cons_zero, List.set_cons_succ, List.getElem_toArray, List.getElem_cons_zero, List.getElem_cons_succ]
            refine wpAnyH_take (i := 14) (v := .slice a2 j c2) rfl (by kernel_rfl) (by kernel_rfl) (by kernel_rfl) (fun _ _ _ h => h) (Or.inl ⟨by rfl, fun w0 s1 => ?_⟩) hHeld2 ?_
            · go_simp
            try simp only [Act.put, List.setIfInBounds_toArray, List.set_cons_zero, List.set_cons_succ, List.getElem_toArray, List.getElem_cons_zero, List.getElem_cons_succ]
            refine wpAnyH_done (by kernel_rfl) ?_ _
            have hblk := Blk.new w2 DP (drow ⟨p, nn, true, 0⟩) (x := w2.heap.size) rfl
            have B2a := W_hid (B2.out.alloc B2.out.size (.cells #[.int .i64 p, .int .i64 nn, .bool true, .float .f64 0] DP))
            have A2a := W_hid (Own.below A2.out ((Below.refl w2.heap.size w2).alloc (Nat.le_refl _) (.cells #[.int .i64 p, .int .i64 nn, .bool true, .float .f64 0] DP)))
            have S2a : Hid (Own.Src (w2.alloc (.cells #[.int .i64 p, .int .i64 nn, .bool true, .float .f64 0] DP)) 4 (.slice (some ⟨w2.heap.size, 0, none⟩) 1 1) 1 (drow ⟨p, nn, true, 0⟩)) := W_hid (.inr ⟨_, _, rfl, rfl, fun i u hi => by
              have := hblk.cell hi
              rw [Addr.add_lit, Nat.zero_add]
              exact this⟩)
            clear hblk
            go_wp2_with (first
              | (at_builtin; refine Own.wpList_app rfl (.tmp 57) (.tmp 61) DPs rfl und_drows info_drow (.slice a2 j c2) (.slice (some ⟨w2.heap.size, 0, none⟩) 1 1) rfl rfl A2a.out B2a.out.size S2a.out (drow_one _) (by unfold maxLen; omega) (by omega) ?_; intro v3 w3 ho3 hg3 hob3; obtain ⟨a3, c3, rfl⟩ := Own.form ho3; have A3 := W_hid ho3; have B3 := W_hid (B2a.out.grown hg3 B2a.out.size (fun k h => Own.ge A2a.out k h)); have S3 := W_hid (hsrc3.out.keep B3.out); have y7 := pcellkept5 B3.out c0; clear ho3 hg3 hob3)
              | (at_builtin; refine Own.wpList_app rfl (.tmp 64) (.tmp 70) DPs rfl und_drows info_drow (.slice a3 (j + 1) c3) (.slice (some ad) (n - j) (cap - j)) rfl rfl A3.out B3.out.size S3.out hone3.out (by unfold maxLen; omega) (by omega) ?_; intro v4 w4 ho4 hg4 hob4; obtain ⟨a4, c4, rfl⟩ := Own.form ho4; have B4 := W_hid (B3.out.grown hg4 B3.out.size (fun k h => Own.ge A3.out k h)); obtain ⟨z7, f4, cO⟩ := hend.out w4 _ B4.out ho4; have cO := W_hid cO; clear ho4 hg4 hob4)
              | (go_at_call 53; refine cO.out.mono ?_; rintro e w5 ⟨rfl, hO⟩; have hO := W_hid hO))
            go_ret
            exact ⟨rfl, hO.out⟩
end
end SD
end Go.Proofs.Ytmikgkelmdgckaa

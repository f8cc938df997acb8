/- The document's Remove, Add. -/
import Derived.Test.YtmikgkelmdgckaaRefSch3
import Derived.Deep.RegionHeld3
import Derived.OrdersHeld
import Derived.Deep.RegionLaw
namespace Go.Proofs.Ytmikgkelmdgckaa
open Go.ChangeShapes Go.WideShapes Go.ChangeAt Go.RowKit
set_option linter.unusedVariables false
set_option linter.unusedSimpArgs false
set_option maxRecDepth 100000
namespace SD
open IN (Keeps lt_of_some)
theorem pcellkept {w w' : World} {p : Addr} {v : Value} (hb : Below w.heap.size w w') (h : w.cell? p = some v) : w'.cell? p = some v := by rw [hb.cell (World.block_lt_of_cell? w _ h)]; exact h
section
variable {base : Nat} {w : World} {rb : Nat} {S : Qs} {Y : Nat → Prop} {c : Nat}
set_option maxRecDepth 100000 in
set_option maxHeartbeats 8000000 in
theorem rRemove_any (h : DW base w rb S Y) (hG : Good c S) (hc : c ≤ 50000) (p : Int) : Calls Try.prog 28 #[ptr rb, .int .i64 p] w fun e w' => e = .returned (.int .i64 (remR S p).1) ∧ DO base w rb (remR S p).2 Y w' := by
  have hid := W_hid (fun w' (hb : Below w.heap.size w w') => h.same hb)
  obtain ⟨vp, vl, hM, hY⟩ := h
  have hlen : S.P.length ≤ 60000 := by have := hG.len; omega
  have hll : S.L.length ≤ 60000 := by have := hG.llen; omega
  have hat := rat_any p hM hG.asc hlen
  unfold atI at hat
  cases hg : get S.P p with
  | none =>
    rw [show remR S p = (19, S) by unfold remR; rw [hg]]
    rw [hg] at hat
    replace hat := W_hid hat
    clear hM hY hg
    go_enter Try.func28, Try.ntmps28
    go_wp2_with (go_at_call 52; refine hat.out.mono ?_; rintro e w' ⟨rfl, rfl⟩)
    go_ret
    exact ⟨rfl, hid.out _ (Below.refl _ _)⟩
  | some x =>
    rw [hg] at hat
    obtain ⟨hpl, -⟩ := get_at hG.asc hg
    rw [show remR S p = (0, ⟨delP S.P (low S.P p), off S.L p⟩) by unfold remR; rw [hg]]
    obtain ⟨i, hi⟩ : ∃ i, low S.P p = i := ⟨_, rfl⟩
    rw [hi] at hat hpl ⊢
    have hd0 : decide ((i : Int) < 0) = false := by simp
    obtain ⟨g, n, cap, rfl, hn, hpn, hnc, hcm, hbg, hgr, hgl, hrl, hgf, hrf, c0, -⟩ := hM.opened hpl
    obtain ⟨Z, hmk, hmo⟩ := Own.make_room (t := DPs) und_drows info_drow n (n : Int) rfl (by omega) (by omega)
    obtain ⟨ad, hlo, had1, had2⟩ := Own.cut_lo (t := DPs) und_drows elem_drows info_drow g 0 n cap (i + 1) ((i : Int) + 1) (by omega) (by omega) hnc
    have hhi := Own.cut_hi (t := DPs) und_drows elem_drows info_drow (some ⟨g, 0, none⟩) n cap i (by omega) hnc (.inr ⟨_, _, rfl⟩)
    have hwr : IntKind.i64.wrap ((i : Int) + 1) = (i : Int) + 1 := IntWalk.i64_in _ (by omega)
    have hi3 : (i : Int) + 1 ≤ (n : Int) := by omega
    have hrow : Hid (w.ownsRow base DP 4 (.slice (some ⟨g, 0, none⟩) n cap) n (dcl S.P)) := W_hid (by have := hM.row; rw [hn] at this; exact this)
    have A1 : Hid ((w.alloc Z).drew.ownsRow w.heap.size DP 4 (.slice (some ⟨w.heap.size, 0, none⟩) 0 n) 0 []) := W_hid (hmo w w.heap.size (Nat.le_refl _))
    have S1 := W_hid ((Own.src_take hrow.out rfl i (by omega)).keep (((Below.refl _ _).alloc (Nat.le_refl _) Z).drew))
    have S2 := W_hid ((Own.src_drop hrow.out (i + 1) (by omega) ad (cap - (i + 1)) (by simpa using had2)).keep (((Below.refl _ _).alloc (Nat.le_refl _) Z).drew))
    have hone1 : Hid (∀ u ∈ (dcl S.P).take (i * 4), u.oneCell' = true) := W_hid (fun u hu => dcl_one_cell S.P u (List.mem_of_mem_take hu))
    have hone2 : Hid (∀ u ∈ (dcl S.P).drop ((i + 1) * 4), u.oneCell' = true) := W_hid (fun u hu => dcl_one_cell S.P u (List.mem_of_mem_drop hu))
    have hcut : Hid ([] ++ (dcl S.P).take (i * 4) ++ (dcl S.P).drop ((i + 1) * 4) = dcl (delP S.P i) ∧ 0 + i + (n - (i + 1)) = (delP S.P i).length) := W_hid ⟨by rw [dcl_take, dcl_drop]; unfold delP; rw [dcl_app]; rfl, by unfold delP; rw [List.length_append, List.length_take, List.length_drop, hn]; omega⟩
    have hend : Hid (∀ (w3 : World) (v3 : Value), Below w.heap.size w w3 → w3.ownsRow w.heap.size DP 4 v3 (delP S.P i).length (dcl (delP S.P i)) → Calls Try.prog 55 #[ptr rb, .int .i64 p] (w3.setCell ⟨rb, 0, none⟩ v3) fun e w' => e = .returned (.tuple #[]) ∧ DO base w rb ⟨delP S.P i, off S.L p⟩ Y w') := W_hid fun w3 v3 hb ho => by
      obtain ⟨q1, q2, q3⟩ := hM.newRow hb ho
      refine (roff_any p q1 hll).mono ?_
      rintro e w' ⟨rfl, vl', k1, k2, k3⟩
      refine ⟨rfl, DO.of hY k1 (keeps_two q2 k2 q3) fun k hk => ?_⟩
      rcases k3 k hk with h4 | h4
      · exact q3 k h4
      · exact .inr (Nat.le_trans q2.size h4)
    obtain ⟨adb, ado, ads⟩ := ad
    simp only at had1
    obtain rfl := had1.symm
    have xa : ∀ ob, (w.alloc ob).cell? ⟨rb, 0, none⟩ = some (.slice (some ⟨g, 0, none⟩) n cap) := fun ob => (hM.box.alloc ob).cell rfl
    have H := W_hid hM
    rw [hn] at hlen
    replace hn := W_hid hn
    replace hrow := W_hid hrow.out
    have hbl1 : Hid (g < w.heap.size) := W_hid hgl
    have hgl1 : Hid (rb < w.heap.size) := W_hid hrl
    replace hat := W_hid hat
    clear hM hY had2 hmo hpl hg hi
    go_enter Try.func28, Try.ntmps28
    go_wp2_with (go_at_call 52; refine hat.out.mono ?_; rintro e w' ⟨rfl, rfl⟩)
    go_region_law (first
      | (refine Own.step_app rfl (.tmp 17) (.tmp 23) DPs rfl und_drows info_drow (.slice (some ⟨w.heap.size, 0, none⟩) 0 n) (.slice (some ⟨g, 0, none⟩) i cap) rfl rfl A1.out (by simp) S1.out hone1.out (by unfold maxLen; omega) (by omega) ?_
         intro v2 w2 ho2 hg2 hob2
         have A2 := W_hid ho2
         have S3 := W_hid (Own.Src.grown S2.out hg2 (fun ad n c e _ => by simp only [Value.slice.injEq, Option.some.injEq] at e; have := hbl1.out; obtain ⟨rfl, -, -⟩ := e; simp [Value.ownBlock]; omega))
         have x2b : w2.cell? ⟨rb, 0, none⟩ = some (.slice (some ⟨g, 0, none⟩) n cap) := Own.cellg hg2 (xa Z) (by have := hgl1.out; simp [Value.ownBlock]; omega)
         have B2 := W_hid ((((Below.refl w.heap.size w).alloc (Nat.le_refl _) Z).drew).grown hg2 (by simp) (fun j hj => Own.ge A1.out j hj))
         clear ho2 hg2 hob2)
      | (refine Own.step_app rfl (.tmp 24) (.tmp 31) DPs rfl und_drows info_drow v2 (.slice (some ⟨g, ado, ads⟩) (n - (i + 1)) (cap - (i + 1))) rfl rfl A2.out B2.out.size S3.out hone2.out (by unfold maxLen; omega) (by omega) ?_
         intro v3 w3 ho3 hg3 hob3
         obtain ⟨a3, c3, rfl⟩ := Own.form ho3
         have B3 := W_hid (B2.out.grown hg3 B2.out.size (fun k h => Own.ge A2.out k h))
         have A3 := W_hid ho3
         have bx3 := H.out.box.below B3.out hgl1.out
         have x3b := bx3.cell (j := 0) rfl
         have f3b := bx3.fz
         clear ho3 hg3 hob3 bx3))
    all_goals
      have ho3 := A3.out
      have e2 := hcut.out.2
      rw [hcut.out.1] at ho3
      simp only [Nat.zero_add] at ho3 e2
      rw [e2] at ho3
      have cO := W_hid (hend.out w3 _ B3.out ho3)
      rw [← e2] at cO
      replace ho3 := W_hid ho3
      replace e2 := W_hid e2
      go_wp2_with (go_at_call 55; refine cO.out.mono ?_; rintro e w5 ⟨rfl, hO⟩; have hO := W_hid hO)
      go_ret
      exact ⟨rfl, hO.out⟩
end
end SD
end Go.Proofs.Ytmikgkelmdgckaa

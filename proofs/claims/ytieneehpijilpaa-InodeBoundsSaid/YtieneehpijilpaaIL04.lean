/- Regions that draw their order, with one operation behind which what the others read may be spoilt (a store): those that read memory are waited for, those that do not may come behind it. Free of any program. -/
import Derived.Test.YtieneehpijilpaaIL03
import Derived.Deep.RegionHeld3
import Derived.OrdersHeld
import Derived.Test.YtieneehpijilpaaIL02
import Derived.Test.YtieneehpijilpaaIL01
import Derived.StillTail

/- Contracts of the document's Make, All. -/
namespace Go.Proofs.Ytieneehpijilpaa
open Go.ChangeShapes Go.WideShapes Go.ChangeAt Go.RowKit
set_option linter.unusedVariables false
set_option linter.unusedSimpArgs false
namespace IN
section
variable {base : Nat} {rg : Nat} {I B L k : Nat} {S : Int → Option Nd} {z3 z4 z5 z6 : Int} {v : Value} {q : List RE}

theorem drew_keep {w : World} (n : Nat) : Below w.heap.size w (w.drewN n) := ⟨rfl, rfl, rfl, Nat.le_refl _, fun _ _ => rfl⟩
theorem cellkept {w w' : World} {p : Addr} {v : Value} (hb : Below w.heap.size w w') (h : w.cell? p = some v) : w'.cell? p = some v := by rw [hb.cell (cell_lt h)]; exact h
theorem wp_letter {P : Program} {c : Code} {Q : Exit → Act → World → Prop} {a : Act} {W : World} (R : World → Prop) (h : R W) (k : ∀ W, R W → Code.wp P c Q a W) : Code.wp P c Q a W := k W h

set_option maxRecDepth 100000 in
set_option maxHeartbeats 8000000 in
theorem rMake_no (kd : Int) (w : World) (hI : I ≤ 4096) (h : RS base w rg I B L (lst S I)) (r : Int) (hr : mkR I S kd = r) (hr0 : r ≠ 0) :
    Calls Try.prog 26 #[.pointer (some ⟨rg, 0, none⟩), .int .i64 kd] w fun e w' => e = .returned (.tuple #[.int .i64 0, .int .i64 r]) ∧ Below w.heap.size w w' := by
  obtain ⟨z3, z4, z5, z6, v, q, hM, hF⟩ := h
  unfold mkR at hr
  by_cases hkd : kd = 1 ∨ kd = 2
  · rw [if_pos hkd] at hr
    by_cases hl : (lst S I).length < I
    · rw [if_pos hl] at hr; exact absurd hr.symm hr0
    rw [if_neg hl] at hr
    subst hr
    have hlen := hF.len
    obtain ⟨ao, cap, hv⟩ := Own.form hM.row
    subst hv
    have c0 := hM.box.cell (j := 0) rfl
    have c7 := hM.box.cell (j := 7) rfl
    obtain ⟨N, hN⟩ : ∃ N, q.length = N := ⟨_, rfl⟩
    rw [hN] at c7 hlen
    have hNI : (I : Int) ≤ (N : Int) := by omega
    clear hM hF hN hl hr0 hlen
    rcases hkd with rfl | rfl <;>
    · go_enter Try.func26, Try.ntmps26
      go_wp2_with fail
      go_quiet (fail)
      go_wp2_with fail
      go_ret2
      exact ⟨rfl, drew_keep _⟩
  · rw [if_neg hkd] at hr
    subst hr
    have h1 : ¬ kd = 1 := fun e => hkd (.inl e)
    have h2 : ¬ kd = 2 := fun e => hkd (.inr e)
    have h3 : (kd != 1) = true := by simp [h1]
    have h4 : (kd != 2) = true := by simp [h2]
    replace h1 := W_hid h1
    replace h2 := W_hid h2
    clear hkd hM hF hr0
    go_enter Try.func26, Try.ntmps26
    go_wp2_with fail
    go_ret2
    exact ⟨rfl, Below.refl _ _⟩

set_option maxRecDepth 100000 in
set_option maxHeartbeats 16000000 in
theorem rMake_yes (kd : Int) (n : Nat) (w : World) (hI : I ≤ 4096) (h : RS base w rg I B L (lst S I)) (hr : mkR I S kd = 0) (hlow : Low S n) (hnI : n ≤ I) :
    Calls Try.prog 26 #[.pointer (some ⟨rg, 0, none⟩), .int .i64 kd] w fun e w' => e = .returned (.tuple #[.int .i64 (n : Int), .int .i64 0]) ∧ RS base w' rg I B L (lst (upd S (n : Int) (some (newNd kd))) I) ∧ Keeps base DT w w' := by
  obtain ⟨z3, z4, z5, z6, v, q, hM, hF⟩ := h
  have hkd : kd = 1 ∨ kd = 2 := by
    unfold mkR at hr
    by_cases e : kd = 1 ∨ kd = 2
    · exact e
    · rw [if_neg e] at hr; cases hr
  have hl : (lst S I).length < I := by
    unfold mkR at hr
    rw [if_pos hkd] at hr
    by_cases e : (lst S I).length < I
    · exact e
    · rw [if_neg e] at hr; cases hr
  have hlen := hF.len
  have hlo := low_lo hlow
  have hsp := split S n I hlow.1 hnI
  rw [hlow.2.1] at hsp
  simp only [Option.map_none, Option.toList_none, List.append_nil] at hsp
  obtain ⟨P, hP⟩ : ∃ P, (lo S n).length = P := ⟨_, rfl⟩
  have hnP : n = P + 1 := by have := hlo.1; have := hlow.1; omega
  have hPl : P ≤ (lst S I).length := by rw [hsp, List.length_append]; omega
  have hnew := pl_new (d := newNd kd) hlow.1 hnI hlow.2.1
  rw [hP] at hnew
  rw [hnew]
  have hel : ∀ j (hj : j < q.length), (j < P → q[j].n = (j : Int) + 1) ∧ (j = P → ¬ q[j].n = (j : Int) + 1) := by
    intro j hj
    have e := hF.at_ j hj (by omega)
    have hrise := lst_rise S I
    refine ⟨fun hjP => ?_, fun hjP => ?_⟩
    · rw [e.n]
      obtain ⟨y, hy⟩ : ∃ y, (lst S I)[j]'(by omega) = y := ⟨_, rfl⟩
      have h3 : (lst S I)[j]? = some y := by rw [List.getElem?_eq_getElem (by omega), hy]
      rw [hsp, List.getElem?_append_left (by omega)] at h3
      have h4 := hlo.2 j _ h3
      rw [hy]
      omega
    · rw [e.n]
      intro h3
      have h4 := (mem_lst.1 (List.getElem_mem (by omega : j < (lst S I).length))).2.2
      have h5 : ((lst S I)[j].1 : Int) = (n : Int) := by omega
      rw [h5, hlow.2.1] at h4
      cases h4
  obtain ⟨ao, cap, hv⟩ := Own.form hM.row
  subst hv
  obtain ⟨N, hN⟩ : ∃ N, q.length = N := ⟨_, rfl⟩
  have hNI : (N : Int) < (I : Int) := by omega
  have hPN : P ≤ N := by omega
  have hN4 : N ≤ 4096 := by omega
  have hcaps : N ≤ cap ∧ cap ≤ 9223372036854775807 ∧ (ao = none ∨ ∃ b o, ao = some ⟨b, o, none⟩) ∧ (ao = none → cap = 0) := by
    rcases hM.row.2 with ⟨h1, h2⟩ | ⟨g, cap', cur, h1, h2, h3, h4, h5, h6⟩
    · simp only [Value.slice.injEq] at h1
      exact ⟨by omega, by omega, .inl h1.1, fun _ => h1.2.2⟩
    · simp only [Value.slice.injEq] at h1
      obtain ⟨rfl, e1, rfl⟩ := h1
      exact ⟨by omega, by unfold maxLen at h5; omega, .inr ⟨_, _, rfl⟩, fun e => by cases e⟩
  obtain ⟨hc1, hc2, hc3, hc4⟩ := hcaps
  have c0 := hM.box.cell (j := 0) rfl
  have c7 := hM.box.cell (j := 7) rfl
  rw [hN] at c7
  have H := W_hid hM
  have hbase := W_hid hM.low
  have HF := W_hid hF
  have hel := W_hid hel
  have hN := W_hid hN
  have hnP := W_hid hnP
  clear hM hF hl hlen hlo hsp hnew hr hlow hP hPl
  obtain ⟨X, hmk, hmo⟩ := Own.make_room (t := 59) Try.underlying59 info_ino (N + 1) ((N : Int) + 1) (by omega) (by omega) (by omega)
  have hhi := Own.cut_hi (t := 59) Try.underlying59 elem_ino info_ino ao N cap P hPN hc1 hc3
  have hwN : IntKind.i64.wrap ((N : Int) + 1) = (N : Int) + 1 := IntWalk.i64_in _ (by omega)
  have hwP : IntKind.i64.wrap ((P : Int) + 1) = (P : Int) + 1 := IntWalk.i64_in _ (by omega)
  have hPN' : (P : Int) ≤ (N : Int) := by omega
  have hmo := W_hid hmo
  have hc3 := W_hid hc3
  have hc4 := W_hid hc4
  have hhi := W_hid hhi
  rcases hkd with rfl | rfl
  · go_enter Try.func26, Try.ntmps26
    go_wp2_with fail
    go_quiet (fail)
    go_wp2_with fail
    have H1 := W_hid (H.out.drewN nq)
    have HF1 := W_hid (HF.out.drewN nq)
    have hb1 := W_hid (drew_keep (w := w) nq)
    have d0 := H1.out.box.cell (j := 0) rfl
    have d7 := H1.out.box.cell (j := 7) rfl
    rw [hN.out] at d7
    obtain ⟨w1, hw1⟩ : ∃ w1, w.drewN nq = w1 := ⟨_, rfl⟩
    rw [hw1] at H1 HF1 hb1 d0 d7 ⊢
    clear hw1 c0 c7 H HF
    go_loopw [6] (fun i wr => ∃ j : Nat, j ≤ P ∧ i = .int .i64 (j : Int) ∧ w1 = wr) (fun i _ => P - (intOf i).toNat)
    case atStart => exact ⟨0, Nat.zero_le _, rfl, rfl⟩
    case round =>
      obtain ⟨j, hj, rfl, hwr⟩ := hrel
      subst hwr
      by_cases hjP : j < P
      · have hjq : j < q.length := by rw [hN.out]; omega
        obtain ⟨g, N', cap', hv, hN', -, -, -, -, -, -, -, -, -, -, -, -, -, e0, -⟩ := H1.out.opened hjq
        rw [hN.out] at hv
        simp only [Value.slice.injEq] at hv
        obtain ⟨rfl, -, -⟩ := hv
        rw [(hel.out j hjq).1 hjP] at e0
        have hjN : (j : Int) < (N : Int) := by omega
        have hwj : IntKind.i64.wrap ((j : Int) + 1) = (j : Int) + 1 := IntWalk.i64_in _ (by omega)
        clear hN' N' hjq
        go_wp2_with fail
        go_roundw
        case rel => exact ⟨j + 1, by omega, by go_num, by first | trivial | rfl⟩
        case measure => simp [intOf]; omega
      · obtain rfl : j = P := by omega
        have hcase : Hid (j = N) ∨ (j < N ∧ ∃ g a, ao = some ⟨g, 0, none⟩ ∧ w1.cell? ⟨g, j * 7, none⟩ = some (.int .i64 a) ∧ ¬ a = (j : Int) + 1) := by
          rcases Nat.lt_or_ge j N with hlt | hge
          · right
            have hjq : j < q.length := by rw [hN.out]; omega
            obtain ⟨g, N', cap', hv, hN', -, -, -, -, -, -, -, -, -, -, -, -, -, e0, -⟩ := H1.out.opened hjq
            rw [hN.out] at hv
            simp only [Value.slice.injEq] at hv
            exact ⟨hlt, g, _, hv.1, e0, (hel.out j hjq).2 rfl⟩
          · left; exact W_hid (by omega)
        have hS1 := W_hid (Own.src_take (v := .slice ao N cap) (by have := H1.out.row; rw [hN.out] at this; exact this) rfl j hPN)
        have hone1 : Hid (∀ u ∈ (rcl q).take (j * 7), u.oneCell' = true) := W_hid (fun u hu => HF1.out.one u (List.mem_of_mem_take hu))
        have hone3 : Hid (∀ u ∈ (rcl q).drop (j * 7), u.oneCell' = true) := W_hid (fun u hu => HF1.out.one u (List.mem_of_mem_drop hu))
        obtain ⟨ad, hlo3, hsrc3⟩ : ∃ ad : Value, (∀ W : World, (Instr.slice 59 (.slice ao N cap) (some (.int .i64 (j : Int))) none none).run Try.prog W = .ok ad W) ∧ Hid (Own.Src w1 7 ad (N - j) ((rcl q).drop (j * 7)) ∧ ∀ aa n c, ad = .slice (some aa) n c → aa.block < w1.heap.size) := by
          rcases hc3.out with e | ⟨b, ob, e⟩
          · have e2 := hc4.out e
            obtain rfl : N = 0 := by omega
            subst e; subst e2
            obtain rfl : j = 0 := by omega
            refine ⟨.slice none 0 0, Own.cut_none (t := 59) Try.underlying59 elem_ino info_ino, W_hid ⟨.inl ⟨rfl, rfl, ?_⟩, fun aa n c e => by simp at e⟩⟩
            rw [Nat.zero_mul, List.drop_zero]
            exact List.eq_nil_of_length_eq_zero (by rw [rcl_len, hN.out])
          · subst e
            have hrow := H1.out.row
            rw [hN.out] at hrow
            obtain ⟨ad, hl1, hl2, hl3⟩ := Own.cut_lo (t := 59) Try.underlying59 elem_ino info_ino b ob N cap j (j : Int) rfl hPN hc1
            refine ⟨_, hl1, W_hid ⟨Own.src_drop hrow j hPN ad _ hl3, fun aa n c e => ?_⟩⟩
            simp only [Value.slice.injEq, Option.some.injEq] at e
            obtain ⟨rfl, -, -⟩ := e
            rw [hl2]
            rcases hrow.2 with ⟨e, _⟩ | ⟨g, cap', cur, e, _, hg, _⟩
            · simp at e
            · simp only [Value.slice.injEq, Option.some.injEq, Addr.mk.injEq] at e
              rw [e.1.1]
              exact lt_of_some hg
        have xa : ∀ ob, (w1.drew.alloc ob).cell? ⟨rg, 7, none⟩ = some (.slice ao N cap) := fun ob => cellkept (((Below.refl w1.heap.size w1).drew).alloc (Nat.le_refl _) ob) d7
        have A1 : Hid ((w1.drew.alloc X).ownsRow w1.heap.size 72 7 (.slice (some ⟨w1.heap.size, 0, none⟩) 0 (N + 1)) 0 []) := W_hid (hmo.out w1.drew w1.heap.size (Nat.le_refl _))
        have hrl := W_hid H1.out.box.lt
        have hbS := W_hid (((Below.refl w1.heap.size w1).drew).alloc (Nat.le_refl _) X)
        have hhi' := hhi.out
        rcases hcase with h1 | ⟨h1, g, a, rfl, e0, e1⟩
        · have hge : (N : Int) ≤ (j : Int) := by have := h1.out; omega
          go_wp2_with fail
          refine wp_region_held_drew (S := (fun w' => w'.cell? ⟨rg, 7, none⟩ = some (.slice ao N cap))) (by kernel_rfl) d7 (fun hHeld => ?_)
          refine wpAnyH_take (i := 0) (v := .pointer (some ⟨rg, 0, none⟩)) rfl (by kernel_rfl) (by kernel_rfl) (by kernel_rfl) (fun _ _ _ h => h) (Or.inl ⟨by rfl, fun w0 s1 => ?_⟩) hHeld ?_
          · go_simp
          try simp only [Act.put, List.setIfInBounds_toArray, List.set_cons_zero, List.set_cons_succ, List.getElem_toArray, List.getElem_cons_zero, List.getElem_cons_succ]
          refine wpAnyH_take (i := 1) (v := .pointer (some ⟨rg, 0, none⟩)) rfl (by kernel_rfl) (by kernel_rfl) (by kernel_rfl) (fun _ _ _ h => h) (Or.inl ⟨by rfl, fun w0 s1 => ?_⟩) hHeld ?_
          · go_simp
          try simp only [Act.put, List.setIfInBounds_toArray, List.set_cons_zero, List.set_cons_succ, List.getElem_toArray, List.getElem_cons_zero, List.getElem_cons_succ]
          refine wpAnyH_take (i := 2) (v := .pointer (some ⟨rg, 7, none⟩)) rfl (by kernel_rfl) (by kernel_rfl) (by kernel_rfl) (fun _ _ _ h => h) (Or.inl ⟨by rfl, fun w0 s1 => ?_⟩) hHeld ?_
          · go_simp
          try simp only [Act.put, List.setIfInBounds_toArray, List.set_cons_zero, List.set_cons_succ, List.getElem_toArray, List.getElem_cons_zero, List.getElem_cons_succ]
          refine wpAnyH_take (i := 3) (v := .slice ao N cap) rfl (by kernel_rfl) (by kernel_rfl) (by kernel_rfl) (fun _ _ _ h => h) (Or.inl ⟨by rfl, fun w0 s1 => ?_⟩) hHeld ?_
          · go_simp
          try simp only [Act.put, List.setIfInBounds_toArray, List.set_cons_zero, List.set_cons_succ, List.getElem_toArray, List.getElem_cons_zero, List.getElem_cons_succ]
          refine wpAnyH_take (i := 4) (v := .int .i64 (N : Int)) rfl (by kernel_rfl) (by kernel_rfl) (by kernel_rfl) (fun _ _ _ h => h) (Or.inl ⟨by rfl, fun w0 s1 => ?_⟩) hHeld ?_
          · go_simp
          try simp only [Act.put, List.setIfInBounds_toArray, List.set_cons_zero, List.set_cons_succ, List.getElem_toArray, List.getElem_cons_zero, List.getElem_cons_succ]
          refine wpAnyH_take (i := 5) (v := .int .i64 ((N : Int) + 1)) rfl (by kernel_rfl) (by kernel_rfl) (by kernel_rfl) (fun _ _ _ h => h) (Or.inl ⟨by rfl, fun w0 s1 => ?_⟩) hHeld ?_
          · go_simp
          try simp only [Act.put, List.setIfInBounds_toArray, List.set_cons_zero, List.set_cons_succ, List.getElem_toArray, List.getElem_cons_zero, List.getElem_cons_succ]
          refine wpAnyH_take (i := 7) (v := .pointer (some ⟨rg, 0, none⟩)) rfl (by kernel_rfl) (by kernel_rfl) (by kernel_rfl) (fun _ _ _ h => h) (Or.inl ⟨by rfl, fun w0 s1 => ?_⟩) hHeld ?_
          · go_simp
          try simp only [Act.put, List.setIfInBounds_toArray, List.set_cons_zero, List.set_cons_succ, List.getElem_toArray, List.getElem_cons_zero, List.getElem_cons_succ]
          refine wpAnyH_take (i := 8) (v := .pointer (some ⟨rg, 0, none⟩)) rfl (by kernel_rfl) (by kernel_rfl) (by kernel_rfl) (fun _ _ _ h => h) (Or.inl ⟨by rfl, fun w0 s1 => ?_⟩) hHeld ?_
          · go_simp
          try simp only [Act.put, List.setIfInBounds_toArray, List.set_cons_zero, List.set_cons_succ, List.getElem_toArray, List.getElem_cons_zero, List.getElem_cons_succ]
          refine wpAnyH_take (i := 9) (v := .pointer (some ⟨rg, 7, none⟩)) rfl (by kernel_rfl) (by kernel_rfl) (by kernel_rfl) (fun _ _ _ h => h) (Or.inl ⟨by rfl, fun w0 s1 => ?_⟩) hHeld ?_
          · go_simp
          try simp only [Act.put, List.setIfInBounds_toArray, List.set_cons_zero, List.set_cons_succ, List.getElem_toArray, List.getElem_cons_zero, List.getElem_cons_succ]
          refine wpAnyH_take (i := 10) (v := .slice ao N cap) rfl (by kernel_rfl) (by kernel_rfl) (by kernel_rfl) (fun _ _ _ h => h) (Or.inl ⟨by rfl, fun w0 s1 => ?_⟩) hHeld ?_
          · go_simp
          try simp only [Act.put, List.setIfInBounds_toArray, List.set_cons_zero, List.set_cons_succ, List.getElem_toArray, List.getElem_cons_zero, List.getElem_cons_succ]
          refine wpAnyH_take (i := 11) (v := .int .i64 (j : Int)) rfl (by kernel_rfl) (by kernel_rfl) (by kernel_rfl) (fun _ _ _ h => h) (Or.inl ⟨by rfl, fun w0 s1 => ?_⟩) hHeld ?_
          · go_simp
          try simp only [Act.put, List.setIfInBounds_toArray, List.set_cons_zero, List.set_cons_succ, List.getElem_toArray, List.getElem_cons_zero, List.getElem_cons_succ]
          refine wpAnyH_take (i := 12) (v := .slice ao j cap) rfl (by kernel_rfl) (by kernel_rfl) (by kernel_rfl) (fun _ _ _ h => h) (Or.inl ⟨by rfl, fun w0 s1 => ?_⟩) hHeld ?_
          · go_simp
          try simp only [Act.put, List.setIfInBounds_toArray, List.set_cons_zero, List.set_cons_succ, List.getElem_toArray, List.getElem_cons_zero, List.getElem_cons_succ]
          refine wpAnyH_ready (rs := [6]) (by kernel_rfl) (by simp) ?_
          refine AllReadyH.cons rfl (fun K hK => ?_) AllReadyH.nil
          go_simp
          refine hK.out _ _ (xa X) (fun hHeld1 => ?_)
          clear hK K
          try simp only [Act.put, List.setIfInBounds_toArray, List.set_cons_zero, List.set_cons_succ, List.getElem_toArray, List.getElem_cons_zero, List.getElem_cons_succ]
          refine wpAnyH_ready (rs := [13]) (by kernel_rfl) (by simp) ?_
          refine AllReadyH.cons rfl (fun K hK => ?_) AllReadyH.nil
          refine Own.step_app rfl (.tmp 54) (.tmp 60) 59 rfl Try.underlying59 info_ino (.slice (some ⟨w1.heap.size, 0, none⟩) 0 (N + 1)) (.slice ao j cap) rfl rfl A1.out (by simp) (hS1.out.keep hbS.out) hone1.out (by unfold maxLen; omega) (by omega) ?_
          intro v2 w2 ho2 hg2 hob2
          rw [Nat.zero_add] at ho2
          obtain ⟨a2, c2, rfl⟩ := Own.form ho2
          have A2 := W_hid ho2
          have B2 := W_hid (hbS.out.grown hg2 (by simp) (fun jj hj => Own.ge A1.out jj hj))
          have y2 := cellkept B2.out d7
          clear ho2 hg2 hob2
          refine hK.out _ _ y2 (fun hHeld2 => ?_)
          clear hK K
          try simp only [Act.put, List.setIfInBounds_toArray, List.set_cons_zero, List.set_cons_succ, List.getElem_toArray, List.getElem_cons_zero, List.getElem_cons_succ]
          refine wpAnyH_take (i := 14) (v := .slice a2 j c2) rfl (by kernel_rfl) (by kernel_rfl) (by kernel_rfl) (fun _ _ _ h => h) (Or.inl ⟨by rfl, fun w0 s1 => ?_⟩) hHeld2 ?_
          · go_simp
          try simp only [Act.put, List.setIfInBounds_toArray, List.set_cons_zero, List.set_cons_succ, List.getElem_toArray, List.getElem_cons_zero, List.getElem_cons_succ]
          refine wpAnyH_done (by kernel_rfl) ?_ _
          have hblk := Blk.new w2 72 (rrow ⟨(j : Int) + 1, 1, 1, 0, 0, 0, .slice none 0 0⟩) rfl
          have B2a := W_hid (B2.out.alloc B2.out.size (.cells #[.int .i64 ((j : Int) + 1), .int .i64 1, .int .i64 1, .int .i64 0, .int .i64 0, .int .i64 0, .slice none 0 0] 72))
          have A2a := W_hid (Own.below A2.out ((Below.refl w2.heap.size w2).alloc (Nat.le_refl _) (.cells #[.int .i64 ((j : Int) + 1), .int .i64 1, .int .i64 1, .int .i64 0, .int .i64 0, .int .i64 0, .slice none 0 0] 72)))
          have S2a : Hid (Own.Src (w2.alloc (.cells #[.int .i64 ((j : Int) + 1), .int .i64 1, .int .i64 1, .int .i64 0, .int .i64 0, .int .i64 0, .slice none 0 0] 72)) 7 (.slice (some ⟨w2.heap.size, 0, none⟩) 1 1) 1 (rrow ⟨(j : Int) + 1, 1, 1, 0, 0, 0, .slice none 0 0⟩)) := W_hid (.inr ⟨_, _, rfl, rfl, fun i u hi => by
            have := hblk.cell hi
            rw [Addr.add_lit, Nat.zero_add]
            exact this⟩)
          clear hblk
          go_wp2_with (first
            | (at_builtin; refine Own.wpList_app rfl (.tmp 62) (.tmp 68) 59 rfl Try.underlying59 info_ino (.slice a2 j c2) (.slice (some ⟨w2.heap.size, 0, none⟩) 1 1) rfl rfl A2a.out B2a.out.size S2a.out (rrow_one rfl) (by unfold maxLen; omega) (by omega) ?_; intro v3 w3 ho3 hg3 hob3; obtain ⟨a3, c3, rfl⟩ := Own.form ho3; have A3 := W_hid ho3; have B3 := W_hid (B2a.out.grown hg3 B2a.out.size (fun k h => Own.ge A2a.out k h)); have S3 := W_hid (hsrc3.out.1.keep B3.out); have y7 := cellkept B3.out d7; clear ho3 hg3 hob3)
            | (at_builtin; refine Own.wpList_app rfl (.tmp 71) (.tmp 77) 59 rfl Try.underlying59 info_ino (.slice a3 (j + 1) c3) ad rfl rfl A3.out B3.out.size S3.out hone3.out (by unfold maxLen; omega) (by omega) ?_; intro v4 w4 ho4 hg4 hob4; obtain ⟨a4, c4, rfl⟩ := Own.form ho4; have B4 := W_hid (B3.out.grown hg4 B3.out.size (fun k h => Own.ge A3.out k h)); have A4 := W_hid ho4; have f4 := (H1.out.box.below B4.out hrl.out).fz; have z7 := (H1.out.box.below B4.out hrl.out).cell (j := 7) rfl; clear ho4 hg4 hob4))
          go_wp2_with fail
          go_ret2
          obtain ⟨q1, q2⟩ := H1.out.newRow (q' := q.take j ++ (⟨(j : Int) + 1, 1, 1, 0, 0, 0, .slice none 0 0⟩ : RE) :: q.drop j) B4.out (by
            have e1 : (q.take j ++ (⟨(j : Int) + 1, 1, 1, 0, 0, 0, .slice none 0 0⟩ : RE) :: q.drop j).length = j + 1 + (N - j) := by
              rw [List.length_append, List.length_take, List.length_cons, List.length_drop, hN.out]; omega
            have e2 : rcl (q.take j ++ (⟨(j : Int) + 1, 1, 1, 0, 0, 0, .slice none 0 0⟩ : RE) :: q.drop j) = [] ++ (rcl q).take (j * 7) ++ rrow ⟨(j : Int) + 1, 1, 1, 0, 0, 0, .slice none 0 0⟩ ++ (rcl q).drop (j * 7) := by
              rw [rcl_take, rcl_drop, show q.take j ++ (⟨(j : Int) + 1, 1, 1, 0, 0, 0, .slice none 0 0⟩ : RE) :: q.drop j = q.take j ++ ([⟨(j : Int) + 1, 1, 1, 0, 0, 0, .slice none 0 0⟩] ++ q.drop j) from rfl, rcl_app, rcl_app, rcl_one]
              simp only [List.nil_append, List.append_assoc]
            rw [e1, e2]
            exact A4.out)
          refine ⟨by rw [hnP.out]; rfl, ⟨_, _, _, _, _, _, q1, ?_⟩, (Keeps.new hb1.out (Nat.le_trans hbase.out (Nat.le_refl _))).trans q2⟩
          exact ((HF1.out.take j).app (show Fits w1 (_ :: _) (_ :: _) from ⟨⟨by rw [hnP.out]; rfl, rfl, rfl, rfl, rfl, rfl, XE.nil _⟩, HF1.out.drop j⟩)).keeps q2 (by simp [DT])
        · have hlt : (j : Int) < (N : Int) := by omega
          go_wp2_with fail
          refine wp_region_held_drew (S := (fun w' => w'.cell? ⟨rg, 7, none⟩ = some (.slice (some ⟨g, 0, none⟩) N cap))) (by kernel_rfl) d7 (fun hHeld => ?_)
          refine wpAnyH_take (i := 0) (v := .pointer (some ⟨rg, 0, none⟩)) rfl (by kernel_rfl) (by kernel_rfl) (by kernel_rfl) (fun _ _ _ h => h) (Or.inl ⟨by rfl, fun w0 s1 => ?_⟩) hHeld ?_
          · go_simp
          try simp only [Act.put, List.setIfInBounds_toArray, List.set_cons_zero, List.set_cons_succ, List.getElem_toArray, List.getElem_cons_zero, List.getElem_cons_succ]
          refine wpAnyH_take (i := 1) (v := .pointer (some ⟨rg, 0, none⟩)) rfl (by kernel_rfl) (by kernel_rfl) (by kernel_rfl) (fun _ _ _ h => h) (Or.inl ⟨by rfl, fun w0 s1 => ?_⟩) hHeld ?_
          · go_simp
          try simp only [Act.put, List.setIfInBounds_toArray, List.set_cons_zero, List.set_cons_succ, List.getElem_toArray, List.getElem_cons_zero, List.getElem_cons_succ]
          refine wpAnyH_take (i := 2) (v := .pointer (some ⟨rg, 7, none⟩)) rfl (by kernel_rfl) (by kernel_rfl) (by kernel_rfl) (fun _ _ _ h => h) (Or.inl ⟨by rfl, fun w0 s1 => ?_⟩) hHeld ?_
          · go_simp
          try simp only [Act.put, List.setIfInBounds_toArray, List.set_cons_zero, List.set_cons_succ, List.getElem_toArray, List.getElem_cons_zero, List.getElem_cons_succ]
          refine wpAnyH_take (i := 3) (v := .slice (some ⟨g, 0, none⟩) N cap) rfl (by kernel_rfl) (by kernel_rfl) (by kernel_rfl) (fun _ _ _ h => h) (Or.inl ⟨by rfl, fun w0 s1 => ?_⟩) hHeld ?_
          · go_simp
          try simp only [Act.put, List.setIfInBounds_toArray, List.set_cons_zero, List.set_cons_succ, List.getElem_toArray, List.getElem_cons_zero, List.getElem_cons_succ]
          refine wpAnyH_take (i := 4) (v := .int .i64 (N : Int)) rfl (by kernel_rfl) (by kernel_rfl) (by kernel_rfl) (fun _ _ _ h => h) (Or.inl ⟨by rfl, fun w0 s1 => ?_⟩) hHeld ?_
          · go_simp
          try simp only [Act.put, List.setIfInBounds_toArray, List.set_cons_zero, List.set_cons_succ, List.getElem_toArray, List.getElem_cons_zero, List.getElem_cons_succ]
          refine wpAnyH_take (i := 5) (v := .int .i64 ((N : Int) + 1)) rfl (by kernel_rfl) (by kernel_rfl) (by kernel_rfl) (fun _ _ _ h => h) (Or.inl ⟨by rfl, fun w0 s1 => ?_⟩) hHeld ?_
          · go_simp
          try simp only [Act.put, List.setIfInBounds_toArray, List.set_cons_zero, List.set_cons_succ, List.getElem_toArray, List.getElem_cons_zero, List.getElem_cons_succ]
          refine wpAnyH_take (i := 7) (v := .pointer (some ⟨rg, 0, none⟩)) rfl (by kernel_rfl) (by kernel_rfl) (by kernel_rfl) (fun _ _ _ h => h) (Or.inl ⟨by rfl, fun w0 s1 => ?_⟩) hHeld ?_
          · go_simp
          try simp only [Act.put, List.setIfInBounds_toArray, List.set_cons_zero, List.set_cons_succ, List.getElem_toArray, List.getElem_cons_zero, List.getElem_cons_succ]
          refine wpAnyH_take (i := 8) (v := .pointer (some ⟨rg, 0, none⟩)) rfl (by kernel_rfl) (by kernel_rfl) (by kernel_rfl) (fun _ _ _ h => h) (Or.inl ⟨by rfl, fun w0 s1 => ?_⟩) hHeld ?_
          · go_simp
          try simp only [Act.put, List.setIfInBounds_toArray, List.set_cons_zero, List.set_cons_succ, List.getElem_toArray, List.getElem_cons_zero, List.getElem_cons_succ]
          refine wpAnyH_take (i := 9) (v := .pointer (some ⟨rg, 7, none⟩)) rfl (by kernel_rfl) (by kernel_rfl) (by kernel_rfl) (fun _ _ _ h => h) (Or.inl ⟨by rfl, fun w0 s1 => ?_⟩) hHeld ?_
          · go_simp
          try simp only [Act.put, List.setIfInBounds_toArray, List.set_cons_zero, List.set_cons_succ, List.getElem_toArray, List.getElem_cons_zero, List.getElem_cons_succ]
          refine wpAnyH_take (i := 10) (v := .slice (some ⟨g, 0, none⟩) N cap) rfl (by kernel_rfl) (by kernel_rfl) (by kernel_rfl) (fun _ _ _ h => h) (Or.inl ⟨by rfl, fun w0 s1 => ?_⟩) hHeld ?_
          · go_simp
          try simp only [Act.put, List.setIfInBounds_toArray, List.set_cons_zero, List.set_cons_succ, List.getElem_toArray, List.getElem_cons_zero, List.getElem_cons_succ]
          refine wpAnyH_take (i := 11) (v := .int .i64 (j : Int)) rfl (by kernel_rfl) (by kernel_rfl) (by kernel_rfl) (fun _ _ _ h => h) (Or.inl ⟨by rfl, fun w0 s1 => ?_⟩) hHeld ?_
          · go_simp
          try simp only [Act.put, List.setIfInBounds_toArray, List.set_cons_zero, List.set_cons_succ, List.getElem_toArray, List.getElem_cons_zero, List.getElem_cons_succ]
          refine wpAnyH_take (i := 12) (v := .slice (some ⟨g, 0, none⟩) j cap) rfl (by kernel_rfl) (by kernel_rfl) (by kernel_rfl) (fun _ _ _ h => h) (Or.inl ⟨by rfl, fun w0 s1 => ?_⟩) hHeld ?_
          · go_simp
          try simp only [Act.put, List.setIfInBounds_toArray, List.set_cons_zero, List.set_cons_succ, List.getElem_toArray, List.getElem_cons_zero, List.getElem_cons_succ]
          refine wpAnyH_ready (rs := [6]) (by kernel_rfl) (by simp) ?_
          refine AllReadyH.cons rfl (fun K hK => ?_) AllReadyH.nil
          go_simp
          refine hK.out _ _ (xa X) (fun hHeld1 => ?_)
          clear hK K
          try simp only [Act.put, List.setIfInBounds_toArray, List.set_cons_zero, List.set_cons_succ, List.getElem_toArray, List.getElem_cons_zero, List.getElem_cons_succ]
          refine wpAnyH_ready (rs := [13]) (by kernel_rfl) (by simp) ?_
          refine AllReadyH.cons rfl (fun K hK => ?_) AllReadyH.nil
          refine Own.step_app rfl (.tmp 54) (.tmp 60) 59 rfl Try.underlying59 info_ino (.slice (some ⟨w1.heap.size, 0, none⟩) 0 (N + 1)) (.slice (some ⟨g, 0, none⟩) j cap) rfl rfl A1.out (by simp) (hS1.out.keep hbS.out) hone1.out (by unfold maxLen; omega) (by omega) ?_
          intro v2 w2 ho2 hg2 hob2
          rw [Nat.zero_add] at ho2
          obtain ⟨a2, c2, rfl⟩ := Own.form ho2
          have A2 := W_hid ho2
          have B2 := W_hid (hbS.out.grown hg2 (by simp) (fun jj hj => Own.ge A1.out jj hj))
          have y2 := cellkept B2.out d7
          clear ho2 hg2 hob2
          refine hK.out _ _ y2 (fun hHeld2 => ?_)
          clear hK K
          try simp only [Act.put, List.setIfInBounds_toArray, List.set_cons_zero, List.set_cons_succ, List.getElem_toArray, List.getElem_cons_zero, List.getElem_cons_succ]
          refine wpAnyH_take (i := 14) (v := .slice a2 j c2) rfl (by kernel_rfl) (by kernel_rfl) (by kernel_rfl) (fun _ _ _ h => h) (Or.inl ⟨by rfl, fun w0 s1 => ?_⟩) hHeld2 ?_
          · go_simp
          try simp only [Act.put, List.setIfInBounds_toArray, List.set_cons_zero, List.set_cons_succ, List.getElem_toArray, List.getElem_cons_zero, List.getElem_cons_succ]
          refine wpAnyH_done (by kernel_rfl) ?_ _
          have hblk := Blk.new w2 72 (rrow ⟨(j : Int) + 1, 1, 1, 0, 0, 0, .slice none 0 0⟩) rfl
          have B2a := W_hid (B2.out.alloc B2.out.size (.cells #[.int .i64 ((j : Int) + 1), .int .i64 1, .int .i64 1, .int .i64 0, .int .i64 0, .int .i64 0, .slice none 0 0] 72))
          have A2a := W_hid (Own.below A2.out ((Below.refl w2.heap.size w2).alloc (Nat.le_refl _) (.cells #[.int .i64 ((j : Int) + 1), .int .i64 1, .int .i64 1, .int .i64 0, .int .i64 0, .int .i64 0, .slice none 0 0] 72)))
          have S2a : Hid (Own.Src (w2.alloc (.cells #[.int .i64 ((j : Int) + 1), .int .i64 1, .int .i64 1, .int .i64 0, .int .i64 0, .int .i64 0, .slice none 0 0] 72)) 7 (.slice (some ⟨w2.heap.size, 0, none⟩) 1 1) 1 (rrow ⟨(j : Int) + 1, 1, 1, 0, 0, 0, .slice none 0 0⟩)) := W_hid (.inr ⟨_, _, rfl, rfl, fun i u hi => by
            have := hblk.cell hi
            rw [Addr.add_lit, Nat.zero_add]
            exact this⟩)
          clear hblk
          go_wp2_with (first
            | (at_builtin; refine Own.wpList_app rfl (.tmp 62) (.tmp 68) 59 rfl Try.underlying59 info_ino (.slice a2 j c2) (.slice (some ⟨w2.heap.size, 0, none⟩) 1 1) rfl rfl A2a.out B2a.out.size S2a.out (rrow_one rfl) (by unfold maxLen; omega) (by omega) ?_; intro v3 w3 ho3 hg3 hob3; obtain ⟨a3, c3, rfl⟩ := Own.form ho3; have A3 := W_hid ho3; have B3 := W_hid (B2a.out.grown hg3 B2a.out.size (fun k h => Own.ge A2a.out k h)); have S3 := W_hid (hsrc3.out.1.keep B3.out); have y7 := cellkept B3.out d7; clear ho3 hg3 hob3)
            | (at_builtin; refine Own.wpList_app rfl (.tmp 71) (.tmp 77) 59 rfl Try.underlying59 info_ino (.slice a3 (j + 1) c3) ad rfl rfl A3.out B3.out.size S3.out hone3.out (by unfold maxLen; omega) (by omega) ?_; intro v4 w4 ho4 hg4 hob4; obtain ⟨a4, c4, rfl⟩ := Own.form ho4; have B4 := W_hid (B3.out.grown hg4 B3.out.size (fun k h => Own.ge A3.out k h)); have A4 := W_hid ho4; have f4 := (H1.out.box.below B4.out hrl.out).fz; have z7 := (H1.out.box.below B4.out hrl.out).cell (j := 7) rfl; clear ho4 hg4 hob4))
          go_wp2_with fail
          go_ret2
          obtain ⟨q1, q2⟩ := H1.out.newRow (q' := q.take j ++ (⟨(j : Int) + 1, 1, 1, 0, 0, 0, .slice none 0 0⟩ : RE) :: q.drop j) B4.out (by
            have e1 : (q.take j ++ (⟨(j : Int) + 1, 1, 1, 0, 0, 0, .slice none 0 0⟩ : RE) :: q.drop j).length = j + 1 + (N - j) := by
              rw [List.length_append, List.length_take, List.length_cons, List.length_drop, hN.out]; omega
            have e2 : rcl (q.take j ++ (⟨(j : Int) + 1, 1, 1, 0, 0, 0, .slice none 0 0⟩ : RE) :: q.drop j) = [] ++ (rcl q).take (j * 7) ++ rrow ⟨(j : Int) + 1, 1, 1, 0, 0, 0, .slice none 0 0⟩ ++ (rcl q).drop (j * 7) := by
              rw [rcl_take, rcl_drop, show q.take j ++ (⟨(j : Int) + 1, 1, 1, 0, 0, 0, .slice none 0 0⟩ : RE) :: q.drop j = q.take j ++ ([⟨(j : Int) + 1, 1, 1, 0, 0, 0, .slice none 0 0⟩] ++ q.drop j) from rfl, rcl_app, rcl_app, rcl_one]
              simp only [List.nil_append, List.append_assoc]
            rw [e1, e2]
            exact A4.out)
          refine ⟨by rw [hnP.out]; rfl, ⟨_, _, _, _, _, _, q1, ?_⟩, (Keeps.new hb1.out (Nat.le_trans hbase.out (Nat.le_refl _))).trans q2⟩
          exact ((HF1.out.take j).app (show Fits w1 (_ :: _) (_ :: _) from ⟨⟨by rw [hnP.out]; rfl, rfl, rfl, rfl, rfl, rfl, XE.nil _⟩, HF1.out.drop j⟩)).keeps q2 (by simp [DT])
  · go_enter Try.func26, Try.ntmps26
    go_wp2_with fail
    go_quiet (fail)
    go_wp2_with fail
    have H1 := W_hid (H.out.drewN nq)
    have HF1 := W_hid (HF.out.drewN nq)
    have hb1 := W_hid (drew_keep (w := w) nq)
    have d0 := H1.out.box.cell (j := 0) rfl
    have d7 := H1.out.box.cell (j := 7) rfl
    rw [hN.out] at d7
    obtain ⟨w1, hw1⟩ : ∃ w1, w.drewN nq = w1 := ⟨_, rfl⟩
    rw [hw1] at H1 HF1 hb1 d0 d7 ⊢
    clear hw1 c0 c7 H HF
    go_loopw [6] (fun i wr => ∃ j : Nat, j ≤ P ∧ i = .int .i64 (j : Int) ∧ w1 = wr) (fun i _ => P - (intOf i).toNat)
    case atStart => exact ⟨0, Nat.zero_le _, rfl, rfl⟩
    case round =>
      obtain ⟨j, hj, rfl, hwr⟩ := hrel
      subst hwr
      by_cases hjP : j < P
      · have hjq : j < q.length := by rw [hN.out]; omega
        obtain ⟨g, N', cap', hv, hN', -, -, -, -, -, -, -, -, -, -, -, -, -, e0, -⟩ := H1.out.opened hjq
        rw [hN.out] at hv
        simp only [Value.slice.injEq] at hv
        obtain ⟨rfl, -, -⟩ := hv
        rw [(hel.out j hjq).1 hjP] at e0
        have hjN : (j : Int) < (N : Int) := by omega
        have hwj : IntKind.i64.wrap ((j : Int) + 1) = (j : Int) + 1 := IntWalk.i64_in _ (by omega)
        clear hN' N' hjq
        go_wp2_with fail
        go_roundw
        case rel => exact ⟨j + 1, by omega, by go_num, by first | trivial | rfl⟩
        case measure => simp [intOf]; omega
      · obtain rfl : j = P := by omega
        have hcase : Hid (j = N) ∨ (j < N ∧ ∃ g a, ao = some ⟨g, 0, none⟩ ∧ w1.cell? ⟨g, j * 7, none⟩ = some (.int .i64 a) ∧ ¬ a = (j : Int) + 1) := by
          rcases Nat.lt_or_ge j N with hlt | hge
          · right
            have hjq : j < q.length := by rw [hN.out]; omega
            obtain ⟨g, N', cap', hv, hN', -, -, -, -, -, -, -, -, -, -, -, -, -, e0, -⟩ := H1.out.opened hjq
            rw [hN.out] at hv
            simp only [Value.slice.injEq] at hv
            exact ⟨hlt, g, _, hv.1, e0, (hel.out j hjq).2 rfl⟩
          · left; exact W_hid (by omega)
        have hS1 := W_hid (Own.src_take (v := .slice ao N cap) (by have := H1.out.row; rw [hN.out] at this; exact this) rfl j hPN)
        have hone1 : Hid (∀ u ∈ (rcl q).take (j * 7), u.oneCell' = true) := W_hid (fun u hu => HF1.out.one u (List.mem_of_mem_take hu))
        have hone3 : Hid (∀ u ∈ (rcl q).drop (j * 7), u.oneCell' = true) := W_hid (fun u hu => HF1.out.one u (List.mem_of_mem_drop hu))
        obtain ⟨ad, hlo3, hsrc3⟩ : ∃ ad : Value, (∀ W : World, (Instr.slice 59 (.slice ao N cap) (some (.int .i64 (j : Int))) none none).run Try.prog W = .ok ad W) ∧ Hid (Own.Src w1 7 ad (N - j) ((rcl q).drop (j * 7)) ∧ ∀ aa n c, ad = .slice (some aa) n c → aa.block < w1.heap.size) := by
          rcases hc3.out with e | ⟨b, ob, e⟩
          · have e2 := hc4.out e
            obtain rfl : N = 0 := by omega
            subst e; subst e2
            obtain rfl : j = 0 := by omega
            refine ⟨.slice none 0 0, Own.cut_none (t := 59) Try.underlying59 elem_ino info_ino, W_hid ⟨.inl ⟨rfl, rfl, ?_⟩, fun aa n c e => by simp at e⟩⟩
            rw [Nat.zero_mul, List.drop_zero]
            exact List.eq_nil_of_length_eq_zero (by rw [rcl_len, hN.out])
          · subst e
            have hrow := H1.out.row
            rw [hN.out] at hrow
            obtain ⟨ad, hl1, hl2, hl3⟩ := Own.cut_lo (t := 59) Try.underlying59 elem_ino info_ino b ob N cap j (j : Int) rfl hPN hc1
            refine ⟨_, hl1, W_hid ⟨Own.src_drop hrow j hPN ad _ hl3, fun aa n c e => ?_⟩⟩
            simp only [Value.slice.injEq, Option.some.injEq] at e
            obtain ⟨rfl, -, -⟩ := e
            rw [hl2]
            rcases hrow.2 with ⟨e, _⟩ | ⟨g, cap', cur, e, _, hg, _⟩
            · simp at e
            · simp only [Value.slice.injEq, Option.some.injEq, Addr.mk.injEq] at e
              rw [e.1.1]
              exact lt_of_some hg
        have xa : ∀ ob, (w1.drew.alloc ob).cell? ⟨rg, 7, none⟩ = some (.slice ao N cap) := fun ob => cellkept (((Below.refl w1.heap.size w1).drew).alloc (Nat.le_refl _) ob) d7
        have A1 : Hid ((w1.drew.alloc X).ownsRow w1.heap.size 72 7 (.slice (some ⟨w1.heap.size, 0, none⟩) 0 (N + 1)) 0 []) := W_hid (hmo.out w1.drew w1.heap.size (Nat.le_refl _))
        have hrl := W_hid H1.out.box.lt
        have hbS := W_hid (((Below.refl w1.heap.size w1).drew).alloc (Nat.le_refl _) X)
        have hhi' := hhi.out
        rcases hcase with h1 | ⟨h1, g, a, rfl, e0, e1⟩
        · have hge : (N : Int) ≤ (j : Int) := by have := h1.out; omega
          go_wp2_with fail
          refine wp_region_held_drew (S := (fun w' => w'.cell? ⟨rg, 7, none⟩ = some (.slice ao N cap))) (by kernel_rfl) d7 (fun hHeld => ?_)
          refine wpAnyH_take (i := 0) (v := .pointer (some ⟨rg, 0, none⟩)) rfl (by kernel_rfl) (by kernel_rfl) (by kernel_rfl) (fun _ _ _ h => h) (Or.inl ⟨by rfl, fun w0 s1 => ?_⟩) hHeld ?_
          · go_simp
          try simp only [Act.put, List.setIfInBounds_toArray, List.set_cons_zero, List.set_cons_succ, List.getElem_toArray, List.getElem_cons_zero, List.getElem_cons_succ]
          refine wpAnyH_take (i := 1) (v := .pointer (some ⟨rg, 0, none⟩)) rfl (by kernel_rfl) (by kernel_rfl) (by kernel_rfl) (fun _ _ _ h => h) (Or.inl ⟨by rfl, fun w0 s1 => ?_⟩) hHeld ?_
          · go_simp
          try simp only [Act.put, List.setIfInBounds_toArray, List.set_cons_zero, List.set_cons_succ, List.getElem_toArray, List.getElem_cons_zero, List.getElem_cons_succ]
          refine wpAnyH_take (i := 2) (v := .pointer (some ⟨rg, 7, none⟩)) rfl (by kernel_rfl) (by kernel_rfl) (by kernel_rfl) (fun _ _ _ h => h) (Or.inl ⟨by rfl, fun w0 s1 => ?_⟩) hHeld ?_
          · go_simp
          try simp only [Act.put, List.setIfInBounds_toArray, List.set_cons_zero, List.set_cons_succ, List.getElem_toArray, List.getElem_cons_zero, List.getElem_cons_succ]
          refine wpAnyH_take (i := 3) (v := .slice ao N cap) rfl (by kernel_rfl) (by kernel_rfl) (by kernel_rfl) (fun _ _ _ h => h) (Or.inl ⟨by rfl, fun w0 s1 => ?_⟩) hHeld ?_
          · go_simp
          try simp only [Act.put, List.setIfInBounds_toArray, List.set_cons_zero, List.set_cons_succ, List.getElem_toArray, List.getElem_cons_zero, List.getElem_cons_succ]
          refine wpAnyH_take (i := 4) (v := .int .i64 (N : Int)) rfl (by kernel_rfl) (by kernel_rfl) (by kernel_rfl) (fun _ _ _ h => h) (Or.inl ⟨by rfl, fun w0 s1 => ?_⟩) hHeld ?_
          · go_simp
          try simp only [Act.put, List.setIfInBounds_toArray, List.set_cons_zero, List.set_cons_succ, List.getElem_toArray, List.getElem_cons_zero, List.getElem_cons_succ]
          refine wpAnyH_take (i := 5) (v := .int .i64 ((N : Int) + 1)) rfl (by kernel_rfl) (by kernel_rfl) (by kernel_rfl) (fun _ _ _ h => h) (Or.inl ⟨by rfl, fun w0 s1 => ?_⟩) hHeld ?_
          · go_simp
          try simp only [Act.put, List.setIfInBounds_toArray, List.set_cons_zero, List.set_cons_succ, List.getElem_toArray, List.getElem_cons_zero, List.getElem_cons_succ]
          refine wpAnyH_take (i := 7) (v := .pointer (some ⟨rg, 0, none⟩)) rfl (by kernel_rfl) (by kernel_rfl) (by kernel_rfl) (fun _ _ _ h => h) (Or.inl ⟨by rfl, fun w0 s1 => ?_⟩) hHeld ?_
          · go_simp
          try simp only [Act.put, List.setIfInBounds_toArray, List.set_cons_zero, List.set_cons_succ, List.getElem_toArray, List.getElem_cons_zero, List.getElem_cons_succ]
          refine wpAnyH_take (i := 8) (v := .pointer (some ⟨rg, 0, none⟩)) rfl (by kernel_rfl) (by kernel_rfl) (by kernel_rfl) (fun _ _ _ h => h) (Or.inl ⟨by rfl, fun w0 s1 => ?_⟩) hHeld ?_
          · go_simp
          try simp only [Act.put, List.setIfInBounds_toArray, List.set_cons_zero, List.set_cons_succ, List.getElem_toArray, List.getElem_cons_zero, List.getElem_cons_succ]
          refine wpAnyH_take (i := 9) (v := .pointer (some ⟨rg, 7, none⟩)) rfl (by kernel_rfl) (by kernel_rfl) (by kernel_rfl) (fun _ _ _ h => h) (Or.inl ⟨by rfl, fun w0 s1 => ?_⟩) hHeld ?_
          · go_simp
          try simp only [Act.put, List.setIfInBounds_toArray, List.set_cons_zero, List.set_cons_succ, List.getElem_toArray, List.getElem_cons_zero, List.getElem_cons_succ]
          refine wpAnyH_take (i := 10) (v := .slice ao N cap) rfl (by kernel_rfl) (by kernel_rfl) (by kernel_rfl) (fun _ _ _ h => h) (Or.inl ⟨by rfl, fun w0 s1 => ?_⟩) hHeld ?_
          · go_simp
          try simp only [Act.put, List.setIfInBounds_toArray, List.set_cons_zero, List.set_cons_succ, List.getElem_toArray, List.getElem_cons_zero, List.getElem_cons_succ]
          refine wpAnyH_take (i := 11) (v := .int .i64 (j : Int)) rfl (by kernel_rfl) (by kernel_rfl) (by kernel_rfl) (fun _ _ _ h => h) (Or.inl ⟨by rfl, fun w0 s1 => ?_⟩) hHeld ?_
          · go_simp
          try simp only [Act.put, List.setIfInBounds_toArray, List.set_cons_zero, List.set_cons_succ, List.getElem_toArray, List.getElem_cons_zero, List.getElem_cons_succ]
          refine wpAnyH_take (i := 12) (v := .slice ao j cap) rfl (by kernel_rfl) (by kernel_rfl) (by kernel_rfl) (fun _ _ _ h => h) (Or.inl ⟨by rfl, fun w0 s1 => ?_⟩) hHeld ?_
          · go_simp
          try simp only [Act.put, List.setIfInBounds_toArray, List.set_cons_zero, List.set_cons_succ, List.getElem_toArray, List.getElem_cons_zero, List.getElem_cons_succ]
          refine wpAnyH_ready (rs := [6]) (by kernel_rfl) (by simp) ?_
          refine AllReadyH.cons rfl (fun K hK => ?_) AllReadyH.nil
          go_simp
          refine hK.out _ _ (xa X) (fun hHeld1 => ?_)
          clear hK K
          try simp only [Act.put, List.setIfInBounds_toArray, List.set_cons_zero, List.set_cons_succ, List.getElem_toArray, List.getElem_cons_zero, List.getElem_cons_succ]
          refine wpAnyH_ready (rs := [13]) (by kernel_rfl) (by simp) ?_
          refine AllReadyH.cons rfl (fun K hK => ?_) AllReadyH.nil
          refine Own.step_app rfl (.tmp 54) (.tmp 60) 59 rfl Try.underlying59 info_ino (.slice (some ⟨w1.heap.size, 0, none⟩) 0 (N + 1)) (.slice ao j cap) rfl rfl A1.out (by simp) (hS1.out.keep hbS.out) hone1.out (by unfold maxLen; omega) (by omega) ?_
          intro v2 w2 ho2 hg2 hob2
          rw [Nat.zero_add] at ho2
          obtain ⟨a2, c2, rfl⟩ := Own.form ho2
          have A2 := W_hid ho2
          have B2 := W_hid (hbS.out.grown hg2 (by simp) (fun jj hj => Own.ge A1.out jj hj))
          have y2 := cellkept B2.out d7
          clear ho2 hg2 hob2
          refine hK.out _ _ y2 (fun hHeld2 => ?_)
          clear hK K
          try simp only [Act.put, List.setIfInBounds_toArray, List.set_cons_zero, List.set_cons_succ, List.getElem_toArray, List.getElem_cons_zero, List.getElem_cons_succ]
          refine wpAnyH_take (i := 14) (v := .slice a2 j c2) rfl (by kernel_rfl) (by kernel_rfl) (by kernel_rfl) (fun _ _ _ h => h) (Or.inl ⟨by rfl, fun w0 s1 => ?_⟩) hHeld2 ?_
          · go_simp
          try simp only [Act.put, List.setIfInBounds_toArray, List.set_cons_zero, List.set_cons_succ, List.getElem_toArray, List.getElem_cons_zero, List.getElem_cons_succ]
          refine wpAnyH_done (by kernel_rfl) ?_ _
          have hblk := Blk.new w2 72 (rrow ⟨(j : Int) + 1, 2, 1, 0, 0, 0, .slice none 0 0⟩) rfl
          have B2a := W_hid (B2.out.alloc B2.out.size (.cells #[.int .i64 ((j : Int) + 1), .int .i64 2, .int .i64 1, .int .i64 0, .int .i64 0, .int .i64 0, .slice none 0 0] 72))
          have A2a := W_hid (Own.below A2.out ((Below.refl w2.heap.size w2).alloc (Nat.le_refl _) (.cells #[.int .i64 ((j : Int) + 1), .int .i64 2, .int .i64 1, .int .i64 0, .int .i64 0, .int .i64 0, .slice none 0 0] 72)))
          have S2a : Hid (Own.Src (w2.alloc (.cells #[.int .i64 ((j : Int) + 1), .int .i64 2, .int .i64 1, .int .i64 0, .int .i64 0, .int .i64 0, .slice none 0 0] 72)) 7 (.slice (some ⟨w2.heap.size, 0, none⟩) 1 1) 1 (rrow ⟨(j : Int) + 1, 2, 1, 0, 0, 0, .slice none 0 0⟩)) := W_hid (.inr ⟨_, _, rfl, rfl, fun i u hi => by
            have := hblk.cell hi
            rw [Addr.add_lit, Nat.zero_add]
            exact this⟩)
          clear hblk
          go_wp2_with (first
            | (at_builtin; refine Own.wpList_app rfl (.tmp 62) (.tmp 68) 59 rfl Try.underlying59 info_ino (.slice a2 j c2) (.slice (some ⟨w2.heap.size, 0, none⟩) 1 1) rfl rfl A2a.out B2a.out.size S2a.out (rrow_one rfl) (by unfold maxLen; omega) (by omega) ?_; intro v3 w3 ho3 hg3 hob3; obtain ⟨a3, c3, rfl⟩ := Own.form ho3; have A3 := W_hid ho3; have B3 := W_hid (B2a.out.grown hg3 B2a.out.size (fun k h => Own.ge A2a.out k h)); have S3 := W_hid (hsrc3.out.1.keep B3.out); have y7 := cellkept B3.out d7; clear ho3 hg3 hob3)
            | (at_builtin; refine Own.wpList_app rfl (.tmp 71) (.tmp 77) 59 rfl Try.underlying59 info_ino (.slice a3 (j + 1) c3) ad rfl rfl A3.out B3.out.size S3.out hone3.out (by unfold maxLen; omega) (by omega) ?_; intro v4 w4 ho4 hg4 hob4; obtain ⟨a4, c4, rfl⟩ := Own.form ho4; have B4 := W_hid (B3.out.grown hg4 B3.out.size (fun k h => Own.ge A3.out k h)); have A4 := W_hid ho4; have f4 := (H1.out.box.below B4.out hrl.out).fz; have z7 := (H1.out.box.below B4.out hrl.out).cell (j := 7) rfl; clear ho4 hg4 hob4))
          go_wp2_with fail
          go_ret2
          obtain ⟨q1, q2⟩ := H1.out.newRow (q' := q.take j ++ (⟨(j : Int) + 1, 2, 1, 0, 0, 0, .slice none 0 0⟩ : RE) :: q.drop j) B4.out (by
            have e1 : (q.take j ++ (⟨(j : Int) + 1, 2, 1, 0, 0, 0, .slice none 0 0⟩ : RE) :: q.drop j).length = j + 1 + (N - j) := by
              rw [List.length_append, List.length_take, List.length_cons, List.length_drop, hN.out]; omega
            have e2 : rcl (q.take j ++ (⟨(j : Int) + 1, 2, 1, 0, 0, 0, .slice none 0 0⟩ : RE) :: q.drop j) = [] ++ (rcl q).take (j * 7) ++ rrow ⟨(j : Int) + 1, 2, 1, 0, 0, 0, .slice none 0 0⟩ ++ (rcl q).drop (j * 7) := by
              rw [rcl_take, rcl_drop, show q.take j ++ (⟨(j : Int) + 1, 2, 1, 0, 0, 0, .slice none 0 0⟩ : RE) :: q.drop j = q.take j ++ ([⟨(j : Int) + 1, 2, 1, 0, 0, 0, .slice none 0 0⟩] ++ q.drop j) from rfl, rcl_app, rcl_app, rcl_one]
              simp only [List.nil_append, List.append_assoc]
            rw [e1, e2]
            exact A4.out)
          refine ⟨by rw [hnP.out]; rfl, ⟨_, _, _, _, _, _, q1, ?_⟩, (Keeps.new hb1.out (Nat.le_trans hbase.out (Nat.le_refl _))).trans q2⟩
          exact ((HF1.out.take j).app (show Fits w1 (_ :: _) (_ :: _) from ⟨⟨by rw [hnP.out]; rfl, rfl, rfl, rfl, rfl, rfl, XE.nil _⟩, HF1.out.drop j⟩)).keeps q2 (by simp [DT])
        · have hlt : (j : Int) < (N : Int) := by omega
          go_wp2_with fail
          refine wp_region_held_drew (S := (fun w' => w'.cell? ⟨rg, 7, none⟩ = some (.slice (some ⟨g, 0, none⟩) N cap))) (by kernel_rfl) d7 (fun hHeld => ?_)
          refine wpAnyH_take (i := 0) (v := .pointer (some ⟨rg, 0, none⟩)) rfl (by kernel_rfl) (by kernel_rfl) (by kernel_rfl) (fun _ _ _ h => h) (Or.inl ⟨by rfl, fun w0 s1 => ?_⟩) hHeld ?_
          · go_simp
          try simp only [Act.put, List.setIfInBounds_toArray, List.set_cons_zero, List.set_cons_succ, List.getElem_toArray, List.getElem_cons_zero, List.getElem_cons_succ]
          refine wpAnyH_take (i := 1) (v := .pointer (some ⟨rg, 0, none⟩)) rfl (by kernel_rfl) (by kernel_rfl) (by kernel_rfl) (fun _ _ _ h => h) (Or.inl ⟨by rfl, fun w0 s1 => ?_⟩) hHeld ?_
          · go_simp
          try simp only [Act.put, List.setIfInBounds_toArray, List.set_cons_zero, List.set_cons_succ, List.getElem_toArray, List.getElem_cons_zero, List.getElem_cons_succ]
          refine wpAnyH_take (i := 2) (v := .pointer (some ⟨rg, 7, none⟩)) rfl (by kernel_rfl) (by kernel_rfl) (by kernel_rfl) (fun _ _ _ h => h) (Or.inl ⟨by rfl, fun w0 s1 => ?_⟩) hHeld ?_
          · go_simp
          try simp only [Act.put, List.setIfInBounds_toArray, List.set_cons_zero, List.set_cons_succ, List.getElem_toArray, List.getElem_cons_zero, List.getElem_cons_succ]
          refine wpAnyH_take (i := 3) (v := .slice (some ⟨g, 0, none⟩) N cap) rfl (by kernel_rfl) (by kernel_rfl) (by kernel_rfl) (fun _ _ _ h => h) (Or.inl ⟨by rfl, fun w0 s1 => ?_⟩) hHeld ?_
          · go_simp
          try simp only [Act.put, List.setIfInBounds_toArray, List.set_cons_zero, List.set_cons_succ, List.getElem_toArray, List.getElem_cons_zero, List.getElem_cons_succ]
          refine wpAnyH_take (i := 4) (v := .int .i64 (N : Int)) rfl (by kernel_rfl) (by kernel_rfl) (by kernel_rfl) (fun _ _ _ h => h) (Or.inl ⟨by rfl, fun w0 s1 => ?_⟩) hHeld ?_
          · go_simp
          try simp only [Act.put, List.setIfInBounds_toArray, List.set_cons_zero, List.set_cons_succ, List.getElem_toArray, List.getElem_cons_zero, List.getElem_cons_succ]
          refine wpAnyH_take (i := 5) (v := .int .i64 ((N : Int) + 1)) rfl (by kernel_rfl) (by kernel_rfl) (by kernel_rfl) (fun _ _ _ h => h) (Or.inl ⟨by rfl, fun w0 s1 => ?_⟩) hHeld ?_
          · go_simp
          try simp only [Act.put, List.setIfInBounds_toArray, List.set_cons_zero, List.set_cons_succ, List.getElem_toArray, List.getElem_cons_zero, List.getElem_cons_succ]
          refine wpAnyH_take (i := 7) (v := .pointer (some ⟨rg, 0, none⟩)) rfl (by kernel_rfl) (by kernel_rfl) (by kernel_rfl) (fun _ _ _ h => h) (Or.inl ⟨by rfl, fun w0 s1 => ?_⟩) hHeld ?_
          · go_simp
          try simp only [Act.put, List.setIfInBounds_toArray, List.set_cons_zero, List.set_cons_succ, List.getElem_toArray, List.getElem_cons_zero, List.getElem_cons_succ]
          refine wpAnyH_take (i := 8) (v := .pointer (some ⟨rg, 0, none⟩)) rfl (by kernel_rfl) (by kernel_rfl) (by kernel_rfl) (fun _ _ _ h => h) (Or.inl ⟨by rfl, fun w0 s1 => ?_⟩) hHeld ?_
          · go_simp
          try simp only [Act.put, List.setIfInBounds_toArray, List.set_cons_zero, List.set_cons_succ, List.getElem_toArray, List.getElem_cons_zero, List.getElem_cons_succ]
          refine wpAnyH_take (i := 9) (v := .pointer (some ⟨rg, 7, none⟩)) rfl (by kernel_rfl) (by kernel_rfl) (by kernel_rfl) (fun _ _ _ h => h) (Or.inl ⟨by rfl, fun w0 s1 => ?_⟩) hHeld ?_
          · go_simp
          try simp only [Act.put, List.setIfInBounds_toArray, List.set_cons_zero, List.set_cons_succ, List.getElem_toArray, List.getElem_cons_zero, List.getElem_cons_succ]
          refine wpAnyH_take (i := 10) (v := .slice (some ⟨g, 0, none⟩) N cap) rfl (by kernel_rfl) (by kernel_rfl) (by kernel_rfl) (fun _ _ _ h => h) (Or.inl ⟨by rfl, fun w0 s1 => ?_⟩) hHeld ?_
          · go_simp
          try simp only [Act.put, List.setIfInBounds_toArray, List.set_cons_zero, List.set_cons_succ, List.getElem_toArray, List.getElem_cons_zero, List.getElem_cons_succ]
          refine wpAnyH_take (i := 11) (v := .int .i64 (j : Int)) rfl (by kernel_rfl) (by kernel_rfl) (by kernel_rfl) (fun _ _ _ h => h) (Or.inl ⟨by rfl, fun w0 s1 => ?_⟩) hHeld ?_
          · go_simp
          try simp only [Act.put, List.setIfInBounds_toArray, List.set_cons_zero, List.set_cons_succ, List.getElem_toArray, List.getElem_cons_zero, List.getElem_cons_succ]
          refine wpAnyH_take (i := 12) (v := .slice (some ⟨g, 0, none⟩) j cap) rfl (by kernel_rfl) (by kernel_rfl) (by kernel_rfl) (fun _ _ _ h => h) (Or.inl ⟨by rfl, fun w0 s1 => ?_⟩) hHeld ?_
          · go_simp
          try simp only [Act.put, List.setIfInBounds_toArray, List.set_cons_zero, List.set_cons_succ, List.getElem_toArray, List.getElem_cons_zero, List.getElem_cons_succ]
          refine wpAnyH_ready (rs := [6]) (by kernel_rfl) (by simp) ?_
          refine AllReadyH.cons rfl (fun K hK => ?_) AllReadyH.nil
          go_simp
          refine hK.out _ _ (xa X) (fun hHeld1 => ?_)
          clear hK K
          try simp only [Act.put, List.setIfInBounds_toArray, List.set_cons_zero, List.set_cons_succ, List.getElem_toArray, List.getElem_cons_zero, List.getElem_cons_succ]
          refine wpAnyH_ready (rs := [13]) (by kernel_rfl) (by simp) ?_
          refine AllReadyH.cons rfl (fun K hK => ?_) AllReadyH.nil
          refine Own.step_app rfl (.tmp 54) (.tmp 60) 59 rfl Try.underlying59 info_ino (.slice (some ⟨w1.heap.size, 0, none⟩) 0 (N + 1)) (.slice (some ⟨g, 0, none⟩) j cap) rfl rfl A1.out (by simp) (hS1.out.keep hbS.out) hone1.out (by unfold maxLen; omega) (by omega) ?_
          intro v2 w2 ho2 hg2 hob2
          rw [Nat.zero_add] at ho2
          obtain ⟨a2, c2, rfl⟩ := Own.form ho2
          have A2 := W_hid ho2
          have B2 := W_hid (hbS.out.grown hg2 (by simp) (fun jj hj => Own.ge A1.out jj hj))
          have y2 := cellkept B2.out d7
          clear ho2 hg2 hob2
          refine hK.out _ _ y2 (fun hHeld2 => ?_)
          clear hK K
          try simp only [Act.put, List.setIfInBounds_toArray, List.set_cons_zero, List.set_cons_succ, List.getElem_toArray, List.getElem_cons_zero, List.getElem_cons_succ]
          refine wpAnyH_take (i := 14) (v := .slice a2 j c2) rfl (by kernel_rfl) (by kernel_rfl) (by kernel_rfl) (fun _ _ _ h => h) (Or.inl ⟨by rfl, fun w0 s1 => ?_⟩) hHeld2 ?_
          · go_simp
          try simp only [Act.put, List.setIfInBounds_toArray, List.set_cons_zero, List.set_cons_succ, List.getElem_toArray, List.getElem_cons_zero, List.getElem_cons_succ]
          refine wpAnyH_done (by kernel_rfl) ?_ _
          have hblk := Blk.new w2 72 (rrow ⟨(j : Int) + 1, 2, 1, 0, 0, 0, .slice none 0 0⟩) rfl
          have B2a := W_hid (B2.out.alloc B2.out.size (.cells #[.int .i64 ((j : Int) + 1), .int .i64 2, .int .i64 1, .int .i64 0, .int .i64 0, .int .i64 0, .slice none 0 0] 72))
          have A2a := W_hid (Own.below A2.out ((Below.refl w2.heap.size w2).alloc (Nat.le_refl _) (.cells #[.int .i64 ((j : Int) + 1), .int .i64 2, .int .i64 1, .int .i64 0, .int .i64 0, .int .i64 0, .slice none 0 0] 72)))
          have S2a : Hid (Own.Src (w2.alloc (.cells #[.int .i64 ((j : Int) + 1), .int .i64 2, .int .i64 1, .int .i64 0, .int .i64 0, .int .i64 0, .slice none 0 0] 72)) 7 (.slice (some ⟨w2.heap.size, 0, none⟩) 1 1) 1 (rrow ⟨(j : Int) + 1, 2, 1, 0, 0, 0, .slice none 0 0⟩)) := W_hid (.inr ⟨_, _, rfl, rfl, fun i u hi => by
            have := hblk.cell hi
            rw [Addr.add_lit, Nat.zero_add]
            exact this⟩)
          clear hblk
          go_wp2_with (first
            | (at_builtin; refine Own.wpList_app rfl (.tmp 62) (.tmp 68) 59 rfl Try.underlying59 info_ino (.slice a2 j c2) (.slice (some ⟨w2.heap.size, 0, none⟩) 1 1) rfl rfl A2a.out B2a.out.size S2a.out (rrow_one rfl) (by unfold maxLen; omega) (by omega) ?_; intro v3 w3 ho3 hg3 hob3; obtain ⟨a3, c3, rfl⟩ := Own.form ho3; have A3 := W_hid ho3; have B3 := W_hid (B2a.out.grown hg3 B2a.out.size (fun k h => Own.ge A2a.out k h)); have S3 := W_hid (hsrc3.out.1.keep B3.out); have y7 := cellkept B3.out d7; clear ho3 hg3 hob3)
            | (at_builtin; refine Own.wpList_app rfl (.tmp 71) (.tmp 77) 59 rfl Try.underlying59 info_ino (.slice a3 (j + 1) c3) ad rfl rfl A3.out B3.out.size S3.out hone3.out (by unfold maxLen; omega) (by omega) ?_; intro v4 w4 ho4 hg4 hob4; obtain ⟨a4, c4, rfl⟩ := Own.form ho4; have B4 := W_hid (B3.out.grown hg4 B3.out.size (fun k h => Own.ge A3.out k h)); have A4 := W_hid ho4; have f4 := (H1.out.box.below B4.out hrl.out).fz; have z7 := (H1.out.box.below B4.out hrl.out).cell (j := 7) rfl; clear ho4 hg4 hob4))
          go_wp2_with fail
          go_ret2
          obtain ⟨q1, q2⟩ := H1.out.newRow (q' := q.take j ++ (⟨(j : Int) + 1, 2, 1, 0, 0, 0, .slice none 0 0⟩ : RE) :: q.drop j) B4.out (by
            have e1 : (q.take j ++ (⟨(j : Int) + 1, 2, 1, 0, 0, 0, .slice none 0 0⟩ : RE) :: q.drop j).length = j + 1 + (N - j) := by
              rw [List.length_append, List.length_take, List.length_cons, List.length_drop, hN.out]; omega
            have e2 : rcl (q.take j ++ (⟨(j : Int) + 1, 2, 1, 0, 0, 0, .slice none 0 0⟩ : RE) :: q.drop j) = [] ++ (rcl q).take (j * 7) ++ rrow ⟨(j : Int) + 1, 2, 1, 0, 0, 0, .slice none 0 0⟩ ++ (rcl q).drop (j * 7) := by
              rw [rcl_take, rcl_drop, show q.take j ++ (⟨(j : Int) + 1, 2, 1, 0, 0, 0, .slice none 0 0⟩ : RE) :: q.drop j = q.take j ++ ([⟨(j : Int) + 1, 2, 1, 0, 0, 0, .slice none 0 0⟩] ++ q.drop j) from rfl, rcl_app, rcl_app, rcl_one]
              simp only [List.nil_append, List.append_assoc]
            rw [e1, e2]
            exact A4.out)
          refine ⟨by rw [hnP.out]; rfl, ⟨_, _, _, _, _, _, q1, ?_⟩, (Keeps.new hb1.out (Nat.le_trans hbase.out (Nat.le_refl _))).trans q2⟩
          exact ((HF1.out.take j).app (show Fits w1 (_ :: _) (_ :: _) from ⟨⟨by rw [hnP.out]; rfl, rfl, rfl, rfl, rfl, rfl, XE.nil _⟩, HF1.out.drop j⟩)).keeps q2 (by simp [DT])
end
end IN
end Go.Proofs.Ytieneehpijilpaa

/- Contracts of the document's own Right, end, cut, Stored, Cut and Same. -/
namespace Go.Proofs.Ytieneehpijilpaa
open Go.ChangeShapes Go.WideShapes Go.ChangeAt Go.RowKit
set_option linter.unusedVariables false
set_option linter.unusedSimpArgs false

set_option maxRecDepth 100000 in
set_option maxHeartbeats 2000000 in
theorem XRight_any (ao : Option Addr) (n cap : Nat) (l : List (Int × ByteArray)) (w : World) (h : XS w ao n cap l) (hf : XFit l) :
    Calls Try.prog 70 #[.slice ao n cap] w fun e w' => e = .returned (.bool (EM.ok 0 l)) ∧ Below w.heap.size w w' := by
  have hn : n ≤ 9223372036854775807 := by have := h.2.1; have := h.2.2.1; unfold maxLen at *; omega
  have L := W_hid h.1
  have hfit := W_hid hf
  have hno := W_hid (fun k hk h => @EM.ok_no 0 l k hk h)
  have hgo := W_hid (fun k hk h => @EM.ok_next 0 l k hk h)
  have hle := W_hid (fun k (h : EM.ok 0 (l.take k) = true) => EM.nxt_le h (by decide))
  have H := W_hid h
  clear h hf
  go_enter Try.func70, Try.ntmps70
  go_wp2_with fail
  go_loopw [3, 4] (fun f i wr => ∃ (k : Nat) (b : Int), k ≤ n ∧ i = .int .i64 k ∧ f = .int .i64 b ∧ Hid (EM.ok 0 (l.take k) = true ∧ EM.nxt 0 (l.take k) = b + 1) ∧ Below w.heap.size w wr) (fun _ i _ => n - (intOf i).toNat)
  case atStart => exact ⟨0, -1, Nat.zero_le _, rfl, rfl, W_hid ⟨rfl, rfl⟩, Below.refl _ _⟩
  case round =>
    obtain ⟨k, b, hk, rfl, rfl, hok, bel⟩ := hrel
    obtain ⟨hb0, hb1⟩ : -1 ≤ b ∧ b ≤ 1048576 := by have := hle.out k hok.out.1; rw [hok.out.2] at this; omega
    by_cases hlt : k < n
    · obtain ⟨b1, o1, rfl, g1⟩ := (H.out.below bel (Nat.le_refl _)).at_ (by omega)
      have k1 : k < l.length := by rw [L.out]; exact hlt
      obtain ⟨e1, e2⟩ := g1 k hlt
      have hft := hfit.out l[k] (List.getElem_mem k1)
      have hno := W_hid (hno.out k k1)
      have hgo := W_hid (hgo.out k k1)
      obtain ⟨⟨a, d⟩, hx⟩ : ∃ x, l[k] = x := ⟨_, rfl⟩
      simp only [hx] at e1 e2 hft hno hgo
      obtain ⟨⟨ha1, ha2⟩, hd⟩ := hft
      unfold maxLen at hd
      have bel3 := below_al bel (.cells #[.int .i64 a, .string d] 94)
      clear hx g1 k1
      by_cases h1 : a < 0
      · have hh : Hid (EM.ok 0 l = false) := hno.out (.inr (.inl (by rw [hok.out.2]; show a < b + 1; omega)))
        clear hno hgo
        go_wp2_with fail
        go_ret
        exact ⟨ret_bool hh.out.symm, bel3⟩
      by_cases h2 : 1048576 < a
      · have hh : Hid (EM.ok 0 l = false) := hno.out (.inr (.inr (by show (1048576 : Int) < a + d.size; omega)))
        clear hno hgo
        go_wp2_with fail
        go_ret
        exact ⟨ret_bool hh.out.symm, bel3⟩
      by_cases h0 : d.size = 0
      · obtain ⟨s1, s2⟩ := xempty h0
        have hh : Hid (EM.ok 0 l = false) := hno.out (.inl h0)
        clear hno hgo h0
        go_wp2_with fail
        go_ret
        exact ⟨ret_bool hh.out.symm, bel3⟩
      obtain ⟨s1, s2⟩ := xfull h0
      by_cases h3 : a ≤ b
      · have hh : Hid (EM.ok 0 l = false) := hno.out (.inr (.inl (by rw [hok.out.2]; show a < b + 1; omega)))
        clear hno hgo h0
        go_wp2_with fail
        go_ret
        exact ⟨ret_bool hh.out.symm, bel3⟩
      by_cases h4 : 1048576 - a < d.size
      · have hh : Hid (EM.ok 0 l = false) := hno.out (.inr (.inr (by show (1048576 : Int) < a + d.size; omega)))
        clear hno hgo h0
        go_wp2_with fail
        go_ret
        exact ⟨ret_bool hh.out.symm, bel3⟩
      · have hnx := W_hid (hgo.out hok.out.1 (by omega) (by rw [hok.out.2]; show b + 1 ≤ a; omega) (by show a + d.size ≤ (1048576 : Int); omega))
        have h5 : a + d.size ≤ (1048576 : Int) := by omega
        clear hno hgo h0
        go_wp2_with fail
        go_roundw
        case rel => exact ⟨k + 1, a + d.size, by omega, by go_num, rfl, hnx, bel3⟩
        case measure => simp [intOf]; omega
    · obtain rfl : k = n := by omega
      have hh : Hid (EM.ok 0 l = true) := by
        have := hok.out.1
        rwa [List.take_of_length_le (by rw [L.out]; exact Nat.le_refl _)] at this
      clear hok hno hgo
      go_wp2_with fail
      go_ret
      exact ⟨ret_bool hh.out.symm, bel⟩

set_option maxRecDepth 100000 in
set_option maxHeartbeats 1000000 in
/-- end, of a list whose last extent's end int64 holds. -/
theorem rend_any (ao : Option Addr) (n cap : Nat) (l : List (Int × ByteArray)) (w : World) (h : XS w ao n cap l) (hb : ∀ x ∈ l, 0 ≤ x.1 ∧ x.1 + x.2.size ≤ 4611686018427387904) :
    Calls Try.prog 71 #[.slice ao n cap] w fun e w' => e = .returned (.int .i64 (ends l)) ∧ Below w.heap.size w w' := by
  have hn : n ≤ 9223372036854775807 := by have := h.2.1; have := h.2.2.1; unfold maxLen at *; omega
  rcases List.eq_nil_or_concat l with rfl | ⟨q, ⟨a, d⟩, rfl⟩
  · have hl := h.1
    simp only [List.length_nil] at hl
    subst hl
    clear h hb
    go_enter Try.func71, Try.ntmps71
    go_wp2_with fail
    go_ret
    exact ⟨rfl, Below.refl _ _⟩
  · rw [List.concat_eq_append] at *
    have hl := h.1
    rw [List.length_append, List.length_cons, List.length_nil] at hl
    subst hl
    obtain ⟨b1, o1, rfl, g1⟩ := h.at_ (by omega)
    obtain ⟨e1, e2⟩ := g1 q.length (by omega)
    simp only [List.getElem_append_right (Nat.le_refl q.length), Nat.sub_self, List.getElem_cons_zero] at e1 e2
    obtain ⟨o4, o5⟩ := hb (a, d) (by simp)
    simp only at o4 o5
    have hh : Hid (ends (q ++ [(a, d)]) = a + d.size) := by
      show _ = _
      have e : EM.nxt 0 (q ++ [(a, d)]) = a + d.size + 1 := EM.nxt_snoc 0 q (a, d)
      cases hq : q ++ [(a, d)] with
      | nil => simp at hq
      | cons x r => rw [hq] at e; show EM.nxt 0 (x :: r) - 1 = _; omega
    have n1 : ((q.length : Int) + 1 == 0) = false := by simp; omega
    have n2 : ((q.length : Int) + 1 - 1) = q.length := by omega
    have bel := (Below.refl w.heap.size w).alloc (Nat.le_refl _) (.cells #[.int .i64 a, .string d] 94)
    clear h hb g1
    go_enter Try.func71, Try.ntmps71
    go_wp2_with fail
    go_ret
    exact ⟨ret_int hh.out.symm, bel⟩

set_option maxRecDepth 100000 in
set_option maxHeartbeats 1000000 in
theorem rStored_any (ao : Option Addr) (n cap : Nat) (l : List (Int × ByteArray)) (w : World) (h : XS w ao n cap l) (hf : XFit l) :
    Calls Try.prog 57 #[.slice ao n cap] w fun e w' => e = .returned (.tuple #[.int .i64 (stV l), .int .i64 (stE l)]) ∧ Below w.heap.size w w' := by
  have hval := XRight_any ao n cap l w h hf
  have H := W_hid h
  cases hv : EM.ok 0 l with
  | false =>
    have e1 : Hid (stV l = 0 ∧ stE l = 2) := by unfold stV stE; rw [hv]; exact ⟨rfl, rfl⟩
    rw [hv] at hval
    have hval := W_hid hval
    clear hv h
    go_enter Try.func57, Try.ntmps57
    go_wp2_with fail
    refine hval.out.mono ?_
    rintro e w1 ⟨rfl, bel1⟩
    go_wp2_with fail
    go_ret2
    exact ⟨by rw [e1.out.1, e1.out.2]; rfl, bel1⟩
  | true =>
    have e1 : Hid (stV l = EM.cnt l ∧ stE l = 0) := by unfold stV stE; rw [hv]; exact ⟨rfl, rfl⟩
    have hle := W_hid (fun k => Nat.le_trans (EM.cnt_take l k) (ok_nums hv).2)
    have hn : n ≤ 1048576 := by have := (ok_nums hv).1; have := h.1; omega
    have L := W_hid h.1
    rw [hv] at hval
    have hval := W_hid hval
    clear hv h
    go_enter Try.func57, Try.ntmps57
    go_wp2_with fail
    refine hval.out.mono ?_
    rintro e w1 ⟨rfl, bel1⟩
    go_wp2_with fail
    have H1 := W_hid (H.out.below bel1 (Nat.le_refl _))
    go_loop [5, 6] (fun f i => ∃ (k b : Nat), k ≤ n ∧ i = .int .i64 k ∧ f = .int .i64 b ∧ Hid (EM.cnt (l.take k) = b)) (fun _ i => n - (intOf i).toNat)
    case atStart => exact ⟨0, 0, Nat.zero_le _, rfl, rfl, W_hid rfl⟩
    case round =>
      obtain ⟨k, b, hk, rfl, rfl, hok⟩ := hrel
      by_cases hlt : k < n
      · obtain ⟨b1, o1, rfl, g1⟩ := H1.out.at_ (by omega)
        have k1 : k < l.length := by rw [L.out]; exact hlt
        obtain ⟨e1, e2⟩ := g1 k hlt
        have hnext : Hid (EM.cnt (l.take (k + 1)) = b + l[k].2.size) := by
          show _ = _
          rw [EM.take_snoc l k k1, EM.cnt_append, EM.cnt_one, hok.out]
        have hbb : b + l[k].2.size ≤ 1048576 := by rw [← hnext.out]; exact hle.out _
        obtain ⟨⟨a, d⟩, hx⟩ : ∃ x, l[k] = x := ⟨_, rfl⟩
        simp only [hx] at e1 e2 hnext hbb
        clear hx g1 k1 hok
        go_wp2_with fail
        go_round
        case rel => exact ⟨k + 1, b + d.size, by omega, by go_num, by go_num, hnext⟩
        case measure => simp [intOf]; omega
      · obtain rfl : k = n := by omega
        have hh : Hid (EM.cnt l = b) := by
          have := hok.out
          rwa [List.take_of_length_le (by rw [L.out]; exact Nat.le_refl _)] at this
        clear hok
        go_wp2_with fail
        go_ret2
        exact ⟨by rw [e1.out.1, e1.out.2, hh.out]; rfl, bel1⟩

end Go.Proofs.Ytieneehpijilpaa

/- Contracts of the document's own cut and Cut. -/
namespace Go.Proofs.Ytieneehpijilpaa
open Go.ChangeShapes Go.WideShapes Go.ChangeAt Go.RowKit
set_option linter.unusedVariables false
set_option linter.unusedSimpArgs false

set_option maxRecDepth 100000 in
set_option maxHeartbeats 1000000 in
theorem rcut_any (a : Int) (d : ByteArray) (lo hi : Int) (w : World) (ha : 0 ≤ a) (had : a + d.size ≤ 1048576) (hlo : I64 lo) (hhi : I64 hi) :
    Calls Try.prog 72 #[.agg #[.int .i64 a, .string d], .int .i64 lo, .int .i64 hi] w fun e w' => ∃ ao n c, e = .returned (.slice ao n c) ∧ XS w' ao n c (EM.piece lo hi (a, d)).toList ∧ Below w.heap.size w w' := by
  obtain ⟨l1, l2⟩ := hlo
  obtain ⟨r1, r2⟩ := hhi
  obtain ⟨A, hA⟩ : ∃ A, (if a < lo then lo else a) = A := ⟨_, rfl⟩
  obtain ⟨B, hB⟩ : ∃ B, (if hi < a + d.size then hi else a + d.size) = B := ⟨_, rfl⟩
  have HA : Hid (A = max a lo) := by show _ = _; rw [← hA]; split <;> omega
  have HB : Hid (B = min (a + d.size) hi) := by show _ = _; rw [← hB]; split <;> omega
  have A1 : 0 ≤ A - a := by have := HA.out; omega
  have A2 : -9223372036854775808 ≤ A ∧ A ≤ 9223372036854775807 := by have := HA.out; omega
  have B2 : -9223372036854775808 ≤ B ∧ B ≤ 9223372036854775807 := by have := HB.out; omega
  have B1 : B - a ≤ d.size := by have := HB.out; omega
  have hpc : Hid (EM.piece lo hi (a, d) = if A < B then some (A, d.extract (A - a).toNat (B - a).toNat) else none) := by
    show _ = _
    rw [HA.out, HB.out]; rfl
  have bel := below_al (Below.refl w.heap.size w) (.cells #[.int .i64 a, .string d] 94)
  by_cases hAB : A < B
  · obtain ⟨p, hp⟩ : ∃ p, p = d.extract (A - a).toNat (B - a).toNat := ⟨_, rfl⟩
    have hsl : ∀ w, (Instr.slice 9 (.string d) (some (.int .i64 (A - a))) (some (.int .i64 (B - a))) none).run Try.prog w = .ok (.string p) w := fun w => by
      rw [run_slice_string w _ d _ _ _ _ Try.underlying9 (by omega) (by omega) (by omega), hp]
    have hnext : Hid ((EM.piece lo hi (a, d)).toList = [(A, p)]) := by
      show _ = _
      rw [hpc.out, if_pos hAB, hp]; rfl
    have hx : Hid (XS ((w.alloc (.cells #[.int .i64 a, .string d] 94)).alloc (.cells #[.int .i64 A, .string p] 94)) (some ⟨w.heap.size + 1, 0, none⟩) 1 1 [(A, p)]) := by
      obtain ⟨_, _, _, h1, h2⟩ := XV_new (w := w.alloc (.cells #[.int .i64 a, .string d] 94)) (g := w.heap.size + 1) (f := A) (d := p) (t := 94) (by simp)
      simp only [Value.slice.injEq] at h1
      obtain ⟨rfl, rfl, rfl⟩ := h1
      exact h2
    have hge : ¬ B ≤ A := by omega
    clear hp hpc
    go_enter Try.func72, Try.ntmps72
    go_wp2_with fail
    go_ret
    refine ⟨_, _, _, rfl, ?_, below_al bel _⟩
    rw [hnext.out]
    exact hx.out
  · have hnext : Hid ((EM.piece lo hi (a, d)).toList = []) := by
      show _ = _
      rw [hpc.out, if_neg hAB]; rfl
    have hge : B ≤ A := by omega
    clear hpc
    go_enter Try.func72, Try.ntmps72
    go_wp2_with fail
    go_ret
    refine ⟨_, _, _, rfl, ?_, bel⟩
    rw [hnext.out]
    exact XS.nil _

set_option maxRecDepth 100000 in
set_option maxHeartbeats 2000000 in
theorem rCut_any (ao : Option Addr) (n cap : Nat) (l : List (Int × ByteArray)) (s : Int) (w : World) (h : XS w ao n cap l) (hf : XFit l) (hs : I64 s) :
    Calls Try.prog 58 #[.slice ao n cap, .int .i64 s] w (Gave (ctL l s) (ctE l s) w) := by
  have hval := XRight_any ao n cap l w h hf
  have H := W_hid h
  cases hv : EM.ok 0 l with
  | false =>
    have HE := W_hid (fun w' => @gave_no (ctL l s) (ctE l s) w w' 2 (by unfold ctL ctE; rw [hv]; exact ⟨if_neg (by simp), if_neg (by simp)⟩))
    rw [hv] at hval
    have hval := W_hid hval
    clear hv h
    go_enter Try.func58, Try.ntmps58
    go_wp2_with fail
    refine hval.out.mono ?_
    rintro e w1 ⟨rfl, bel1⟩
    go_wp2_with fail
    go_ret2
    exact HE.out _ bel1
  | true =>
    by_cases hs0 : s < 0
    · have HE := W_hid (fun w' => @gave_no (ctL l s) (ctE l s) w w' 2 (by unfold ctL ctE; rw [hv]; exact ⟨if_neg (by omega), if_neg (by omega)⟩))
      rw [hv] at hval
      have hval := W_hid hval
      clear hv h
      go_enter Try.func58, Try.ntmps58
      go_wp2_with fail
      refine hval.out.mono ?_
      rintro e w1 ⟨rfl, bel1⟩
      go_wp2_with fail
      go_ret2
      exact HE.out _ bel1
    · have e1 : Hid (ctL l s = EM.part 0 s l ∧ ctE l s = 0) := by unfold ctL ctE; rw [hv]; exact ⟨if_pos ⟨rfl, by omega⟩, if_pos ⟨rfl, by omega⟩⟩
      have hn : n ≤ 1048576 := by have := (ok_nums hv).1; have := h.1; omega
      have hok := W_hid (fun k hk => ok_each hv k hk)
      have htk := W_hid (fun k hk => EM.part_take 0 s l k hk)
      have hlen := W_hid (fun k => EM.part_length 0 s (l.take k))
      have L := W_hid h.1
      have hss := W_hid hs
      rw [hv] at hval
      have hval := W_hid hval
      clear hv h
      go_enter Try.func58, Try.ntmps58
      go_wp2_with fail
      refine hval.out.mono ?_
      rintro e w1 ⟨rfl, bel1⟩
      go_wp2_with fail
      go_loopw [7, 8] (fun v i wr => ∃ (k m : Nat) (q : List (Int × ByteArray)), k ≤ n ∧ m ≤ k ∧ i = .int .i64 k ∧ Hid (EM.part 0 s (l.take k) = q ∧ q.length = m) ∧ wr.ownsRow w.heap.size 94 2 v m (ecl q) ∧ Below w.heap.size w wr) (fun _ i _ => n - (intOf i).toNat)
      case atStart => exact ⟨0, 0, [], Nat.zero_le _, Nat.le_refl _, rfl, W_hid ⟨rfl, rfl⟩, World.ownsRow_nil _ _ _ _, bel1⟩
      case round =>
        clear bel1
        obtain ⟨k, m, q, hk, hmk, rfl, hq, hown, bel⟩ := hrel
        obtain ⟨ox, cx, rfl⟩ := Own.form hown
        by_cases hlt : k < n
        · obtain ⟨b1, o1, rfl, g1⟩ := (H.out.below bel (Nat.le_refl _)).at_ (by omega)
          have k1 : k < l.length := by rw [L.out]; exact hlt
          obtain ⟨e2, e3⟩ := g1 k hlt
          have hft := hok.out k k1
          have hnx := W_hid (htk.out k k1)
          obtain ⟨⟨a, d⟩, hx⟩ : ∃ x, l[k] = x := ⟨_, rfl⟩
          simp only [hx] at e2 e3 hft hnx
          obtain ⟨hd, ha, had⟩ := hft
          have hc := W_hid (fun w => rcut_any a d 0 s w ha had (by unfold I64; omega) hss.out)
          have hnext : Hid (EM.part 0 s (l.take (k + 1)) = q ++ (EM.piece 0 s (a, d)).toList) := by
            show _ = _
            rw [hnx.out, hq.out.1]
          have hm : Hid (m = q.length) := hq.out.2.symm
          have hlk : Hid ((EM.part 0 s (l.take (k + 1))).length ≤ k + 1) := by
            have := hlen.out (k + 1)
            rw [List.length_take] at this
            exact Nat.le_trans this (Nat.min_le_left _ _)
          clear hx g1 k1 hnx hq
          go_wp2_with fail
          refine (hc.out _).mono ?_
          rintro e w2 ⟨ao, nn, c, rfl, hxs, bel2⟩
          have hown2 := Own.below hown bel2
          have bel3 := below_tr bel bel2
          have hmn : m + nn ≤ k + 1 := by
            have h1 := hlk.out
            rw [hnext.out, List.length_append, hxs.1, ← hm.out] at h1
            exact h1
          have hxs := W_hid hxs
          clear hown bel bel2 hc
          go_wp2_with (at_builtin; apply Hid.out)
          refine W_hid ?_
          refine wpList_append_ext rfl (.tmp 23) (.tmp 29) rfl w.heap.size _ m _ rfl hown2 ao nn c _ rfl hxs.out (by omega) bel3.size ?_
          intro v2 w3 hown3 hgrow
          obtain ⟨o2, c2, rfl⟩ := Own.form hown3
          have bel4 := bel3.grown hgrow bel3.size (fun k h => Own.ge hown2 k h)
          have hfin : Hid (EM.part 0 s (l.take (k + 1)) = q ++ (EM.piece 0 s (a, d)).toList ∧ (q ++ (EM.piece 0 s (a, d)).toList).length = m + nn) := ⟨hnext.out, by rw [List.length_append, hxs.out.1, ← hm.out]⟩
          rw [← ecl_append] at hown3
          clear hown2 bel3 hgrow hxs hnext hm
          go_wp2_with fail
          go_roundw
          case rel => exact ⟨k + 1, m + nn, _, by omega, hmn, by go_num, hfin, hown3, bel4⟩
          case measure => simp [intOf]; omega
        · obtain rfl : k = n := by omega
          have hh : Hid (EM.part 0 s l = q) := by
            have := hq.out.1
            rwa [List.take_of_length_le (by rw [L.out]; exact Nat.le_refl _)] at this
          have hm := W_hid hq.out.2
          clear hq
          go_wp2_with fail
          go_ret2
          refine ⟨_, by rw [e1.out.2]; rfl, ?_, bel⟩
          rw [e1.out.1, hh.out, hm.out]
          exact hown

end Go.Proofs.Ytieneehpijilpaa

/- Contract of the document's own Write. -/
namespace Go.Proofs.Ytieneehpijilpaa
open Go.ChangeShapes Go.WideShapes Go.ChangeAt Go.RowKit
set_option linter.unusedVariables false
set_option linter.unusedSimpArgs false

theorem XS.drew {w : World} {ao : Option Addr} {n cap : Nat} {l : List (Int × ByteArray)} (h : XS w ao n cap l) : XS w.drew ao n cap l := h
theorem ecl_set (p : List (Int × ByteArray)) (a : Int) (y z : ByteArray) : (ecl (p ++ [(a, y)])).set (p.length * 2 + 1) (.string z) = ecl (p ++ [(a, z)]) := by
  induction p with
  | nil => simp [ecl]
  | cons x r ih =>
    rw [List.cons_append, ecl_cons, List.length_cons, Nat.succ_mul]
    show Value.int .i64 x.1 :: Value.string x.2 :: (ecl (r ++ [(a, y)])).set (r.length * 2 + 1) _ = _
    rw [ih, List.cons_append, ecl_cons]
theorem ends_snoc (q : List (Int × ByteArray)) (x : Int × ByteArray) : ends (q ++ [x]) = EM.fin x := by
  have e : EM.nxt 0 (q ++ [x]) = EM.fin x + 1 := EM.nxt_snoc 0 q x
  cases hq : q ++ [x] with
  | nil => simp at hq
  | cons y r => rw [hq] at e; show EM.nxt 0 (y :: r) - 1 = _; omega
/-- Each extent of a valid list. -/
theorem ok_mem {l : List (Int × ByteArray)} (h : EM.ok 0 l = true) : ∀ x ∈ l, 0 ≤ x.1 ∧ x.1 + x.2.size ≤ 1048576 := by
  intro x hx
  obtain ⟨k, hk, rfl⟩ := List.mem_iff_getElem.1 hx
  have := ok_each h k hk
  exact ⟨this.2.1, this.2.2⟩
/-- Where an owned row that is not empty lies. -/
theorem Own.lies {w : World} {base e size n : Nat} {v : Value} {xs : List Value} (h : w.ownsRow base e size v n xs) (hn : 0 < n) : ∃ g cap, v = .slice (some ⟨g, 0, none⟩) n cap ∧ base ≤ g ∧ g < w.heap.size ∧ n ≤ cap := by
  rcases h.2 with ⟨_, h0⟩ | ⟨g, cap, cur, h1, h2, h3, h4, _⟩
  · omega
  · refine ⟨g, cap, h1, h2, ?_, h4⟩
    rcases Nat.lt_or_ge g w.heap.size with hlt | hge
    · exact hlt
    · rw [Array.getElem?_eq_none hge] at h3; cases h3

set_option maxRecDepth 100000 in
set_option maxHeartbeats 4000000 in
theorem rWrite_in (ao : Option Addr) (n cap : Nat) (l : List (Int × ByteArray)) (f : Int) (d : ByteArray) (w : World) (h : XS w ao n cap l) (hf : XFit l) (hv : EM.ok 0 l = true) (h0 : 0 ≤ f) (h1 : f + d.size ≤ 1048576) (hd : d.size ≠ 0) :
    Calls Try.prog 56 #[.slice ao n cap, .int .i64 f, .string d] w (Gave (EM.wr l f d) 0 w) := by
  obtain ⟨i0, hi0, hz0, hz1, hz2⟩ := info_parts info_ext
  have hval := XRight_any ao n cap l w h hf
  have H := W_hid h
  obtain ⟨s1, s2⟩ := xfull hd
  have hwr : Hid (EM.wr l f d = EM.merge (EM.part 0 f l ++ [(f, d)] ++ EM.part (f + d.size) 1048576 l)) := by show _ = _; unfold EM.wr; rw [if_neg hd]
  have hwk := W_hid (EM.wk_write hv h0 h1 (by omega))
  have hn : n ≤ 1048576 := by have := (ok_nums hv).1; have := h.1; omega
  have hok := W_hid (fun k hk => ok_each hv k hk)
  have htk := W_hid (fun lo hi k hk => EM.part_take lo hi l k hk)
  have hlen := W_hid (fun lo hi k => EM.part_length lo hi (l.take k))
  have L := W_hid h.1
  rw [hv] at hval
  have hval := W_hid hval
  have g1 : decide (f < 0) = false := by simp; omega
  have g2 : decide (1048576 < f) = false := by simp; omega
  have g3 : decide (1048576 - f < (d.size : Int)) = false := by simp; omega
  clear hv h
  go_enter Try.func56, Try.ntmps56
  go_wp2_with fail
  refine hval.out.mono ?_
  rintro e w1 ⟨rfl, bel1⟩
  go_wp2_with fail
  clear g1 g2 g3
  go_loopw [10, 11] (fun v i wr => ∃ (k m : Nat) (q : List (Int × ByteArray)), k ≤ n ∧ m ≤ k ∧ i = .int .i64 k ∧ Hid (EM.part 0 f (l.take k) = q ∧ q.length = m) ∧ wr.ownsRow w.heap.size 94 2 v m (ecl q) ∧ Below w.heap.size w wr) (fun _ i _ => n - (intOf i).toNat)
  case atStart => exact ⟨0, 0, [], Nat.zero_le _, Nat.le_refl _, rfl, W_hid ⟨rfl, rfl⟩, World.ownsRow_nil _ _ _ _, bel1⟩
  case round =>
    clear bel1 hval
    obtain ⟨k, m, q, hk, hmk, rfl, hq, hown, bel⟩ := hrel
    obtain ⟨ox, cx, rfl⟩ := Own.form hown
    by_cases hlt : k < n
    · obtain ⟨b1, o1, rfl, g1⟩ := (H.out.below bel (Nat.le_refl _)).at_ (by omega)
      have k1 : k < l.length := by rw [L.out]; exact hlt
      obtain ⟨e2, e3⟩ := g1 k hlt
      have hft := hok.out k k1
      have hnx := W_hid (htk.out 0 f k k1)
      obtain ⟨⟨a, c⟩, hx⟩ : ∃ x, l[k] = x := ⟨_, rfl⟩
      simp only [hx] at e2 e3 hft hnx
      obtain ⟨hc0, ha, had⟩ := hft
      have hc := W_hid (fun w => rcut_any a c 0 f w ha had (by unfold I64; omega) (by unfold I64; omega))
      have hnext : Hid (EM.part 0 f (l.take (k + 1)) = q ++ (EM.piece 0 f (a, c)).toList) := by
        show _ = _
        rw [hnx.out, hq.out.1]
      have hm : Hid (m = q.length) := hq.out.2.symm
      have hlk : Hid ((EM.part 0 f (l.take (k + 1))).length ≤ k + 1) := by
        have := hlen.out 0 f (k + 1)
        rw [List.length_take] at this
        exact Nat.le_trans this (Nat.min_le_left _ _)
      clear hx g1 k1 hnx hq
      go_wp2_with fail
      refine (hc.out _).mono ?_
      rintro e w2 ⟨ao, nn, c', rfl, hxs, bel2⟩
      have hown2 := Own.below hown bel2
      have bel3 := below_tr bel bel2
      have hmn : m + nn ≤ k + 1 := by
        have h1 := hlk.out
        rw [hnext.out, List.length_append, hxs.1, ← hm.out] at h1
        exact h1
      have hxs := W_hid hxs
      clear hown bel bel2 hc
      go_wp2_with (at_builtin; apply Hid.out)
      refine W_hid ?_
      refine wpList_append_ext rfl (.tmp 50) (.tmp 56) rfl w.heap.size _ m _ rfl hown2 ao nn c' _ rfl hxs.out (by omega) bel3.size ?_
      intro v2 w3 hown3 hgrow
      obtain ⟨o2, c2, rfl⟩ := Own.form hown3
      have bel4 := bel3.grown hgrow bel3.size (fun k h => Own.ge hown2 k h)
      have hfin : Hid (EM.part 0 f (l.take (k + 1)) = q ++ (EM.piece 0 f (a, c)).toList ∧ (q ++ (EM.piece 0 f (a, c)).toList).length = m + nn) := ⟨hnext.out, by rw [List.length_append, hxs.out.1, ← hm.out]⟩
      rw [← ecl_append] at hown3
      clear hown2 bel3 hgrow hxs hnext hm
      go_wp2_with fail
      go_roundw
      case rel => exact ⟨k + 1, m + nn, _, by omega, hmn, by go_num, hfin, hown3, bel4⟩
      case measure => simp [intOf]; omega
    · obtain rfl : n = k := by omega
      have hh : Hid (EM.part 0 f l = q) := by
        have := hq.out.1
        rwa [List.take_of_length_le (by rw [L.out]; exact Nat.le_refl _)] at this
      have hm := W_hid hq.out.2
      clear hq
      go_wp2_with (at_builtin; apply Hid.out)
      refine W_hid ?_
      refine wpList_append_own_wide _ rfl (.tmp 58) (.tmp 62) 70 rfl w.heap.size 94 i0 (.agg #[.int .i64 0, .string ByteArray.empty]) 2 24 Try.underlying70 hi0 hz0 hz1 hz2 rfl (by decide) _ m (ecl q) rfl (hown.alloc _) ⟨wr.heap.size, 0, none⟩ 1 1 [.int .i64 f, .string d] rfl rfl (Own.cells_two _ _ _ _ _) (by intro u hu; simp at hu; rcases hu with rfl | rfl <;> rfl) (by unfold maxLen; omega) (by omega) (by simp; have := bel.size; omega) ?_
      intro v2 w2 hown2 hgrow _
      obtain ⟨ao2, cap2, rfl⟩ := Own.form hown2
      have bel2 := (bel.alloc bel.size _).grown hgrow (by simp; have := bel.size; omega) (fun k h => Own.ge hown k h)
      have hown3 : w2.ownsRow w.heap.size 94 2 (.slice ao2 (m + 1) cap2) (m + 1 + 0) (ecl (q ++ [(f, d)] ++ [])) := by
        rw [ecl_append, ecl_append]
        simpa [ecl] using hown2
      clear hown bel hgrow hown2
      go_wp2_with fail
      go_loopw [10, 12] (fun v i wr => ∃ (k m2 : Nat) (q2 : List (Int × ByteArray)), k ≤ n ∧ m2 ≤ k ∧ i = .int .i64 k ∧ Hid (EM.part (f + d.size) 1048576 (l.take k) = q2 ∧ q2.length = m2) ∧ wr.ownsRow w.heap.size 94 2 v (m + 1 + m2) (ecl (q ++ [(f, d)] ++ q2)) ∧ Below w.heap.size w wr) (fun _ i _ => n - (intOf i).toNat)
      case atStart => exact ⟨0, 0, [], Nat.zero_le _, Nat.le_refl _, rfl, W_hid ⟨rfl, rfl⟩, hown3, bel2⟩
      case round =>
        clear bel2 hown3
        obtain ⟨k, m2, q2, hk, hmk2, rfl, hq, hown, bel⟩ := hrel
        obtain ⟨ox, cx, rfl⟩ := Own.form hown
        by_cases hlt : k < n
        · obtain ⟨b1, o1, rfl, g1⟩ := (H.out.below bel (Nat.le_refl _)).at_ (by omega)
          have k1 : k < l.length := by rw [L.out]; exact hlt
          obtain ⟨e2, e3⟩ := g1 k hlt
          have hft := hok.out k k1
          have hnx := W_hid (htk.out (f + d.size) 1048576 k k1)
          obtain ⟨⟨a, c⟩, hx⟩ : ∃ x, l[k] = x := ⟨_, rfl⟩
          simp only [hx] at e2 e3 hft hnx
          obtain ⟨hc0, ha, had⟩ := hft
          have hc := W_hid (fun w => rcut_any a c (f + d.size) 1048576 w ha had (by unfold I64; omega) (by unfold I64; omega))
          have hnext : Hid (EM.part (f + d.size) 1048576 (l.take (k + 1)) = q2 ++ (EM.piece (f + d.size) 1048576 (a, c)).toList) := by
            show _ = _
            rw [hnx.out, hq.out.1]
          have hm2 : Hid (m2 = q2.length) := hq.out.2.symm
          have hlk : Hid ((EM.part (f + d.size) 1048576 (l.take (k + 1))).length ≤ k + 1) := by
            have := hlen.out (f + d.size) 1048576 (k + 1)
            rw [List.length_take] at this
            exact Nat.le_trans this (Nat.min_le_left _ _)
          clear hx g1 k1 hnx hq
          go_wp2_with fail
          refine (hc.out _).mono ?_
          rintro e w2 ⟨ao, nn, c', rfl, hxs, bel2⟩
          have hown2 := Own.below hown bel2
          have bel3 := below_tr bel bel2
          have hmn : m2 + nn ≤ k + 1 := by
            have h1 := hlk.out
            rw [hnext.out, List.length_append, hxs.1, ← hm2.out] at h1
            exact h1
          have hxs := W_hid hxs
          clear hown bel bel2 hc
          go_wp2_with (at_builtin; apply Hid.out)
          refine W_hid ?_
          refine wpList_append_ext rfl (.tmp 70) (.tmp 76) rfl w.heap.size _ (m + 1 + m2) _ rfl hown2 ao nn c' _ rfl hxs.out (by omega) bel3.size ?_
          intro v2 w3 hown3 hgrow
          obtain ⟨o2, c2, rfl⟩ := Own.form hown3
          have bel4 := bel3.grown hgrow bel3.size (fun k h => Own.ge hown2 k h)
          have hfin : Hid (EM.part (f + d.size) 1048576 (l.take (k + 1)) = q2 ++ (EM.piece (f + d.size) 1048576 (a, c)).toList ∧ (q2 ++ (EM.piece (f + d.size) 1048576 (a, c)).toList).length = m2 + nn) := ⟨hnext.out, by rw [List.length_append, hxs.out.1, ← hm2.out]⟩
          rw [← ecl_append, List.append_assoc] at hown3
          clear hown2 bel3 hgrow hxs hnext hm2
          go_wp2_with fail
          go_roundw
          case rel => exact ⟨k + 1, m2 + nn, _, by omega, hmn, by go_num, hfin, (by rw [show m + 1 + (m2 + nn) = m + 1 + m2 + nn from (Nat.add_assoc _ _ _).symm]; exact hown3), bel4⟩
          case measure => simp [intOf]; omega
        · obtain rfl : n = k := by omega
          have hh2 : Hid (EM.part (f + d.size) 1048576 l = q2) := by
            have := hq.out.1
            rwa [List.take_of_length_le (by rw [L.out]; exact Nat.le_refl _)] at this
          obtain ⟨all, hall⟩ : ∃ all, q ++ [(f, d)] ++ q2 = all := ⟨_, rfl⟩
          obtain ⟨N, hN⟩ : ∃ N, m + 1 + m2 = N := ⟨_, rfl⟩
          have hNl : Hid (all.length = N) := by
            show _ = _
            rw [← hall, List.length_append, List.length_append, hm.out, hq.out.2]
            exact hN
          have hN2 : N ≤ 2097153 := by omega
          rw [hall, hN] at hown
          rw [hN]
          have hmg : Hid (EM.wr l f d = EM.merge all) := by
            show _ = _
            rw [hwr.out, hh.out, hh2.out, hall]
          have hwka : Hid (EM.wk 0 all) := by
            have := hwk.out
            rw [hh.out, hh2.out, hall] at this
            exact this
          have HX := W_hid (XS_own hown)
          have hsz : w.heap.size ≤ wr.heap.size := bel.size
          clear hq hall hh hh2 hm hwr hwk hlen htk hok H L hN hown
          obtain ⟨wa, rfl⟩ : ∃ wa, wa = wr := ⟨wr, rfl⟩
          go_wp2_with fail
          go_loopw [13, 14] (fun v i w' => ∃ (k c : Nat) (o : List (Int × ByteArray)), k ≤ N ∧ c ≤ k ∧ i = .int .i64 k ∧ Hid (EM.merge (all.take k) = o ∧ o.length = c) ∧ w'.ownsRow wa.heap.size 94 2 v c (ecl o) ∧ Below wa.heap.size wa w') (fun _ i _ => N - (intOf i).toNat)
          case atStart => exact ⟨0, 0, [], Nat.zero_le _, Nat.le_refl _, rfl, W_hid ⟨rfl, rfl⟩, World.ownsRow_nil _ _ _ _, Below.refl _ _⟩
          case round =>
            obtain ⟨k, c, o, hk, hck, rfl, ho, hown, bel2⟩ := hrel
            by_cases hlt : k < N
            · obtain ⟨b1, o1, rfl, g1⟩ := (HX.out.below bel2 (Nat.le_refl _)).at_ (by omega)
              have k1 : k < all.length := by rw [hNl.out]; exact hlt
              obtain ⟨e1, e2⟩ := g1 k hlt
              obtain ⟨hd0, ha, had, -⟩ := EM.wk_at hwka.out k k1
              have hput : Hid (EM.merge (all.take (k + 1)) = EM.put o all[k]) := by
                show _ = _
                rw [EM.merge_take all k k1, ho.out.1]
              have hoo := W_hid (ok_mem (EM.ok_merge (EM.wk_take hwka.out k)))
              rw [ho.out.1] at hoo
              obtain ⟨⟨a, x⟩, hx⟩ : ∃ x, all[k] = x := ⟨_, rfl⟩
              simp only [hx, EM.fin] at e1 e2 hd0 ha had hput
              clear hx g1
              rcases List.eq_nil_or_concat o with rfl | ⟨p, ⟨ya, yd⟩, rfl⟩
              · obtain rfl : c = 0 := ho.out.2.symm
                obtain ⟨oo, co, rfl⟩ := Own.form hown
                have hnm : Hid (EM.merge (all.take (k + 1)) = [(a, x)]) := by show _ = _; rw [hput.out]; exact EM.put_nil _
                clear ho hput hoo
                go_wp2_with fail
                go_quiet (fail)
                obtain ⟨W, hW⟩ : ∃ W, wr.drewN nq = W := ⟨_, rfl⟩
                have c0 : W.cell? ⟨b1, o1 + k * 2, none⟩ = some (.int .i64 a) := by rw [← hW]; exact e1
                have c1 : W.cell? ⟨b1, o1 + k * 2 + 1, none⟩ = some (.string x) := by rw [← hW]; exact e2
                have hown4 : W.ownsRow wa.heap.size 94 2 (.slice oo 0 co) 0 (ecl []) := by rw [← hW]; exact hown
                have bel4 : Below wa.heap.size wa W := by rw [← hW]; exact below_drewN bel2 _
                rw [hW]
                clear hW e1 e2 hown bel2
                go_wp2_with (at_builtin; apply Hid.out)
                refine W_hid ?_
                refine wpList_append_own_wide _ rfl (.tmp 115) (.tmp 120) 70 rfl wa.heap.size 94 i0 (.agg #[.int .i64 0, .string ByteArray.empty]) 2 24 Try.underlying70 hi0 hz0 hz1 hz2 rfl (by decide) _ 0 (ecl []) rfl (hown4.alloc _) ⟨W.heap.size, 0, none⟩ 1 1 [.int .i64 a, .string x] rfl rfl (Own.cells_two _ _ _ _ _) (by intro u hu; simp at hu; rcases hu with rfl | rfl <;> rfl) (by unfold maxLen; omega) (by omega) (by simp; have := bel4.size; omega) ?_
                intro v2 w2 hown5 hgrow _
                obtain ⟨ao2, cap2, rfl⟩ := Own.form hown5
                have bel5 := (bel4.alloc bel4.size _).grown hgrow (by simp; have := bel4.size; omega) (fun k h => Own.ge hown4 k h)
                clear c0 c1 hown4 bel4 hgrow
                go_wp2_with fail
                go_roundw
                case rel => exact ⟨k + 1, 1, [(a, x)], by omega, by omega, by go_num, W_hid ⟨hnm.out, rfl⟩, hown5, bel5⟩
                case measure => simp [intOf]; omega
              · rw [List.concat_eq_append] at *
                obtain rfl : c = p.length + 1 := by have := ho.out.2; rw [← this]; simp
                obtain ⟨y1, y2⟩ := hoo.out (ya, yd) (by simp)
                simp only at y1 y2
                obtain ⟨g, co, hvv, hgb, hgl, hco⟩ := Own.lies hown (by omega)
                subst hvv
                have hend : Hid (∀ W, XS W (some ⟨g, 0, none⟩) (p.length + 1) co (p ++ [(ya, yd)]) → W.cell? ⟨b1, o1 + k * 2, none⟩ = some (.int .i64 a) → Calls Try.prog 71 #[.slice (some ⟨g, 0, none⟩) (p.length + 1) co] W fun e W' => e = .returned (.int .i64 (ya + yd.size)) ∧ Below W.heap.size W W' ∧ W'.cell? ⟨b1, o1 + k * 2, none⟩ = some (.int .i64 a)) := by
                  intro W hxs hc
                  have := rend_any _ _ _ _ W hxs (fun z hz => by have := hoo.out z hz; omega)
                  rw [ends_snoc] at this
                  refine this.mono ?_
                  rintro e W' ⟨rfl, belp⟩
                  exact ⟨rfl, belp, by rw [belp.cell (World.block_lt_of_cell? W _ hc)]; exact hc⟩
                have hxo := XS_own hown
                have hps : EM.put (p ++ [(ya, yd)]) (a, x) = if ya + yd.size = a then p ++ [(ya, yd ++ x)] else p ++ [(ya, yd)] ++ [(a, x)] := EM.put_snoc _ _ _
                have n1 : ((p.length : Int) + 1 - 1) = p.length := by omega
                have n2 : (0 : Int) < (p.length : Int) + 1 := by omega
                go_wp2_with fail
                go_region_held3 (fun w' => w'.cell? ⟨b1, o1 + k * 2, none⟩ = some (.int .i64 a)) (first | assumption | go_keep)
                  (first
                    | (go_at_call 71; refine (hend.out _ (XS.drew hxo) (by assumption)).mono ?_; rintro e w5 ⟨rfl, bel5, k0⟩))
                have hown5 := Own.below hown (Own.bundrew bel5)
                have bel6 := below_tr bel2 (Own.bundrew bel5)
                have k1' : w5.cell? ⟨b1, o1 + k * 2 + 1, none⟩ = some (.string x) := by rw [(Own.bundrew bel5).cell (World.block_lt_of_cell? wr _ e2)]; exact e2
                have f2 : w5.cell? ⟨g, p.length * 2 + 1, none⟩ = some (.string yd) := by
                  rw [hown5.cellAt (p.length * 2 + 1) (by omega)]
                  have := (ecl_get (p ++ [(ya, yd)]) p.length (by simp)).2
                  rw [this]
                  simp
                have ff := hown5.frozenAt (p.length * 2 + 1)
                clear hown bel2 bel5 e1 e2 hend hxo hoo
                by_cases hya : ya + yd.size = a
                · have hyq : ((ya + (yd.size : Int)) == a) = true := by simpa using hya
                  have hnm : Hid (EM.merge (all.take (k + 1)) = p ++ [(ya, yd ++ x)]) := by show _ = _; rw [hput.out, hps, if_pos hya]
                  have hst := hown5.stored (p.length * 2 + 1) (.string (yd ++ x))
                  rw [ecl_set] at hst
                  have hst := W_hid hst
                  clear hps hput ho hown5
                  go_wp2_with fail
                  go_region
                  have bel7 := (bel6.setCell (p := ⟨g, p.length * 2 + 1, none⟩) hgb (.string (yd ++ x))).drew
                  have hown7 := hst.out.1.drew
                  clear k0 k1' f2 ff bel6 hst
                  go_wp2_with fail
                  go_roundw
                  case rel => exact ⟨k + 1, p.length + 1, p ++ [(ya, yd ++ x)], by omega, by omega, by go_num, W_hid ⟨hnm.out, by simp⟩, hown7, bel7⟩
                  case measure => simp [intOf]; omega
                · have hyq : ((ya + (yd.size : Int)) == a) = false := by simpa using hya
                  have hnm : Hid (EM.merge (all.take (k + 1)) = p ++ [(ya, yd)] ++ [(a, x)]) := by show _ = _; rw [hput.out, hps, if_neg hya]
                  clear hps hput ho f2 ff
                  go_wp2_with (at_builtin; apply Hid.out)
                  refine W_hid ?_
                  refine wpList_append_own_wide _ rfl (.tmp 115) (.tmp 120) 70 rfl wa.heap.size 94 i0 (.agg #[.int .i64 0, .string ByteArray.empty]) 2 24 Try.underlying70 hi0 hz0 hz1 hz2 rfl (by decide) _ (p.length + 1) (ecl (p ++ [(ya, yd)])) rfl (hown5.alloc _) ⟨w5.heap.size, 0, none⟩ 1 1 [.int .i64 a, .string x] rfl rfl (Own.cells_two _ _ _ _ _) (by intro u hu; simp at hu; rcases hu with rfl | rfl <;> rfl) (by unfold maxLen; omega) (by omega) (by simp; have := bel6.size; omega) ?_
                  intro v2 w2 hown6 hgrow _
                  obtain ⟨ao2, cap2, rfl⟩ := Own.form hown6
                  have bel7 := (bel6.alloc bel6.size _).grown hgrow (by simp; have := bel6.size; omega) (fun k h => Own.ge hown5 k h)
                  clear k0 k1' hown5 bel6 hgrow
                  go_wp2_with fail
                  go_roundw
                  case rel => exact ⟨k + 1, p.length + 1 + 1, (p ++ [(ya, yd)]) ++ [(a, x)], by omega, by omega, by go_num, W_hid ⟨hnm.out, by simp⟩, (by rw [ecl_append]; exact hown6), bel7⟩
                  case measure => simp [intOf]; omega
            · obtain rfl : k = N := by omega
              have hh : Hid (EM.merge all = o) := by
                have := ho.out.1
                rwa [List.take_of_length_le (by rw [hNl.out]; exact Nat.le_refl _)] at this
              have hc := W_hid ho.out.2
              clear ho
              go_wp2_with fail
              go_ret2
              refine ⟨_, rfl, ?_, bel.trans (bel2.mono bel.size)⟩
              rw [hmg.out, hh.out, hc.out]
              exact Own.low hsz hown

set_option maxRecDepth 100000 in
set_option maxHeartbeats 1000000 in
theorem rWrite_none (ao : Option Addr) (n cap : Nat) (l : List (Int × ByteArray)) (f : Int) (d : ByteArray) (w : World) (h : XS w ao n cap l) (hf : XFit l) (hv : EM.ok 0 l = true) (h0 : 0 ≤ f) (h1 : f + d.size ≤ 1048576) (hd : d.size = 0) :
    Calls Try.prog 56 #[.slice ao n cap, .int .i64 f, .string d] w (Gave (EM.wr l f d) 0 w) := by
  obtain ⟨i0, hi0, hz0, hz1, hz2⟩ := info_parts info_ext
  have hval := XRight_any ao n cap l w h hf
  have H := W_hid h
  obtain ⟨s1, s2⟩ := xempty hd
  have hwr := W_hid (EM.wr_nil (f := f) hv hd)
  have hn : n ≤ 1048576 := by have := (ok_nums hv).1; have := h.1; omega
  have L := W_hid h.1
  rw [hv] at hval
  have hval := W_hid hval
  have hf1 : f ≤ 1048576 := by omega
  have g1 : decide (f < 0) = false := by simp; omega
  have g2 : decide (1048576 < f) = false := by simp; omega
  have g3 : decide (1048576 - f < (d.size : Int)) = false := by simp; omega
  clear h hv
  go_enter Try.func56, Try.ntmps56
  go_wp2_with fail
  refine hval.out.mono ?_
  rintro e w1 ⟨rfl, bel1⟩
  go_wp2_with (at_make; apply Hid.out)
  refine W_hid ?_
  refine wpList_make_own _ rfl _ _ 70 rfl w.heap.size 94 i0 (.agg #[.int .i64 0, .string ByteArray.empty]) 2 Try.underlying70 hi0 hz0 hz1 .i64 .i64 _ n rfl rfl rfl (by rw [hz2]; omega) (by unfold maxLen; omega) bel1.size ?_
  intro w2 hown hgrow
  have bel2 := bel1.grown hgrow bel1.size (fun k hk => by cases hk)
  have hxs := W_hid (H.out.below bel2 (Nat.le_refl _))
  clear hgrow bel1 hval g1 g2 g3
  go_wp2_with (at_builtin; apply Hid.out)
  refine W_hid ?_
  refine wpList_append_ext rfl (.tmp 37) (.tmp 38) rfl w.heap.size _ 0 _ rfl hown ao n cap _ rfl hxs.out (by omega) bel2.size ?_
  intro v2 w3 hown3 hgrow
  have bel4 := bel2.grown hgrow bel2.size (fun k h => Own.ge hown k h)
  rw [Nat.zero_add, List.nil_append] at hown3
  go_wp2_with fail
  go_ret2
  refine ⟨_, rfl, ?_, bel4⟩
  rw [hwr.out, L.out]
  exact hown3

set_option maxRecDepth 100000 in
set_option maxHeartbeats 1000000 in
theorem rWrite_any (ao : Option Addr) (n cap : Nat) (l : List (Int × ByteArray)) (f : Int) (d : ByteArray) (w : World) (h : XS w ao n cap l) (hf : XFit l) (hff : I64 f) (hd : d.size ≤ maxLen) :
    Calls Try.prog 56 #[.slice ao n cap, .int .i64 f, .string d] w (Gave (wrL l f d) (wrE l f d) w) := by
  have hval := XRight_any ao n cap l w h hf
  obtain ⟨f1, f2⟩ := hff
  unfold maxLen at hd
  cases hv : EM.ok 0 l with
  | false =>
    have HE := W_hid (fun w' => @gave_no (wrL l f d) (wrE l f d) w w' 2 (wr_no (by unfold wrE; rw [hv]; exact if_neg (by simp)) (by decide)))
    rw [hv] at hval
    have hval := W_hid hval
    clear hv h
    go_enter Try.func56, Try.ntmps56
    go_wp2_with fail
    refine hval.out.mono ?_
    rintro e w1 ⟨rfl, bel1⟩
    go_wp2_with fail
    go_ret2
    exact HE.out _ bel1
  | true =>
    by_cases h0 : f < 0
    · have HE := W_hid (fun w' => @gave_no (wrL l f d) (wrE l f d) w w' 2 (wr_no (by unfold wrE; rw [hv]; exact if_neg (by omega)) (by decide)))
      rw [hv] at hval
      have hval := W_hid hval
      clear hv h
      go_enter Try.func56, Try.ntmps56
      go_wp2_with fail
      refine hval.out.mono ?_
      rintro e w1 ⟨rfl, bel1⟩
      go_wp2_with fail
      go_ret2
      exact HE.out _ bel1
    by_cases h1 : f + d.size ≤ 1048576
    · have he : wrE l f d = 0 := by unfold wrE; rw [hv, if_pos ⟨rfl, by omega⟩, if_pos h1]
      have hL : wrL l f d = EM.wr l f d := by unfold wrL; rw [if_pos he]
      rw [he, hL]
      by_cases hd0 : d.size = 0
      · exact rWrite_none ao n cap l f d w h hf hv (by omega) h1 hd0
      · exact rWrite_in ao n cap l f d w h hf hv (by omega) h1 hd0
    · have HE := W_hid (fun w' => @gave_no (wrL l f d) (wrE l f d) w w' 28 (wr_no (by unfold wrE; rw [hv, if_pos ⟨rfl, by omega⟩, if_neg h1]) (by decide)))
      rw [hv] at hval
      have hval := W_hid hval
      clear hv h
      by_cases h2 : 1048576 < f
      · go_enter Try.func56, Try.ntmps56
        go_wp2_with fail
        refine hval.out.mono ?_
        rintro e w1 ⟨rfl, bel1⟩
        go_wp2_with fail
        go_ret2
        exact HE.out _ bel1
      · have h3 : 1048576 - f < (d.size : Int) := by omega
        go_enter Try.func56, Try.ntmps56
        go_wp2_with fail
        refine hval.out.mono ?_
        rintro e w1 ⟨rfl, bel1⟩
        go_wp2_with fail
        go_ret2
        exact HE.out _ bel1

end Go.Proofs.Ytieneehpijilpaa

/- Contract of the document's own Read. -/
namespace Go.Proofs.Ytieneehpijilpaa
open Go.ChangeShapes Go.WideShapes Go.ChangeAt Go.RowKit
set_option linter.unusedVariables false
set_option linter.unusedSimpArgs false

theorem get_more {a : Int} {x : ByteArray} {k : Nat} (hk : k < x.size) (i : Int) : EM.get (a, x.extract 0 (k + 1)) i = if i = a + k then some x[k] else EM.get (a, x.extract 0 k) i := by
  unfold EM.get
  simp only
  rw [EM.cut_list, EM.cut_list, List.drop_zero, List.drop_zero, List.getElem?_take, List.getElem?_take]
  by_cases h : a ≤ i
  · rw [if_pos h, if_pos h]
    by_cases he : i = a + k
    · have e : (i - a).toNat = k := by omega
      rw [if_pos he, e, if_pos (by omega), List.getElem?_eq_getElem (by rw [EM.list_size]; exact hk)]
      rfl
    · rw [if_neg he]
      by_cases h2 : (i - a).toNat < k
      · rw [if_pos (by omega), if_pos h2]
      · rw [if_neg h2, if_neg (by omega)]
  · rw [if_neg h, if_neg h, if_neg (by omega)]
theorem rd_start (P : List (Int × ByteArray)) (a : Int) (x : ByteArray) (f : Int) (M : Nat) : EM.rd (P ++ [(a, x.extract 0 0)]) f M = EM.rd P f M :=
  EM.rd_ext fun i _ _ => by
    rw [EM.cont_append, EM.cont_one, EM.get_none]
    · simp
    · unfold EM.fin
      simp only
      rw [EM.cut_size _ _ _ (Nat.zero_le _)]
      omega
theorem rd_full (P : List (Int × ByteArray)) (a : Int) (x : ByteArray) (f : Int) (M : Nat) : EM.rd (P ++ [(a, x.extract 0 x.size)]) f M = EM.rd (P ++ [(a, x)]) f M := by
  have : x.extract 0 x.size = x := by
    apply EM.ba_inj
    rw [EM.cut_list, List.drop_zero, List.take_of_length_le (by rw [EM.list_size]; exact Nat.le_refl _)]
  rw [this]
/-- A byte more, that is in the stretch. -/
theorem rd_byte {P : List (Int × ByteArray)} {a f : Int} {x : ByteArray} {M k j : Nat} (hk : k < x.size) (hP : EM.cont P (a + k) = none) (hj : a + k - f = j) (hM : j < M) :
    EM.rd (P ++ [(a, x.extract 0 (k + 1))]) f M = (EM.rd (P ++ [(a, x.extract 0 k)]) f M).set j x[k] := by
  apply List.ext_getElem?
  intro t
  rw [List.getElem?_set]
  by_cases ht : t < M
  · rw [EM.rd_get _ _ _ _ ht, EM.cont_append, EM.cont_one, get_more hk]
    by_cases he : j = t
    · rw [if_pos he, EM.rd_length, if_pos hM]
      have e : f + (t : Int) = a + k := by omega
      rw [e, if_pos rfl, hP]; rfl
    · rw [if_neg he, if_neg (by omega), EM.rd_get _ _ _ _ ht, EM.cont_append, EM.cont_one]
  · rw [List.getElem?_eq_none (by rw [EM.rd_length]; omega)]
    split
    · rw [if_neg (by rw [EM.rd_length]; omega)]
    · rw [List.getElem?_eq_none (by rw [EM.rd_length]; omega)]
/-- A byte more, that is not. -/
theorem rd_past {P : List (Int × ByteArray)} {a f : Int} {x : ByteArray} {M k : Nat} (hk : k < x.size) (hj : a + k - f < 0 ∨ (M : Int) ≤ a + k - f) :
    EM.rd (P ++ [(a, x.extract 0 (k + 1))]) f M = EM.rd (P ++ [(a, x.extract 0 k)]) f M :=
  EM.rd_ext fun i h1 h2 => by
    rw [EM.cont_append, EM.cont_append, EM.cont_one, EM.cont_one, get_more hk, if_neg (by omega)]

theorem BR.set {w : World} {g : Nat} {bs : List UInt8} (h : BR w g bs) (j : Nat) (c : UInt8) : BR (w.setCell ⟨g, j, none⟩ (.int .u8 (c.toNat : Int))) g (bs.set j c) := by
  have := heap_setCell_same w g j (cel bs).toArray 5 (.int .u8 (c.toNat : Int)) h
  unfold BR
  rw [this]
  congr 2
  apply Array.toList_inj.1
  rw [Array.toList_setIfInBounds]
  simp [cel, List.map_set]
theorem BR.fz {w : World} {g : Nat} {bs : List UInt8} (h : BR w g bs) (j : Nat) : w.frozen? ⟨g, j, none⟩ = false := frozen_of_row w g j (cel bs).toArray 5 h
theorem BR.cell {w : World} {g : Nat} {bs : List UInt8} (h : BR w g bs) (j : Nat) (hj : j < bs.length) : w.cell? ⟨g, j, none⟩ = some (.int .u8 (bs[j].toNat : Int)) := by
  rw [cell_of_row w g j _ _ _ h]
  simp [cel, hj]

set_option maxRecDepth 100000 in
set_option maxHeartbeats 4000000 in
theorem rRead_in (ao : Option Addr) (n cap : Nat) (l : List (Int × ByteArray)) (s f m : Int) (w : World) (h : XS w ao n cap l) (hf : XFit l) (hv : EM.ok 0 l = true) (h1 : 0 ≤ s) (h2 : 0 ≤ f) (h3 : 0 ≤ m) (h4 : s ≤ 1048576) (h5 : ends l ≤ s) (hm2 : m ≤ 9223372036854775807) (hfs : f < s) :
    Calls Try.prog 55 #[.slice ao n cap, .int .i64 s, .int .i64 f, .int .i64 m] w fun e w' => e = .returned (.tuple #[.string (strOf (EM.rd l f (min m (s - f)).toNat)), .int .i64 0]) ∧ Below w.heap.size w w' := by
  obtain ⟨i0, hi0, hz0, hz1, hz2⟩ := info_parts info_byte
  have hval := XRight_any ao n cap l w h hf
  rw [hv] at hval
  have hval := W_hid hval
  have hmem := ok_mem hv
  have hen := W_hid (fun w h => rend_any ao n cap l w h (fun x hx => by have := hmem x hx; omega))
  have H := W_hid h
  have L := W_hid h.1
  have hn : n ≤ 1048576 := by have := (ok_nums hv).1; have := h.1; omega
  have hwk := W_hid (EM.ok_wk hv)
  obtain ⟨M, hM⟩ : ∃ M : Nat, (if s - f < m then s - f else m) = (M : Int) := ⟨(min m (s - f)).toNat, by split <;> omega⟩
  have HM : Hid ((M : Int) = min m (s - f)) := by show _ = _; rw [← hM]; split <;> omega
  have hM1 : (M : Int) ≤ 1048576 := by have := HM.out; omega
  have hans : Hid ((min m (s - f)).toNat = M) := by have := HM.out; show _ = _; omega
  have d1 : decide (s < 0) = false := by simp; omega
  have d2 : decide (f < 0) = false := by simp; omega
  have d3 : decide (m < 0) = false := by simp; omega
  have d4 : decide (1048576 < s) = false := by simp; omega
  have d5 : decide (s < ends l) = false := by simp; omega
  have d6 : ¬ s ≤ f := by omega
  obtain ⟨E, hE⟩ : ∃ E, ends l = E := ⟨_, rfl⟩
  rw [hE] at hen d5
  clear hv h h5 hmem hE
  go_enter Try.func55, Try.ntmps55
  go_wp2_with fail
  refine hval.out.mono ?_
  rintro e w1 ⟨rfl, bel1⟩
  go_wp2_with fail
  refine (hen.out _ (H.out.below bel1 (Nat.le_refl _))).mono ?_
  rintro e w2 ⟨rfl, bel2⟩
  replace bel2 := below_tr bel1 bel2
  go_wp2_with (at_make; apply Hid.out)
  refine W_hid ?_
  refine wpList_make_full _ rfl _ _ 91 rfl w.heap.size 5 i0 (.int .u8 0) 1 Try.underlying91 hi0 hz0 hz1 .i64 .i64 _ _ M rfl rfl rfl rfl (by rw [hz2]; omega) (by unfold maxLen; omega) bel2.size ?_
  intro w3 hown hgrow
  obtain ⟨g, hg⟩ : ∃ g, g = w2.heap.size := ⟨_, rfl⟩
  rw [← hg] at hown ⊢
  have hbr := BR.made M hown
  rw [← EM.rd_nil f M] at hbr
  have bel3 := bel2.grown hgrow bel2.size (fun k hk => by cases hk)
  have hgw : w.heap.size ≤ g := by rw [hg]; exact bel2.size
  clear hown hgrow hg bel2 hval hen bel1 d1 d2 d3 d4 d5 d6 hM
  go_wp2_with fail
  go_loopw [12] (fun i wr => ∃ (k : Nat), k ≤ n ∧ i = .int .i64 k ∧ Hid (BR wr g (EM.rd (l.take k) f M)) ∧ Below w.heap.size w wr) (fun i _ => n - (intOf i).toNat)
  case atStart => exact ⟨0, Nat.zero_le _, rfl, hbr, bel3⟩
  case round =>
    clear hbr bel3
    obtain ⟨k, hk, rfl, hbr, bel⟩ := hrel
    by_cases hlt : k < n
    · obtain ⟨b1, o1, rfl, g1⟩ := (H.out.below bel (Nat.le_refl _)).at_ (by omega)
      have k1 : k < l.length := by rw [L.out]; exact hlt
      have hw := EM.wk_at hwk.out k k1
      have hnx : Hid (l.take (k + 1) = l.take k ++ [l[k]]) := EM.take_snoc l k k1
      have hcell : Hid (∀ W, Below w.heap.size w W → W.cell? ⟨b1, o1 + k * 2, none⟩ = some (.int .i64 l[k].1) ∧ W.cell? ⟨b1, o1 + k * 2 + 1, none⟩ = some (.string l[k].2)) := by
        intro W hW
        obtain ⟨b2, o2, hb, g2⟩ := (H.out.below hW (Nat.le_refl _)).at_ (by omega)
        injection hb with hb
        injection hb with q1 q2
        subst q1; subst q2
        exact g2 k hlt
      obtain ⟨⟨a, x⟩, hx⟩ : ∃ x, l[k] = x := ⟨_, rfl⟩
      simp only [hx, EM.fin] at hw hnx hcell
      obtain ⟨hd, ha, had, hnone⟩ := hw
      have hnone := W_hid hnone
      clear hx g1
      obtain ⟨wa, rfl⟩ : ∃ wa, wa = wr := ⟨wr, rfl⟩
      go_wp2_with fail
      go_loopw [13] (fun i wr => ∃ (j : Nat), j ≤ x.size ∧ i = .int .i64 j ∧ Hid (BR wr g (EM.rd (l.take k ++ [(a, x.extract 0 j)]) f M)) ∧ Below w.heap.size w wr) (fun i _ => x.size - (intOf i).toNat)
      case atStart => exact ⟨0, Nat.zero_le _, rfl, W_hid (by rw [rd_start]; exact hbr.out), bel⟩
      case round =>
        clear hbr bel
        obtain ⟨j, hj, rfl, hbr, bel⟩ := hrel
        obtain ⟨e1, e2⟩ := hcell.out wr bel
        by_cases hjx : j < x.size
        · by_cases hin : 0 ≤ a + (j : Int) - f ∧ a + (j : Int) - f < M
          · obtain ⟨i1, i2⟩ := hin
            obtain ⟨t, ht⟩ : ∃ t : Nat, a + (j : Int) - f = t := ⟨(a + (j : Int) - f).toNat, by omega⟩
            have hbr2 : Hid (BR (wr.setCell ⟨g, t, none⟩ (.int .u8 (x[j].toNat : Int))) g (EM.rd (l.take k ++ [(a, x.extract 0 (j + 1))]) f M)) := by
              show BR _ _ _
              rw [rd_byte hjx (hnone.out _ (by omega)) ht (by omega)]
              exact hbr.out.set t x[j]
            have ff := hbr.out.fz t
            have cc := hbr.out.cell t (by rw [EM.rd_length]; omega)
            have bel2 := bel.setCell (p := ⟨g, t, none⟩) hgw (.int .u8 (x[j].toNat : Int))
            have t2 : (t : Int) < M := by omega
            clear hbr bel
            go_wp2_with fail
            go_roundw
            case rel => exact ⟨j + 1, by omega, by go_num, hbr2, bel2⟩
            case measure => simp [intOf]; omega
          · have hbr2 : Hid (BR wr g (EM.rd (l.take k ++ [(a, x.extract 0 (j + 1))]) f M)) := by
              show BR _ _ _
              rw [rd_past hjx (by omega)]
              exact hbr.out
            clear hbr
            by_cases hneg : a + (j : Int) - f < 0
            · have hneg2 : ¬ 0 ≤ a + (j : Int) - f := by omega
              clear hin
              go_wp2_with fail
              go_roundw
              case rel => exact ⟨j + 1, by omega, by go_num, hbr2, bel⟩
              case measure => simp [intOf]; omega
            · have hneg2 : 0 ≤ a + (j : Int) - f := by omega
              have hbig : ¬ a + (j : Int) - f < (M : Int) := by omega
              clear hin
              go_wp2_with fail
              go_roundw
              case rel => exact ⟨j + 1, by omega, by go_num, hbr2, bel⟩
              case measure => simp [intOf]; omega
        · obtain rfl : j = x.size := by omega
          have hbr2 : Hid (BR wr g (EM.rd (l.take (k + 1)) f M)) := by
            show BR _ _ _
            rw [hnx.out, ← rd_full]
            exact hbr.out
          clear hbr
          go_wp2_with fail
          go_roundw
          case rel => exact ⟨k + 1, by omega, by go_num, hbr2, bel⟩
          case measure => simp [intOf]; omega
    · obtain rfl : k = n := by omega
      have hbr5 : BR wr g (EM.rd l f M) := by
        have := hbr.out
        rwa [List.take_of_length_le (by rw [L.out]; exact Nat.le_refl _)] at this
      have hrd := hbr5.reads (by rw [EM.rd_length]; unfold maxLen; omega)
      rw [EM.rd_length] at hrd
      have hcv := run_conv (P := Try.prog) 91 5 Try.underlying91 Try.underlying5 9 Try.underlying9 hrd
      clear hbr hbr5 hrd
      go_wp2_with fail
      go_ret2
      exact ⟨by rw [hans.out]; rfl, bel⟩

set_option maxRecDepth 100000 in
set_option maxHeartbeats 2000000 in
theorem rRead_any (ao : Option Addr) (n cap : Nat) (l : List (Int × ByteArray)) (s f m : Int) (w : World) (h : XS w ao n cap l) (hf : XFit l) (hs : I64 s) (hff : I64 f) (hm : I64 m) :
    Calls Try.prog 55 #[.slice ao n cap, .int .i64 s, .int .i64 f, .int .i64 m] w fun e w' => e = .returned (.tuple #[.string (strOf (rdV l s f m)), .int .i64 (rdE l s f m)]) ∧ Below w.heap.size w w' := by
  have hval := XRight_any ao n cap l w h hf
  cases hv : EM.ok 0 l with
  | false =>
    have HE := W_hid (@rd_no l s f m (by rw [hv]; simp))
    rw [hv] at hval
    have hval := W_hid hval
    clear hv h
    go_enter Try.func55, Try.ntmps55
    go_wp2_with fail
    refine hval.out.mono ?_
    rintro e w1 ⟨rfl, bel1⟩
    go_wp2_with fail
    go_ret2
    exact ⟨by rw [HE.out.1, HE.out.2]; rfl, bel1⟩
  | true =>
  by_cases hbad : s < 0 ∨ f < 0 ∨ m < 0 ∨ 1048576 < s
  · have HE := W_hid (@rd_no l s f m (by omega))
    rw [hv] at hval
    have hval := W_hid hval
    clear hv h
    by_cases c1 : s < 0
    · clear hbad
      go_enter Try.func55, Try.ntmps55
      go_wp2_with fail
      refine hval.out.mono ?_
      rintro e w1 ⟨rfl, bel1⟩
      go_wp2_with fail
      go_ret2
      exact ⟨by rw [HE.out.1, HE.out.2]; rfl, bel1⟩
    by_cases c2 : f < 0
    · clear hbad
      go_enter Try.func55, Try.ntmps55
      go_wp2_with fail
      refine hval.out.mono ?_
      rintro e w1 ⟨rfl, bel1⟩
      go_wp2_with fail
      go_ret2
      exact ⟨by rw [HE.out.1, HE.out.2]; rfl, bel1⟩
    by_cases c3 : m < 0
    · clear hbad
      go_enter Try.func55, Try.ntmps55
      go_wp2_with fail
      refine hval.out.mono ?_
      rintro e w1 ⟨rfl, bel1⟩
      go_wp2_with fail
      go_ret2
      exact ⟨by rw [HE.out.1, HE.out.2]; rfl, bel1⟩
    · have c4 : 1048576 < s := by omega
      clear hbad
      go_enter Try.func55, Try.ntmps55
      go_wp2_with fail
      refine hval.out.mono ?_
      rintro e w1 ⟨rfl, bel1⟩
      go_wp2_with fail
      go_ret2
      exact ⟨by rw [HE.out.1, HE.out.2]; rfl, bel1⟩
  · have hmem := ok_mem hv
    have hen := W_hid (fun w h => rend_any ao n cap l w h (fun x hx => by have := hmem x hx; omega))
    obtain ⟨E, hE⟩ : ∃ E, ends l = E := ⟨_, rfl⟩
    have H := W_hid h
    by_cases he : E ≤ s
    · have hh : rdE l s f m = 0 := if_pos ⟨hv, by omega, by omega, by omega, by omega, by omega⟩
      have hV : rdV l s f m = EM.rd l f (min m (s - f)).toNat := if_pos hh
      by_cases hfs : f < s
      · rw [hh, hV]
        exact rRead_in ao n cap l s f m w h hf hv (by omega) (by omega) (by omega) (by omega) (by omega) hm.2 hfs
      · have h0 : (min m (s - f)).toNat = 0 := by omega
        have HE : Hid (rdV l s f m = [] ∧ rdE l s f m = 0) := ⟨by rw [hV, h0]; rfl, hh⟩
        rw [hv] at hval
        have hval := W_hid hval
        rw [hE] at hen
        have d1 : decide (s < 0) = false := by simp; omega
        have d2 : decide (f < 0) = false := by simp; omega
        have d3 : decide (m < 0) = false := by simp; omega
        have d4 : decide (1048576 < s) = false := by simp; omega
        have d5 : decide (s < E) = false := by simp; omega
        have d6 : s ≤ f := by omega
        clear hv h hbad he hh hV hE hmem h0
        go_enter Try.func55, Try.ntmps55
        go_wp2_with fail
        refine hval.out.mono ?_
        rintro e w1 ⟨rfl, bel1⟩
        go_wp2_with fail
        refine (hen.out _ (H.out.below bel1 (Nat.le_refl _))).mono ?_
        rintro e w2 ⟨rfl, bel2⟩
        go_wp2_with fail
        go_ret2
        exact ⟨by rw [HE.out.1, HE.out.2]; rfl, below_tr bel1 bel2⟩
    · have HE := W_hid (@rd_no l s f m (fun h => he (by have := h.2.2.2.2.2; omega)))
      rw [hv] at hval
      have hval := W_hid hval
      rw [hE] at hen
      have d1 : decide (s < 0) = false := by simp; omega
      have d2 : decide (f < 0) = false := by simp; omega
      have d3 : decide (m < 0) = false := by simp; omega
      have d4 : decide (1048576 < s) = false := by simp; omega
      have d5 : decide (s < E) = true := by simp; omega
      clear hv h hbad he hE hmem
      go_enter Try.func55, Try.ntmps55
      go_wp2_with fail
      refine hval.out.mono ?_
      rintro e w1 ⟨rfl, bel1⟩
      go_wp2_with fail
      refine (hen.out _ (H.out.below bel1 (Nat.le_refl _))).mono ?_
      rintro e w2 ⟨rfl, bel2⟩
      go_wp2_with fail
      go_ret2
      exact ⟨by rw [HE.out.1, HE.out.2]; rfl, below_tr bel1 bel2⟩

end Go.Proofs.Ytieneehpijilpaa

/- Contracts of the document's All, Read. -/
namespace Go.Proofs.Ytieneehpijilpaa
open Go.ChangeShapes Go.WideShapes Go.ChangeAt Go.RowKit
set_option linter.unusedVariables false
set_option linter.unusedSimpArgs false
namespace IN
section
variable {base : Nat} {rg : Nat} {I B L k : Nat} {S : Int → Option Nd} {z3 z4 z5 z6 : Int} {v : Value} {q : List RE}

set_option maxRecDepth 100000 in
set_option maxHeartbeats 8000000 in
theorem rAll_any (w : World) (hf : Fine I L B k S) (hI : I ≤ 4096) (h : RS base w rg I B L (lst S I)) :
    Calls Try.prog 15 #[.pointer (some ⟨rg, 0, none⟩)] w fun e w' => ∃ v, e = .returned v ∧ w'.ownsRow w.heap.size 41 6 v (lst S I).length (stcl (lst S I)) ∧ Below w.heap.size w w' := by
  obtain ⟨z3, z4, z5, z6, v, q, hM, hF⟩ := h
  have hlen := hF.len
  have hls := lst_len S I
  obtain ⟨ao, cap, hv⟩ := Own.form hM.row
  subst hv
  have hE := W_hid (fun i (hi : i < q.length) => hM.opened hi)
  have hEF := W_hid (fun i (hi : i < q.length) (hl : i < (lst S I).length) => hF.at_ i hi hl)
  have hbox := hM.box
  obtain ⟨Ls, hLs⟩ : ∃ Ls, lst S I = Ls := ⟨_, rfl⟩
  rw [hLs] at hlen hls hEF ⊢
  obtain ⟨N, hN⟩ : ∃ N, Ls.length = N := ⟨_, rfl⟩
  rw [hN] at hlen hls ⊢
  have c7 := hbox.cell (j := 7) rfl
  rw [hlen] at c7
  have hrl := hbox.lt
  replace hN := W_hid hN
  replace hlen := W_hid hlen
  replace hbox := W_hid hbox
  clear hM hF hLs
  go_enter Try.func15, Try.ntmps15
  go_wp2_with fail
  go_loopw [3, 4] (fun v i wr => ∃ (j : Nat), j ≤ N ∧ i = .int .i64 (j : Int) ∧ Hid (wr.ownsRow w.heap.size 41 6 v j (stcl (Ls.take j))) ∧ Hid (Below w.heap.size w wr)) (fun _ i _ => N - (intOf i).toNat)
  case atStart => exact ⟨0, Nat.zero_le _, rfl, W_hid (World.ownsRow_nil _ _ _ _), W_hid (Below.refl _ _)⟩
  case round =>
    obtain ⟨j, hj, rfl, hown, hbel⟩ := hrel
    have c7' := cellkept hbel.out c7
    by_cases hlt : j < N
    · have hjq : j < q.length := by rw [hlen.out]; exact hlt
      have hjl : j < Ls.length := by rw [hN.out]; exact hlt
      obtain ⟨g, N', cap', hv, hN', hpN, -, -, -, -, hgl, -, -, -, -, -, -, -, x0, x1, x2, x3, x4, x5, -⟩ := hE.out j hjq
      have hef := hEF.out j hjq hjl
      rw [hlen.out] at hv
      simp only [Value.slice.injEq] at hv
      obtain ⟨rfl, rfl, rfl⟩ := hv
      obtain ⟨⟨nj, dj⟩, hx⟩ : ∃ x, Ls[j] = x := ⟨_, rfl⟩
      have htake := W_hid (EM.take_snoc Ls j hjl)
      rw [hx] at htake hef
      rw [hef.n] at x0
      rw [hef.kd] at x1
      rw [hef.lk] at x2
      rw [hef.op] at x3
      rw [hef.sz] at x4
      rw [hef.st] at x5
      simp only at x0 x1 x2 x3 x4 x5
      have hR := W_hid (range_six (cellkept hbel.out x0) (cellkept hbel.out x1) (cellkept hbel.out x2) (cellkept hbel.out x3) (cellkept hbel.out x4) (cellkept hbel.out x5))
      have hsrc := W_hid (stl_cells (wr.alloc (.cells #[.int .i64 (nj : Int), .int .i64 dj.kind, .int .i64 dj.links, .int .i64 dj.opens, .int .i64 dj.size, .int .i64 (EM.cnt dj.l : Int)] 41)) (nj : Int) dj wr.heap.size (Blk.new wr 41 (stl (nj : Int) dj) rfl))
      have hb7 := W_hid (hbel.out.alloc hbel.out.size (.cells #[.int .i64 (nj : Int), .int .i64 dj.kind, .int .i64 dj.links, .int .i64 dj.opens, .int .i64 dj.size, .int .i64 (EM.cnt dj.l : Int)] 41))
      have hown7 := W_hid (Own.below hown.out ((Below.refl wr.heap.size wr).alloc (Nat.le_refl _) (.cells #[.int .i64 (nj : Int), .int .i64 dj.kind, .int .i64 dj.links, .int .i64 dj.opens, .int .i64 dj.size, .int .i64 (EM.cnt dj.l : Int)] 41)))
      obtain ⟨ao3, c3, hv3⟩ := Own.form hown.out
      clear hN' hx hef x0 x1 x2 x3 x4 x5 hjq hjl
      subst hv3
      go_wp2_with (first
        | (refine wpList_load_mid rfl 41 (.tmp 21) rfl g (j * 7) rfl [.int .i64 (nj : Int), .int .i64 dj.kind, .int .i64 dj.links, .int .i64 dj.opens, .int .i64 dj.size, .int .i64 (EM.cnt dj.l : Int)] _ hR.out Try.underlying41 rfl (by kernel_rfl) ?_)
        | (at_builtin; refine Own.wpList_app rfl (.tmp 14) (.tmp 23) 37 rfl Try.underlying37 info_stat (.slice ao3 j c3) (.slice (some ⟨wr.heap.size, 0, none⟩) 1 1) rfl rfl hown7.out hb7.out.size hsrc.out (stl_one _ _) (by unfold maxLen; omega) (by omega) ?_; intro v' w8 ho8 hg8 hob8; have hb8 := W_hid (hb7.out.grown hg8 hb7.out.size (fun k h => Own.ge hown7.out k h)); have ho8 := W_hid ho8; clear hg8 hob8))
      have hown8 : Hid (w8.ownsRow w.heap.size 41 6 v' (j + 1) (stcl (Ls.take (j + 1)))) := W_hid (by rw [htake.out, stcl_app, stcl_one]; exact ho8.out)
      go_roundw
      case rel => exact ⟨j + 1, by omega, by go_num, hown8, hb8⟩
      case measure => simp [intOf]; omega
    · obtain rfl : j = N := by omega
      have hfin := hown.out
      rw [List.take_of_length_le (Nat.le_of_eq hN.out)] at hfin
      have hfin := W_hid hfin
      go_wp2_with fail
      go_ret
      exact ⟨_, rfl, hfin.out, hbel.out⟩

set_option maxRecDepth 100000 in
set_option maxHeartbeats 8000000 in
theorem rRead_no (n f m : Int) (w : World) (hf : Fine I L B k S) (hI : I ≤ 4096) (h : RS base w rg I B L (lst S I)) (r : Int) (hr : (askR S n fun d => if d.kind = 1 then (0 : Int) else 14) = r) (hr0 : r ≠ 0) :
    Calls Try.prog 31 #[.pointer (some ⟨rg, 0, none⟩), .int .i64 n, .int .i64 f, .int .i64 m] w fun e w' => e = .returned (.tuple #[.string ⟨#[]⟩, .int .i64 r]) ∧ Below w.heap.size w w' := by
  obtain ⟨z3, z4, z5, z6, v, q, hM, hF⟩ := h
  have cA := W_hid (rfile_no n w hf hI hM hF r hr hr0)
  have hr1 : (r != 0) = true := by simp [hr0]
  replace hr0 := W_hid hr0
  clear hM hF hr
  go_enter Try.func31, Try.ntmps31
  go_wp2_with fail
  refine cA.out.mono ?_
  rintro e w1 ⟨rfl, rfl⟩
  go_wp2_with fail
  go_ret2
  exact ⟨rfl, Below.refl _ _⟩

set_option maxRecDepth 100000 in
set_option maxHeartbeats 8000000 in
theorem rRead_yes (n f m : Int) (d : Nd) (w : World) (hf : Fine I L B k S) (hI : I ≤ 4096) (h : RS base w rg I B L (lst S I)) (hff : I64 f) (hm : I64 m) (hS : S n = some d) (hk : d.kind = 1) :
    Calls Try.prog 31 #[.pointer (some ⟨rg, 0, none⟩), .int .i64 n, .int .i64 f, .int .i64 m] w fun e w' => e = .returned (.tuple #[.string (strOf (rdV d.l d.size f m)), .int .i64 (rdE d.l d.size f m)]) ∧ Below w.heap.size w w' := by
  obtain ⟨z3, z4, z5, z6, v, q, hM, hF⟩ := h
  obtain ⟨p, mm, hnm, hm1, hmI, hp, hat, hbef, hset, hdel⟩ := pl_some hf hS
  have hg := hf.good _ d hS
  have hpq : p < q.length := by rw [hF.len]; exact hp
  have hE := hF.at_ p hpq hp
  rw [hat hp] at hE
  have cA := W_hid (rfile_yes n w hI hM hF hp (hat hp) hnm hbef hk)
  obtain ⟨g, N, cap, rfl, hN, hpN, hNc, hcm, hbg, hgr, hgl, hrl, hgf, hrf, c0, c1, c2, c7, x0, x1, x2, x3, x4, x5, x6⟩ := hM.opened hpq
  rw [hE.sz] at x4
  simp only at x4
  obtain ⟨ao, nn, cc, hv, hx1, -⟩ := hE.v
  rw [hv] at x6
  have cR := W_hid (rRead_any ao nn cc d.l d.size f m w.drew hx1 (ok_fit (Int.le_refl _) hg.ok) ⟨by have := hg.size; omega, by have := hg.size; omega⟩ hff hm)
  have h0 : (0 : Int) ≤ (p : Int) := by omega
  clear hM hF hE hN hg hat hbef hset hdel hv hx1 c0 c1 c2 x0 x1 x2 x3 x5 hnm hp hpq hgf hrf
  go_enter Try.func31, Try.ntmps31
  go_wp2_with fail
  refine cA.out.mono ?_
  rintro e w1 ⟨rfl, rfl⟩
  go_wp2_with fail
  refine wp_region_held_drew (S := (fun w' => w'.cell? ⟨rg, 7, none⟩ = some (.slice (some ⟨g, 0, none⟩) N cap) ∧ w'.cell? ⟨g, p * 7 + 6, none⟩ = some (.slice ao nn cc) ∧ w'.cell? ⟨g, p * 7 + 4, none⟩ = some (.int .i64 d.size))) (by kernel_rfl) ⟨c7, x6, x4⟩ (fun hHeld => ?_)
  refine wpAnyH_take (i := 0) (v := .pointer (some ⟨rg, 0, none⟩)) rfl (by kernel_rfl) (by kernel_rfl) (by kernel_rfl) (fun _ _ _ h => h) (Or.inl ⟨by rfl, fun w0 ⟨s1, s2, s3⟩ => ?_⟩) hHeld ?_
  · go_simp
  try simp only [Act.put, List.setIfInBounds_toArray, List.set_cons_zero, List.set_cons_succ, List.getElem_toArray, List.getElem_cons_zero, List.getElem_cons_succ]
  refine wpAnyH_take (i := 1) (v := .pointer (some ⟨rg, 0, none⟩)) rfl (by kernel_rfl) (by kernel_rfl) (by kernel_rfl) (fun _ _ _ h => h) (Or.inl ⟨by rfl, fun w0 ⟨s1, s2, s3⟩ => ?_⟩) hHeld ?_
  · go_simp
  try simp only [Act.put, List.setIfInBounds_toArray, List.set_cons_zero, List.set_cons_succ, List.getElem_toArray, List.getElem_cons_zero, List.getElem_cons_succ]
  refine wpAnyH_take (i := 2) (v := .pointer (some ⟨rg, 7, none⟩)) rfl (by kernel_rfl) (by kernel_rfl) (by kernel_rfl) (fun _ _ _ h => h) (Or.inl ⟨by rfl, fun w0 ⟨s1, s2, s3⟩ => ?_⟩) hHeld ?_
  · go_simp
  try simp only [Act.put, List.setIfInBounds_toArray, List.set_cons_zero, List.set_cons_succ, List.getElem_toArray, List.getElem_cons_zero, List.getElem_cons_succ]
  refine wpAnyH_take (i := 3) (v := .slice (some ⟨g, 0, none⟩) N cap) rfl (by kernel_rfl) (by kernel_rfl) (by kernel_rfl) (fun _ _ _ h => h) (Or.inl ⟨by rfl, fun w0 ⟨s1, s2, s3⟩ => ?_⟩) hHeld ?_
  · go_simp
  try simp only [Act.put, List.setIfInBounds_toArray, List.set_cons_zero, List.set_cons_succ, List.getElem_toArray, List.getElem_cons_zero, List.getElem_cons_succ]
  refine wpAnyH_take (i := 4) (v := .int .i64 (p : Int)) rfl (by kernel_rfl) (by kernel_rfl) (by kernel_rfl) (fun _ _ _ h => h) (Or.inl ⟨by rfl, fun w0 ⟨s1, s2, s3⟩ => ?_⟩) hHeld ?_
  · go_simp
  try simp only [Act.put, List.setIfInBounds_toArray, List.set_cons_zero, List.set_cons_succ, List.getElem_toArray, List.getElem_cons_zero, List.getElem_cons_succ]
  refine wpAnyH_take (i := 5) (v := .pointer (some ⟨g, p * 7, none⟩)) rfl (by kernel_rfl) (by kernel_rfl) (by kernel_rfl) (fun _ _ _ h => h) (Or.inl ⟨by rfl, fun w0 ⟨s1, s2, s3⟩ => ?_⟩) hHeld ?_
  · go_simp
  try simp only [Act.put, List.setIfInBounds_toArray, List.set_cons_zero, List.set_cons_succ, List.getElem_toArray, List.getElem_cons_zero, List.getElem_cons_succ]
  refine wpAnyH_take (i := 6) (v := .pointer (some ⟨g, p * 7 + 6, none⟩)) rfl (by kernel_rfl) (by kernel_rfl) (by kernel_rfl) (fun _ _ _ h => h) (Or.inl ⟨by rfl, fun w0 ⟨s1, s2, s3⟩ => ?_⟩) hHeld ?_
  · go_simp
  try simp only [Act.put, List.setIfInBounds_toArray, List.set_cons_zero, List.set_cons_succ, List.getElem_toArray, List.getElem_cons_zero, List.getElem_cons_succ]
  refine wpAnyH_take (i := 7) (v := .slice ao nn cc) rfl (by kernel_rfl) (by kernel_rfl) (by kernel_rfl) (fun _ _ _ h => h) (Or.inl ⟨by rfl, fun w0 ⟨s1, s2, s3⟩ => ?_⟩) hHeld ?_
  · go_simp
  try simp only [Act.put, List.setIfInBounds_toArray, List.set_cons_zero, List.set_cons_succ, List.getElem_toArray, List.getElem_cons_zero, List.getElem_cons_succ]
  refine wpAnyH_take (i := 8) (v := .pointer (some ⟨rg, 0, none⟩)) rfl (by kernel_rfl) (by kernel_rfl) (by kernel_rfl) (fun _ _ _ h => h) (Or.inl ⟨by rfl, fun w0 ⟨s1, s2, s3⟩ => ?_⟩) hHeld ?_
  · go_simp
  try simp only [Act.put, List.setIfInBounds_toArray, List.set_cons_zero, List.set_cons_succ, List.getElem_toArray, List.getElem_cons_zero, List.getElem_cons_succ]
  refine wpAnyH_take (i := 9) (v := .pointer (some ⟨rg, 0, none⟩)) rfl (by kernel_rfl) (by kernel_rfl) (by kernel_rfl) (fun _ _ _ h => h) (Or.inl ⟨by rfl, fun w0 ⟨s1, s2, s3⟩ => ?_⟩) hHeld ?_
  · go_simp
  try simp only [Act.put, List.setIfInBounds_toArray, List.set_cons_zero, List.set_cons_succ, List.getElem_toArray, List.getElem_cons_zero, List.getElem_cons_succ]
  refine wpAnyH_take (i := 10) (v := .pointer (some ⟨rg, 7, none⟩)) rfl (by kernel_rfl) (by kernel_rfl) (by kernel_rfl) (fun _ _ _ h => h) (Or.inl ⟨by rfl, fun w0 ⟨s1, s2, s3⟩ => ?_⟩) hHeld ?_
  · go_simp
  try simp only [Act.put, List.setIfInBounds_toArray, List.set_cons_zero, List.set_cons_succ, List.getElem_toArray, List.getElem_cons_zero, List.getElem_cons_succ]
  refine wpAnyH_take (i := 11) (v := .slice (some ⟨g, 0, none⟩) N cap) rfl (by kernel_rfl) (by kernel_rfl) (by kernel_rfl) (fun _ _ _ h => h) (Or.inl ⟨by rfl, fun w0 ⟨s1, s2, s3⟩ => ?_⟩) hHeld ?_
  · go_simp
  try simp only [Act.put, List.setIfInBounds_toArray, List.set_cons_zero, List.set_cons_succ, List.getElem_toArray, List.getElem_cons_zero, List.getElem_cons_succ]
  refine wpAnyH_take (i := 12) (v := .int .i64 (p : Int)) rfl (by kernel_rfl) (by kernel_rfl) (by kernel_rfl) (fun _ _ _ h => h) (Or.inl ⟨by rfl, fun w0 ⟨s1, s2, s3⟩ => ?_⟩) hHeld ?_
  · go_simp
  try simp only [Act.put, List.setIfInBounds_toArray, List.set_cons_zero, List.set_cons_succ, List.getElem_toArray, List.getElem_cons_zero, List.getElem_cons_succ]
  refine wpAnyH_take (i := 13) (v := .pointer (some ⟨g, p * 7, none⟩)) rfl (by kernel_rfl) (by kernel_rfl) (by kernel_rfl) (fun _ _ _ h => h) (Or.inl ⟨by rfl, fun w0 ⟨s1, s2, s3⟩ => ?_⟩) hHeld ?_
  · go_simp
  try simp only [Act.put, List.setIfInBounds_toArray, List.set_cons_zero, List.set_cons_succ, List.getElem_toArray, List.getElem_cons_zero, List.getElem_cons_succ]
  refine wpAnyH_take (i := 14) (v := .pointer (some ⟨g, p * 7, none⟩)) rfl (by kernel_rfl) (by kernel_rfl) (by kernel_rfl) (fun _ _ _ h => h) (Or.inl ⟨by rfl, fun w0 ⟨s1, s2, s3⟩ => ?_⟩) hHeld ?_
  · go_simp
  try simp only [Act.put, List.setIfInBounds_toArray, List.set_cons_zero, List.set_cons_succ, List.getElem_toArray, List.getElem_cons_zero, List.getElem_cons_succ]
  refine wpAnyH_take (i := 15) (v := .pointer (some ⟨g, p * 7 + 4, none⟩)) rfl (by kernel_rfl) (by kernel_rfl) (by kernel_rfl) (fun _ _ _ h => h) (Or.inl ⟨by rfl, fun w0 ⟨s1, s2, s3⟩ => ?_⟩) hHeld ?_
  · go_simp
  try simp only [Act.put, List.setIfInBounds_toArray, List.set_cons_zero, List.set_cons_succ, List.getElem_toArray, List.getElem_cons_zero, List.getElem_cons_succ]
  refine wpAnyH_take (i := 16) (v := .int .i64 d.size) rfl (by kernel_rfl) (by kernel_rfl) (by kernel_rfl) (fun _ _ _ h => h) (Or.inl ⟨by rfl, fun w0 ⟨s1, s2, s3⟩ => ?_⟩) hHeld ?_
  · go_simp
  try simp only [Act.put, List.setIfInBounds_toArray, List.set_cons_zero, List.set_cons_succ, List.getElem_toArray, List.getElem_cons_zero, List.getElem_cons_succ]
  refine wpAnyH_take (i := 17) (v := .int .i64 f) rfl (by kernel_rfl) (by kernel_rfl) (by kernel_rfl) (fun _ _ _ h => h) (Or.inl ⟨by rfl, fun w0 ⟨s1, s2, s3⟩ => ?_⟩) hHeld ?_
  · go_simp
  try simp only [Act.put, List.setIfInBounds_toArray, List.set_cons_zero, List.set_cons_succ, List.getElem_toArray, List.getElem_cons_zero, List.getElem_cons_succ]
  refine wpAnyH_take (i := 18) (v := .int .i64 m) rfl (by kernel_rfl) (by kernel_rfl) (by kernel_rfl) (fun _ _ _ h => h) (Or.inl ⟨by rfl, fun w0 ⟨s1, s2, s3⟩ => ?_⟩) hHeld ?_
  · go_simp
  try simp only [Act.put, List.setIfInBounds_toArray, List.set_cons_zero, List.set_cons_succ, List.getElem_toArray, List.getElem_cons_zero, List.getElem_cons_succ]
  refine wpAnyH_ready (rs := [19]) (by kernel_rfl) (by simp) ?_
  refine AllReadyH.cons rfl (fun K hK => ?_) AllReadyH.nil
  go_simp
  refine cR.out.mono ?_
  rintro e w2 ⟨rfl, hb2⟩
  have y7 := cellkept (Own.bundrew hb2) c7
  have y6 := cellkept (Own.bundrew hb2) x6
  have y4 := cellkept (Own.bundrew hb2) x4
  refine hK.out _ _ ⟨y7, y6, y4⟩ (fun hHeld1 => ?_)
  clear hK K
  try simp only [Act.put, List.setIfInBounds_toArray, List.set_cons_zero, List.set_cons_succ, List.getElem_toArray, List.getElem_cons_zero, List.getElem_cons_succ]
  refine wpAnyH_take (i := 20) (v := .string (strOf (rdV d.l d.size f m))) rfl (by kernel_rfl) (by kernel_rfl) (by kernel_rfl) (fun _ _ _ h => h) (Or.inl ⟨by rfl, fun w0 ⟨s1, s2, s3⟩ => ?_⟩) hHeld1 ?_
  · go_simp
  try simp only [Act.put, List.setIfInBounds_toArray, List.set_cons_zero, List.set_cons_succ, List.getElem_toArray, List.getElem_cons_zero, List.getElem_cons_succ]
  refine wpAnyH_take (i := 21) (v := .int .i64 (rdE d.l d.size f m)) rfl (by kernel_rfl) (by kernel_rfl) (by kernel_rfl) (fun _ _ _ h => h) (Or.inl ⟨by rfl, fun w0 ⟨s1, s2, s3⟩ => ?_⟩) hHeld1 ?_
  · go_simp
  try simp only [Act.put, List.setIfInBounds_toArray, List.set_cons_zero, List.set_cons_succ, List.getElem_toArray, List.getElem_cons_zero, List.getElem_cons_succ]
  refine wpAnyH_take (i := 22) (v := .string (strOf (rdV d.l d.size f m))) rfl (by kernel_rfl) (by kernel_rfl) (by kernel_rfl) (fun _ _ _ h => h) (Or.inl ⟨by rfl, fun w0 ⟨s1, s2, s3⟩ => ?_⟩) hHeld1 ?_
  · go_simp
  try simp only [Act.put, List.setIfInBounds_toArray, List.set_cons_zero, List.set_cons_succ, List.getElem_toArray, List.getElem_cons_zero, List.getElem_cons_succ]
  refine wpAnyH_take (i := 23) (v := .int .i64 (rdE d.l d.size f m)) rfl (by kernel_rfl) (by kernel_rfl) (by kernel_rfl) (fun _ _ _ h => h) (Or.inl ⟨by rfl, fun w0 ⟨s1, s2, s3⟩ => ?_⟩) hHeld1 ?_
  · go_simp
  try simp only [Act.put, List.setIfInBounds_toArray, List.set_cons_zero, List.set_cons_succ, List.getElem_toArray, List.getElem_cons_zero, List.getElem_cons_succ]
  refine wpAnyH_done (by kernel_rfl) ?_ _
  go_wp2_with fail
  go_ret2
  exact ⟨rfl, Own.bundrew hb2⟩
end
end IN
end Go.Proofs.Ytieneehpijilpaa

/- Regions that draw their order and end in one operation that waits for all others (a store behind its phase): what the others read may be spoilt by that last one. Free of any program. -/
namespace Go.Proofs.Ytieneehpijilpaa
open Go.ChangeShapes Go.WideShapes Go.ChangeAt Go.RowKit
set_option linter.unusedVariables false

section
variable {P : Program} {ops : Array Oper} {Q : Exit → Act → World → Prop} {md : Region.Mode} {S : World → Prop} {m : Nat}

/-- Whatever order is picked: S holds behind each operation but number m. -/
def UpTo (P : Program) (md : Region.Mode) (ops : Array Oper) (Q : Exit → Act → World → Prop) (S : World → Prop) (m : Nat) : Nat → Array Bool → Act → World → Prop
  | 0, ls, a, w => Region.ready md ops ls = [] ∧ Q .normal a w
  | k + 1, ls, a, w => (Region.ready md ops ls = [] → Q .normal a w) ∧ ∀ j ∈ Region.ready md ops ls, wpOp P ops Q j (fun a' w' => (j ≠ m → S w') ∧ UpTo P md ops Q S m k (ls.setIfInBounds j true) a' w') a w
theorem UpTo.any : ∀ (k : Nat) (ls : Array Bool) (a : Act) (w : World), UpTo P md ops Q S m k ls a w → wpAny P md ops Q k ls a w
  | 0, _, _, _, h => h
  | k + 1, _, _, _, h => ⟨h.1, fun j hj => wpOp_mono (fun a' w' h' => UpTo.any k _ a' w' h'.2) (h.2 j hj)⟩

/-- An operation for which m waits may be taken first. -/
theorem UpTo.first {i : Nat} {o : Oper} {v : Value} (hi : ops[i]? = some o) (hwait : Region.waitsFor md ops m i = true) (hne : i ≠ m) (hsel : ∀ (j : Nat) (o : Oper) cs b, ops[j]? = some o → o.op ≠ .select cs b)
    (hQ : ∀ c a w, Q (.panic c) (a.put o.dst v) w → Q (.panic c) a w) :
    ∀ (k : Nat) (ls : Array Bool) (a : Act) (w : World),
      (∀ j oj, ops[j]? = some oj → j ≠ i → ls.getD j true = false → (∀ e ∈ oj.after, Region.binds md e = true → e.on ≠ i) → o.apart ops oj = true) →
      i ∈ Region.ready md ops ls → YieldsIf P ops S o v a → S w →
      UpTo P md ops Q S m k (ls.setIfInBounds i true) (a.put o.dst v) w → UpTo P md ops Q S m (k + 1) ls a w := by
  have unl : ∀ {ls : Array Bool}, i ∈ Region.ready md ops ls → ls.getD i false = false := fun {ls} h => by
    have h0 := (mem_ready.1 h).1
    by_cases hlt : i < ls.size
    · simp [hlt] at h0 ⊢; exact h0
    · simp [Array.getElem?_eq_none (Nat.le_of_not_lt hlt)]
  intro k
  induction k with
  | zero =>
    intro ls a w _ hr hy hS H
    refine ⟨fun e => (by rw [e] at hr; cases hr), fun j hj => ?_⟩
    by_cases hji : j = i
    · subst hji; exact hy.wpOp hi hS ⟨fun _ => hS, H⟩
    · have h1 := ready_mono hj hji
      rw [H.1] at h1; cases h1
  | succ k ih =>
    intro ls a w hfr hr hy hS H
    refine ⟨fun e => (by rw [e] at hr; cases hr), fun j hj => ?_⟩
    by_cases hji : j = i
    · subst hji; exact hy.wpOp hi hS ⟨fun _ => hS, H⟩
    obtain ⟨hju, oj, hoj, hall⟩ := mem_ready.1 hj
    have hapart : ∀ e ∈ oj.after, Region.binds md e = true → e.on ≠ i := fun e he hb e2 => by
      have h1 := hall e he hb
      rw [e2, unl hr] at h1; cases h1
    have hjm : j ≠ m := by
      rintro rfl
      obtain ⟨o2, ho2, e, he, hb, hon⟩ := Region.waitsFor_spec hwait
      obtain rfl : o2 = oj := Option.some.inj (ho2.symm.trans hoj)
      exact hapart e he hb hon
    have h2 := wpOp_putIf hoj (hfr j oj hoj hji hju hapart) (fun cs b => hsel i o cs b hi) (fun cs b => hsel j oj cs b hoj) hQ hy (H.2 j (ready_mono hj hji))
    refine wpOp_mono (fun a' w' h3 => ⟨h3.2.1, ih (ls.setIfInBounds j true) a' w' (fun x ox hx hxi hun hno => hfr x ox hx hxi ?_ hno) (ready_mono hr (Ne.symm hji)) h3.1 (h3.2.1 hjm) ?_⟩) h2
    · by_cases e : j = x
      · subst e; exact hju
      · rw [getD_set_ne true e] at hun; exact hun
    · rw [Array.setIfInBounds_comm _ _ hji]
      exact h3.2.2
theorem UpTo.take {i : Nat} {o : Oper} {v : Value} {k : Nat} {ls : Array Bool} {a : Act} {w : World} (hi : ops[i]? = some o) (hwait : (Region.waitsFor md ops m i && decide (i ≠ m)) = true)
    (hs : Region.noSelect ops = true) (hf : Region.free md ops ls i = true) (hr : (Region.ready md ops ls).contains i = true)
    (hQ : ∀ c a w, Q (.panic c) (a.put o.dst v) w → Q (.panic c) a w) (hy : YieldsIf P ops S o v a) (hS : S w)
    (h : UpTo P md ops Q S m k (ls.setIfInBounds i true) (a.put o.dst v) w) : UpTo P md ops Q S m (k + 1) ls a w := by
  rw [Bool.and_eq_true, decide_eq_true_eq] at hwait
  exact UpTo.first hi hwait.1 hwait.2 (Region.noSelect_spec hs) hQ k ls a w (Region.free_spec hi hf) (by simpa using hr) hy hS h
/-- One operation alone may come up. -/
theorem UpTo.one {i : Nat} {o : Oper} {k : Nat} {ls : Array Bool} {a : Act} {w : World} (hr : Region.ready md ops ls = [i]) (ho : ops[i]? = some o) (hsel : o.guard = none)
    (h : ∀ K' : Act → World → Prop, Hid (∀ a' w', S w' → UpTo P md ops Q S m k (ls.setIfInBounds i true) a' w' → K' a' w') → if Region.wanted o (yielded ops a.tmps) = true then Oper.wp P o a w K' Q else K' (a.put o.dst undef) w) : UpTo P md ops Q S m (k + 1) ls a w := by
  refine ⟨fun e => (by rw [hr] at e; cases e), fun j hj => ?_⟩
  rw [hr] at hj
  obtain rfl : j = i := by simpa using hj
  have hw : Region.wanted o (yielded ops a.tmps) = true := by simp [Region.wanted, hsel]
  have h1 := h (fun a' w' => (j ≠ m → S w') ∧ UpTo P md ops Q S m k (ls.setIfInBounds j true) a' w') (W_hid (fun a' w' hS hU => ⟨fun _ => hS, hU⟩))
  rw [if_pos hw] at h1
  unfold wpOp
  simp only [ho, hw, if_true]
  exact .inl h1
/-- The last one. -/
theorem UpTo.last {o : Oper} {k : Nat} {ls : Array Bool} {a : Act} {w : World} (hr : Region.ready md ops ls = [m]) (ho : ops[m]? = some o) (hsel : o.guard = none) (hend : Region.ready md ops (ls.setIfInBounds m true) = [])
    (h : Oper.wp P o a w (Q .normal) Q) : UpTo P md ops Q S m (k + 1) ls a w := by
  refine ⟨fun e => (by rw [hr] at e; cases e), fun j hj => ?_⟩
  rw [hr] at hj
  obtain rfl : j = m := by simpa using hj
  have hw : Region.wanted o (yielded ops a.tmps) = true := by simp [Region.wanted, hsel]
  have key : ∀ a' w', Q .normal a' w' → (j ≠ j → S w') ∧ UpTo P md ops Q S j k (ls.setIfInBounds j true) a' w' := fun a' w' hq => ⟨fun e => absurd rfl e, by
    cases k with
    | zero => exact ⟨hend, hq⟩
    | succ k => exact ⟨fun _ => hq, fun x hx => by rw [hend] at hx; cases hx⟩⟩
  refine wpOp_mono key ?_
  unfold wpOp
  simp only [ho, hw, if_true]
  exact .inl h
theorem UpTo.region {id : Nat} {a : Act} {w : World} (hm : P.follows .mixedOrders = true) (hS : S w.drew) (h : S w.drew → UpTo P .any ops Q S m ops.size (Array.replicate ops.size false) a w.drew) : (Code.region id ops true).wp P Q a w :=
  wp_region_any hm (UpTo.any _ _ _ _ (h hS))
end
end Go.Proofs.Ytieneehpijilpaa

namespace Go.Proofs.Ytieneehpijilpaa
open Go.ChangeShapes Go.WideShapes Go.ChangeAt Go.RowKit
set_option linter.unusedVariables false

section
variable {P : Program} {ops : Array Oper} {Q : Exit → Act → World → Prop} {md : Region.Mode} {S : World → Prop} {m : Nat}

/-- Whatever order is picked: S holds behind each operation but number m. -/
def UpTil (P : Program) (md : Region.Mode) (ops : Array Oper) (Q : Exit → Act → World → Prop) (S : World → Prop) (m : Nat) : Nat → Array Bool → Act → World → Prop
  | 0, ls, a, w => Region.ready md ops ls = [] ∧ Q .normal a w
  | k + 1, ls, a, w => (Region.ready md ops ls = [] → Q .normal a w) ∧ ∀ j ∈ Region.ready md ops ls, wpOp P ops Q j (fun a' w' => (j ≠ m → ls.getD m true = false → S w') ∧ UpTil P md ops Q S m k (ls.setIfInBounds j true) a' w') a w
theorem UpTil.any : ∀ (k : Nat) (ls : Array Bool) (a : Act) (w : World), UpTil P md ops Q S m k ls a w → wpAny P md ops Q k ls a w
  | 0, _, _, _, h => h
  | k + 1, _, _, _, h => ⟨h.1, fun j hj => wpOp_mono (fun a' w' h' => UpTil.any k _ a' w' h'.2) (h.2 j hj)⟩

/-- An operation for which m waits may be taken first. -/
theorem UpTil.first {i : Nat} {o : Oper} {v : Value} (hi : ops[i]? = some o) (hwait : Region.waitsFor md ops m i = true) (hne : i ≠ m) (hsel : ∀ (j : Nat) (o : Oper) cs b, ops[j]? = some o → o.op ≠ .select cs b)
    (hQ : ∀ c a w, Q (.panic c) (a.put o.dst v) w → Q (.panic c) a w) :
    ∀ (k : Nat) (ls : Array Bool) (a : Act) (w : World),
      (∀ j oj, ops[j]? = some oj → j ≠ i → ls.getD j true = false → (∀ e ∈ oj.after, Region.binds md e = true → e.on ≠ i) → o.apart ops oj = true) →
      ls.getD m true = false → i ∈ Region.ready md ops ls → YieldsIf P ops S o v a → S w →
      UpTil P md ops Q S m k (ls.setIfInBounds i true) (a.put o.dst v) w → UpTil P md ops Q S m (k + 1) ls a w := by
  have unl : ∀ {ls : Array Bool}, i ∈ Region.ready md ops ls → ls.getD i false = false := fun {ls} h => by
    have h0 := (mem_ready.1 h).1
    by_cases hlt : i < ls.size
    · simp [hlt] at h0 ⊢; exact h0
    · simp [Array.getElem?_eq_none (Nat.le_of_not_lt hlt)]
  intro k
  induction k with
  | zero =>
    intro ls a w _ hm hr hy hS H
    refine ⟨fun e => (by rw [e] at hr; cases hr), fun j hj => ?_⟩
    by_cases hji : j = i
    · subst hji; exact hy.wpOp hi hS ⟨fun _ _ => hS, H⟩
    · have h1 := ready_mono hj hji
      rw [H.1] at h1; cases h1
  | succ k ih =>
    intro ls a w hfr hm hr hy hS H
    refine ⟨fun e => (by rw [e] at hr; cases hr), fun j hj => ?_⟩
    by_cases hji : j = i
    · subst hji; exact hy.wpOp hi hS ⟨fun _ _ => hS, H⟩
    obtain ⟨hju, oj, hoj, hall⟩ := mem_ready.1 hj
    have hapart : ∀ e ∈ oj.after, Region.binds md e = true → e.on ≠ i := fun e he hb e2 => by
      have h1 := hall e he hb
      rw [e2, unl hr] at h1; cases h1
    have hjm : j ≠ m := by
      rintro rfl
      obtain ⟨o2, ho2, e, he, hb, hon⟩ := Region.waitsFor_spec hwait
      obtain rfl : o2 = oj := Option.some.inj (ho2.symm.trans hoj)
      exact hapart e he hb hon
    have h2 := wpOp_putIf hoj (hfr j oj hoj hji hju hapart) (fun cs b => hsel i o cs b hi) (fun cs b => hsel j oj cs b hoj) hQ hy (H.2 j (ready_mono hj hji))
    have hm' : (ls.setIfInBounds i true).getD m true = false := by rw [getD_set_ne true hne]; exact hm
    refine wpOp_mono (fun a' w' h3 => ⟨fun e e' => h3.2.1 e hm', ih (ls.setIfInBounds j true) a' w' (fun x ox hx hxi hun hno => hfr x ox hx hxi ?_ hno) (by rw [getD_set_ne true hjm]; exact hm) (ready_mono hr (Ne.symm hji)) h3.1 (h3.2.1 hjm hm') ?_⟩) h2
    · by_cases e : j = x
      · subst e; exact hju
      · rw [getD_set_ne true e] at hun; exact hun
    · rw [Array.setIfInBounds_comm _ _ hji]
      exact h3.2.2
theorem UpTil.take {i : Nat} {o : Oper} {v : Value} {k : Nat} {ls : Array Bool} {a : Act} {w : World} (hi : ops[i]? = some o) (hwait : (Region.waitsFor md ops m i && decide (i ≠ m)) = true)
    (hs : Region.noSelect ops = true) (hf : Region.free md ops ls i = true) (hr : (Region.ready md ops ls).contains i = true) (hm : ls.getD m true = false)
    (hQ : ∀ c a w, Q (.panic c) (a.put o.dst v) w → Q (.panic c) a w) (hy : YieldsIf P ops S o v a) (hS : S w)
    (h : UpTil P md ops Q S m k (ls.setIfInBounds i true) (a.put o.dst v) w) : UpTil P md ops Q S m (k + 1) ls a w := by
  rw [Bool.and_eq_true, decide_eq_true_eq] at hwait
  exact UpTil.first hi hwait.1 hwait.2 (Region.noSelect_spec hs) hQ k ls a w (Region.free_spec hi hf) hm (by simpa using hr) hy hS h
/-- An operation that reads no memory may be taken first, whether m waits for it or not. -/
theorem UpTil.pure {i : Nat} {o : Oper} {v : Value} (hi : ops[i]? = some o) (hne : i ≠ m) (hsel : ∀ (j : Nat) (o : Oper) cs b, ops[j]? = some o → o.op ≠ .select cs b)
    (hQ : ∀ c a w, Q (.panic c) (a.put o.dst v) w → Q (.panic c) a w) :
    ∀ (k : Nat) (ls : Array Bool) (a : Act) (w : World),
      (∀ j oj, ops[j]? = some oj → j ≠ i → ls.getD j true = false → (∀ e ∈ oj.after, Region.binds md e = true → e.on ≠ i) → o.apart ops oj = true) →
      (ls.getD m true = false → S w) → i ∈ Region.ready md ops ls → YieldsIf P ops (fun _ => True) o v a →
      UpTil P md ops Q S m k (ls.setIfInBounds i true) (a.put o.dst v) w → UpTil P md ops Q S m (k + 1) ls a w := by
  have unl : ∀ {ls : Array Bool}, i ∈ Region.ready md ops ls → ls.getD i false = false := fun {ls} h => by
    have h0 := (mem_ready.1 h).1
    by_cases hlt : i < ls.size
    · simp [hlt] at h0 ⊢; exact h0
    · simp [Array.getElem?_eq_none (Nat.le_of_not_lt hlt)]
  intro k
  induction k with
  | zero =>
    intro ls a w _ hm hr hy H
    refine ⟨fun e => (by rw [e] at hr; cases hr), fun j hj => ?_⟩
    by_cases hji : j = i
    · subst hji; exact hy.wpOp hi trivial ⟨fun _ h => hm h, H⟩
    · have h1 := ready_mono hj hji
      rw [H.1] at h1; cases h1
  | succ k ih =>
    intro ls a w hfr hm hr hy H
    refine ⟨fun e => (by rw [e] at hr; cases hr), fun j hj => ?_⟩
    by_cases hji : j = i
    · subst hji; exact hy.wpOp hi trivial ⟨fun _ h => hm h, H⟩
    obtain ⟨hju, oj, hoj, hall⟩ := mem_ready.1 hj
    have hapart : ∀ e ∈ oj.after, Region.binds md e = true → e.on ≠ i := fun e he hb e2 => by
      have h1 := hall e he hb
      rw [e2, unl hr] at h1; cases h1
    have h2 := wpOp_putIf hoj (hfr j oj hoj hji hju hapart) (fun cs b => hsel i o cs b hi) (fun cs b => hsel j oj cs b hoj) hQ hy (H.2 j (ready_mono hj hji))
    have hback : (ls.setIfInBounds i true).getD m true = ls.getD m true := getD_set_ne true hne
    refine wpOp_mono (fun a' w' h3 => ⟨fun e e' => h3.2.1 e (by rw [hback]; exact e'), ih (ls.setIfInBounds j true) a' w' (fun x ox hx hxi hun hno => hfr x ox hx hxi ?_ hno) (fun e' => ?_) (ready_mono hr (Ne.symm hji)) h3.1 ?_⟩) h2
    · by_cases e : j = x
      · subst e; exact hju
      · rw [getD_set_ne true e] at hun; exact hun
    · by_cases hjm : j = m
      · subst hjm
        exfalso
        have : (ls.setIfInBounds j true).getD j true = true := by
          by_cases hlt : j < ls.size
          · simp [hlt]
          · simp [hlt]
        rw [this] at e'; cases e'
      · rw [getD_set_ne true hjm] at e'
        exact h3.2.1 hjm (by rw [hback]; exact e')
    · rw [Array.setIfInBounds_comm _ _ hji]
      exact h3.2.2
theorem UpTil.takePure {i : Nat} {o : Oper} {v : Value} {k : Nat} {ls : Array Bool} {a : Act} {w : World} (hi : ops[i]? = some o) (hne : decide (i ≠ m) = true)
    (hs : Region.noSelect ops = true) (hf : Region.free md ops ls i = true) (hr : (Region.ready md ops ls).contains i = true)
    (hQ : ∀ c a w, Q (.panic c) (a.put o.dst v) w → Q (.panic c) a w) (hy : YieldsIf P ops (fun _ => True) o v a) (hS : S w)
    (h : UpTil P md ops Q S m k (ls.setIfInBounds i true) (a.put o.dst v) w) : UpTil P md ops Q S m (k + 1) ls a w :=
  UpTil.pure hi (of_decide_eq_true hne) (Region.noSelect_spec hs) hQ k ls a w (Region.free_spec hi hf) (fun _ => hS) (by simpa using hr) hy h
/-- One operation alone may come up. -/
theorem UpTil.one {i : Nat} {o : Oper} {k : Nat} {ls : Array Bool} {a : Act} {w : World} (hr : Region.ready md ops ls = [i]) (ho : ops[i]? = some o) (hsel : o.guard = none)
    (h : ∀ K' : Act → World → Prop, Hid (∀ a' w', (ls.getD m true = false → S w') → UpTil P md ops Q S m k (ls.setIfInBounds i true) a' w' → K' a' w') → if Region.wanted o (yielded ops a.tmps) = true then Oper.wp P o a w K' Q else K' (a.put o.dst undef) w) : UpTil P md ops Q S m (k + 1) ls a w := by
  refine ⟨fun e => (by rw [hr] at e; cases e), fun j hj => ?_⟩
  rw [hr] at hj
  obtain rfl : j = i := by simpa using hj
  have hw : Region.wanted o (yielded ops a.tmps) = true := by simp [Region.wanted, hsel]
  have h1 := h (fun a' w' => (j ≠ m → ls.getD m true = false → S w') ∧ UpTil P md ops Q S m k (ls.setIfInBounds j true) a' w') (W_hid (fun a' w' hS hU => ⟨fun _ => hS, hU⟩))
  rw [if_pos hw] at h1
  unfold wpOp
  simp only [ho, hw, if_true]
  exact .inl h1
/-- The last one. -/
theorem UpTil.last {o : Oper} {k : Nat} {ls : Array Bool} {a : Act} {w : World} (hr : Region.ready md ops ls = [m]) (ho : ops[m]? = some o) (hsel : o.guard = none) (hend : Region.ready md ops (ls.setIfInBounds m true) = [])
    (h : Oper.wp P o a w (Q .normal) Q) : UpTil P md ops Q S m (k + 1) ls a w := by
  refine ⟨fun e => (by rw [hr] at e; cases e), fun j hj => ?_⟩
  rw [hr] at hj
  obtain rfl : j = m := by simpa using hj
  have hw : Region.wanted o (yielded ops a.tmps) = true := by simp [Region.wanted, hsel]
  have key : ∀ a' w', Q .normal a' w' → (j ≠ j → ls.getD j true = false → S w') ∧ UpTil P md ops Q S j k (ls.setIfInBounds j true) a' w' := fun a' w' hq => ⟨fun e => absurd rfl e, by
    cases k with
    | zero => exact ⟨hend, hq⟩
    | succ k => exact ⟨fun _ => hq, fun x hx => by rw [hend] at hx; cases hx⟩⟩
  refine wpOp_mono key ?_
  unfold wpOp
  simp only [ho, hw, if_true]
  exact .inl h
theorem UpTil.region {id : Nat} {a : Act} {w : World} (hm : P.follows .mixedOrders = true) (hS : S w.drew) (h : S w.drew → UpTil P .any ops Q S m ops.size (Array.replicate ops.size false) a w.drew) : (Code.region id ops true).wp P Q a w :=
  wp_region_any hm (UpTil.any _ _ _ _ (h hS))
end
end Go.Proofs.Ytieneehpijilpaa

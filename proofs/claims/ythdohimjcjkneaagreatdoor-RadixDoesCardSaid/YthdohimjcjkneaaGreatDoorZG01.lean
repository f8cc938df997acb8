/- The document's Same and SameFrames, of lists that are the same. -/
import Derived.Test.YthdohimjcjkneaaGreatDoorZL09

/- The document's own tree: Tables. -/
namespace Go.Proofs.YthdohimjcjkneaaGreatDoor
theorem iu64 : Own.Info Tryz.prog 36 (.int .u64 0) 1 8 := Own.info_of (by kernel_rfl) rfl (by decide)
open Go.ChangeShapes Go.WideShapes Go.ChangeAt Go.RowKit
set_option linter.unusedVariables false
set_option linter.unusedSimpArgs false

def fcl (l : List Nat) : List Value := l.map (fun f : Nat => Value.int .u64 (f : Int))
theorem fcl_one (l : List Nat) : ∀ u ∈ fcl l, u.oneCell' = true := by
  intro u hu
  obtain ⟨x, -, rfl⟩ := List.mem_map.1 hu
  rfl
theorem elem_u64 : Tryz.prog.elem 49 = 36 := by kernel_rfl

theorem up_eq : ∀ {a b : List Nat}, a.Pairwise (· < ·) → b.Pairwise (· < ·) → (∀ x, x ∈ a ↔ x ∈ b) → a = b
  | [], [], _, _, _ => rfl
  | [], y :: b, _, _, h => absurd ((h y).2 List.mem_cons_self) (by simp)
  | x :: a, [], _, _, h => absurd ((h x).1 List.mem_cons_self) (by simp)
  | x :: a, y :: b, ha, hb, h => by
    obtain ⟨ha1, ha2⟩ := List.pairwise_cons.1 ha
    obtain ⟨hb1, hb2⟩ := List.pairwise_cons.1 hb
    have e : x = y := by
      rcases List.mem_cons.1 ((h x).1 List.mem_cons_self) with e | e
      · exact e
      · rcases List.mem_cons.1 ((h y).2 List.mem_cons_self) with e2 | e2
        · exact e2.symm
        · have := hb1 x e; have := ha1 y e2; omega
    subst e
    rw [up_eq ha2 hb2 fun z => ⟨fun hz => by
      rcases List.mem_cons.1 ((h z).1 (List.mem_cons_of_mem _ hz)) with e | e
      · have := ha1 z hz; omega
      · exact e, fun hz => by
      rcases List.mem_cons.1 ((h z).2 (List.mem_cons_of_mem _ hz)) with e | e
      · have := hb1 z hz; omega
      · exact e⟩]

theorem ins_up {O : List Nat} {x q : Nat} (hp : O.Pairwise (· < ·)) (hq : q ≤ O.length) (hx : x ∉ O) (hlo : ∀ (j : Nat) (hj : j < O.length), j < q → O[j] < x) (hhi : ∀ (h : q < O.length), ¬ O[q] < x) : (O.take q ++ x :: O.drop q).Pairwise (· < ·) := by
  have hgt : ∀ y ∈ O.drop q, x < y := fun y hy => by
    obtain ⟨j, hj, rfl⟩ := List.getElem_of_mem hy
    rw [List.length_drop] at hj
    rw [List.getElem_drop]
    have h1 := hhi (by omega)
    have h2 : O[q]'(by omega) ≤ O[q + j]'(by omega) := by
      rcases Nat.eq_zero_or_pos j with h0 | h0
      · subst h0; exact Nat.le_refl _
      · exact Nat.le_of_lt (List.pairwise_iff_getElem.1 hp q (q + j) (by omega) (by omega) (by omega))
    have h3 : O[q + j]'(by omega) ≠ x := fun e => hx (e ▸ List.getElem_mem _)
    omega
  have hls : ∀ y ∈ O.take q, y < x := fun y hy => by
    obtain ⟨j, hj, rfl⟩ := List.getElem_of_mem hy
    rw [List.length_take] at hj
    rw [List.getElem_take]
    exact hlo j (by omega) (by omega)
  refine List.pairwise_append.2 ⟨hp.sublist (List.take_sublist _ _), List.pairwise_cons.2 ⟨hgt, hp.sublist (List.drop_sublist _ _)⟩, fun a ha b hb => ?_⟩
  rcases List.mem_cons.1 hb with rfl | hb
  · exact hls a ha
  · exact Nat.lt_trans (hls a ha) (hgt b hb)
theorem ins_mem {O : List Nat} {x q f : Nat} : f ∈ O.take q ++ x :: O.drop q ↔ f ∈ O ∨ f = x := by
  have : f ∈ O ↔ f ∈ O.take q ∨ f ∈ O.drop q := by rw [← List.mem_append, List.take_append_drop]
  rw [this, List.mem_append, List.mem_cons]
  constructor
  · rintro (h | h | h)
    · exact .inl (.inl h)
    · exact .inr h
    · exact .inl (.inr h)
  · rintro ((h | h) | h)
    · exact .inl h
    · exact .inr (.inr h)
    · exact .inr (.inl h)

/-- The frames of the first tables, in order. -/
structure Up (Tl : List RX.Tb) (k : Nat) (O : List Nat) : Prop where
  rise : O.Pairwise (· < ·)
  mem : ∀ f, f ∈ O ↔ f ∈ (Tl.take k).map (·.1)
  len : O.length = k
theorem Up.zero (Tl : List RX.Tb) : Up Tl 0 [] := ⟨List.Pairwise.nil, fun f => by simp, rfl⟩
theorem Up.step {Tl : List RX.Tb} {k : Nat} {O : List Nat} (h : Up Tl k O) (hk : k < Tl.length) (hnd : (Tl.map (·.1)).Nodup) {q : Nat} (hq : q ≤ k) (hlo : ∀ (j : Nat) (hj : j < O.length), j < q → O[j] < Tl[k].1) (hhi : ∀ (hh : q < O.length), ¬ O[q] < Tl[k].1) : Up Tl (k + 1) (O.take q ++ Tl[k].1 :: O.drop q) := by
  have hl := h.len
  refine ⟨ins_up h.rise (by omega) ?_ hlo hhi, fun f => ?_, ?_⟩
  · rw [h.mem]
    intro hx
    have e : Tl = Tl.take k ++ Tl[k] :: Tl.drop (k + 1) := by rw [← List.drop_eq_getElem_cons hk, List.take_append_drop]
    rw [e, List.map_append, List.map_cons, List.nodup_append] at hnd
    exact hnd.2.2 _ hx _ List.mem_cons_self rfl
  · rw [ins_mem, h.mem, List.take_add_one, List.getElem?_eq_getElem hk, List.map_append, List.mem_append]
    simp
  · rw [List.length_append, List.length_cons, List.length_take, List.length_drop]
    omega

set_option maxRecDepth 100000 in
set_option maxHeartbeats 8000000 in
theorem rTables_any (D : List Nat) (g pg pb n : Nat) (T : Nat → Bool) (lv tv : Value) (L : List RX.Pg) (Tl : List RX.Tb) (w : World) (h : DM w D g pg pb n T lv tv L Tl) (hnd : (Tl.map (·.1)).Nodup) (hlen : Tl.length ≤ 100000) :
    Calls Tryz.prog 25 #[.pointer (some ⟨g, 0, none⟩)] w fun e w' => ∃ (v : Value) (O : List Nat), e = .returned v ∧ Up Tl Tl.length O ∧ w'.ownsRow w.heap.size 36 1 v O.length (fcl O) ∧ Below w.heap.size w w' := by
  obtain ⟨-, a0, cap0, htv, hc1, hc2⟩ := h.lens
  unfold maxLen at hc2
  have H := W_hid h
  subst htv
  replace hnd := W_hid hnd
  obtain ⟨N, hN⟩ : ∃ N, Tl.length = N := ⟨_, rfl⟩
  have hN' := W_hid hN
  rw [hN] at hc1 hlen
  have hNi : (N : Int) ≤ 100000 := by omega
  clear h
  go_enter Tryz.func25, Tryz.ntmps25
  go_wp2_with fail
  go_loopw [3, 4] (fun o i wr => ∃ (k : Nat) (O : List Nat) (a : Option Addr) (c : Nat), k ≤ N ∧ i = .int .i64 (k : Int) ∧ o = .slice a k c ∧ k ≤ c ∧ Hid (Up Tl k O) ∧ Hid (wr.ownsRow w.heap.size 36 1 (.slice a k c) k (fcl O)) ∧ Hid (Below w.heap.size w wr)) (fun _ i _ => N - (intOf i).toNat)
  case atStart => exact ⟨0, [], none, 0, by omega, rfl, rfl, by omega, W_hid (Up.zero Tl), W_hid ⟨rfl, .inl ⟨rfl, rfl⟩⟩, W_hid (Below.refl _ _)⟩
  case round =>
    obtain ⟨k, O, a, c, hk, rfl, rfl, hkc, hU, hR, hB⟩ := hrel
    have hD := H.out.keep hB.out
    have c2 := hD.c2
    rw [hN] at c2
    by_cases hlt : k < N
    · have hk' : k < Tl.length := by rw [hN]; exact hlt
      obtain ⟨x, hx⟩ : ∃ x, Tl[k].1 = x := ⟨_, rfl⟩
      have hki : (k : Int) < N := by omega
      have hst := W_hid (fun q hq hlo hhi => @Up.step Tl k O hU.out hk' hnd.out q hq hlo hhi)
      rw [hx] at hst
      have hOl := W_hid hU.out.len
      replace hx : Hid (∃ h : k < Tl.length, Tl[k].1 = x) := W_hid ⟨hk', hx⟩
      clear hD hk' hU
      go_wp2_with fail
      go_loopw [5] (fun at_ wr2 => ∃ q : Nat, q ≤ k ∧ at_ = .int .i64 (q : Int) ∧ Hid (∀ (j : Nat) (hj : j < O.length), j < q → O[j] < x) ∧ Hid (wr2.ownsRow w.heap.size 36 1 (.slice a k c) k (fcl O)) ∧ Hid (Below w.heap.size w wr2)) (fun at_ _ => k - (intOf at_).toNat)
      case atStart => exact ⟨0, by omega, rfl, W_hid (fun j hj h => by omega), hR, hB⟩
      case round =>
        clear c2 hR hB
        obtain ⟨q, hq, rfl, hlo, hR, hB⟩ := hrel
        have hD := H.out.keep hB.out
        have c2 := hD.c2
        rw [hN] at c2
        obtain ⟨hkT, hx⟩ := hx.out
        obtain ⟨b, o, cap, e0, -, -, t0, -, -, l0, -⟩ := hD.tab hkT
        rw [hN] at e0
        simp only [Value.slice.injEq] at e0
        obtain ⟨rfl, -, rfl⟩ := e0
        rw [hx] at t0 l0
        replace hx := W_hid (⟨hkT, hx⟩ : ∃ h : k < Tl.length, Tl[k].1 = x)
        replace hN := W_hid hN
        clear hD hkT
        have hqk := hq
        have S0 := hR.out
        by_cases hgo : q < k ∧ O.getD q 0 < x
        · obtain ⟨h1, h2⟩ := hgo
          obtain ⟨b2, o2, c3, e1, -, -, -, -, hcl, -⟩ := own_cells S0 (by omega)
          simp only [Value.slice.injEq] at e1
          obtain ⟨rfl, -, rfl⟩ := e1
          have hqO : q < O.length := by rw [hOl.out]; exact h1
          have e2 : O.getD q 0 = O[q] := by rw [List.getD_eq_getElem?_getD, List.getElem?_eq_getElem hqO]; rfl
          rw [e2] at h2
          have t3 : wr.cell? ⟨b2, o2 + q, none⟩ = some (.int .u64 ((O[q] : Nat) : Int)) := hcl q _ (by unfold fcl; rw [List.getElem?_map, List.getElem?_eq_getElem hqO]; rfl)
          have hlo2 : Hid (∀ (j : Nat) (hj : j < O.length), j < q + 1 → O[j] < x) := W_hid (fun j hj h => by
            by_cases e : j = q
            · subst e; exact h2
            · exact hlo.out j hj (by omega))
          obtain ⟨y, hy⟩ : ∃ y, O[q] = y := ⟨_, rfl⟩
          rw [hy] at t3 h2
          have d1 : decide ((y : Int) < (x : Int)) = true := by simp; omega
          have d0 : (q : Int) < k := by omega
          clear hcl e2 hy hqO S0 hlo
          go_wp2_with fail
          go_quiet (fail)
          have hR2 := W_hid (Own.below hR.out (below_drewN (Below.refl _ _) nq))
          have hB2 := W_hid (below_drewN hB.out nq)
          clear hR hB c2 t0 t3
          go_wp2_with fail
          go_roundw
          case rel => exact ⟨q + 1, by omega, by go_num, hlo2, hR2, hB2⟩
          case measure => simp [intOf]; omega
        · have hhi : Hid (∀ (h : q < O.length), ¬ O[q] < x) := W_hid (fun h e => hgo ⟨by rw [← hOl.out]; exact h, by rw [List.getD_eq_getElem?_getD, List.getElem?_eq_getElem h]; exact e⟩)
          have hst2 := W_hid (hst.out q hqk hlo.out hhi.out)
          have e9 : Hid (fcl (O.take q ++ x :: O.drop q) = [] ++ ((fcl O).take (q * 1)) ++ [Value.int .u64 (x : Int)] ++ ((fcl O).drop (q * 1)) ∧ 0 + q + 1 + (k - q) = k + 1) := by
            refine ⟨?_, by omega⟩
            unfold fcl
            rw [Nat.mul_one, List.map_append, List.map_cons, List.map_take, List.map_drop, List.nil_append, List.append_assoc]
            rfl
          have hex : q = k ∨ (q < k ∧ ∃ y : Nat, ¬ y < x ∧ ∃ b2 o2, a = some ⟨b2, o2, none⟩ ∧ wr.cell? ⟨b2, o2 + q, none⟩ = some (.int .u64 (y : Int))) := by
            rcases Nat.lt_or_ge q k with h1 | h1
            · obtain ⟨b2, o2, c3, e1, -, -, -, -, hcl, -⟩ := own_cells S0 (by omega)
              simp only [Value.slice.injEq] at e1
              have hqO : q < O.length := by rw [hOl.out]; exact h1
              exact .inr ⟨h1, O[q], hhi.out hqO, b2, o2, e1.1, hcl q _ (by unfold fcl; rw [List.getElem?_map, List.getElem?_eq_getElem hqO]; rfl)⟩
            · exact .inl (by omega)
          have ha0 : a = none ∨ ∃ b o, a = some ⟨b, o, none⟩ := by
            rcases S0.2 with ⟨h1, _⟩ | ⟨g', cap', cur, h1, _⟩
            · simp only [Value.slice.injEq] at h1; exact .inl h1.1
            · simp only [Value.slice.injEq] at h1; exact .inr ⟨_, _, h1.1⟩
          have hcm : c ≤ maxLen := by
            rcases S0.2 with ⟨h1, _⟩ | ⟨g', cap', cur, h1, _, _, _, h2, _⟩
            · simp only [Value.slice.injEq] at h1; rw [h1.2.2]; exact Nat.zero_le _
            · simp only [Value.slice.injEq] at h1; rw [h1.2.2]; exact h2
          unfold maxLen at hcm
          obtain ⟨X, hmk, hmo⟩ := Own.make_room Tryz.underlying49 iu64 (k + 1) ((k : Int) + 1) rfl (by omega) (by omega)
          have hrhi := run_hi Tryz.underlying49 elem_u64 iu64 a k c q hqk hkc ha0
          obtain ⟨a9, hrlo, hS9, hb9⟩ := cut_lo Tryz.underlying49 elem_u64 iu64 S0 rfl hkc q hqk
          have hS8 := src_take S0 rfl q hqk
          have hwk : IntKind.i64.wrap ((k : Int) + 1) = (k : Int) + 1 := IntWalk.i64_in _ (by omega)
          have xk2 : (q : Int) ≤ k := by omega
          have hone1 : Hid (∀ u ∈ (fcl O).take (q * 1), u.oneCell' = true) := W_hid (fun u hu => fcl_one O u (List.mem_of_mem_take hu))
          have hone2 : Hid (∀ u ∈ (fcl O).drop (q * 1), u.oneCell' = true) := W_hid (fun u hu => fcl_one O u (List.mem_of_mem_drop hu))
          have hone3 : Hid (∀ u ∈ [Value.int .u64 (x : Int)], u.oneCell' = true) := W_hid (fcl_one [x])
          replace hS9 := W_hid hS9
          replace hS8 := W_hid hS8
          replace hmo := W_hid hmo
          replace hb9 := W_hid hb9
          clear S0 hgo hst hhi hlo ha0
          rcases hex with hex | ⟨h1, y, h2, b2, o2, rfl, t3⟩
          · have d0 : decide ((q : Int) < (k : Int)) = false := by simp; omega
            have d1 : decide (q < k) = false := by simp; omega
            replace hex := W_hid hex
            go_wp2_with fail
            go_quiet (fail)
            go_wp2_with fail
            have A1 : Hid (((wr.drewN nq).alloc X).drew.ownsRow wr.heap.size 36 1 (.slice (some ⟨wr.heap.size, 0, none⟩) 0 (k + 1)) 0 []) := W_hid (hmo.out (wr.drewN nq) wr.heap.size (Nat.le_refl _))
            have K1 : Hid (Below wr.heap.size wr ((wr.drewN nq).alloc X).drew) := W_hid ((below_drewN (Below.refl wr.heap.size wr) nq).trans (((Below.refl (wr.drewN nq).heap.size (wr.drewN nq)).alloc (Nat.le_refl _) X).drew))
            have S1 := W_hid (hS8.out.keep K1.out)
            go_region_held3 (fun w' => w'.cell? ⟨g, 2, none⟩ = some (.slice (some ⟨b, o, none⟩) N cap0)) (first | assumption | go_keep)
              (first | (refine Own.step_app rfl (.tmp 40) (.tmp 43) 49 rfl Tryz.underlying49 iu64 _ (.slice a q c) rfl rfl A1.out K1.out.size S1.out hone1.out (by unfold maxLen; omega) (by omega) ?_
                        intro v2 w2 ho2 hg2 hob2
                        have A2 := W_hid ho2
                        have K2 := W_hid (K1.out.grown hg2 K1.out.size (fun x hx => Own.ge A1.out x hx))
                        have x2 : w2.cell? ⟨g, 2, none⟩ = some (.slice (some ⟨b, o, none⟩) N cap0) := by have t := (H.out.keep (hB.out.trans (K2.out.mono hB.out.size))).c2; rw [hN.out] at t; exact t
                        clear ho2 hg2 hob2))
            have t2 : w2.cell? ⟨b, o + k * 3, none⟩ = some (.int .u64 (x : Int)) := by rw [K2.out.cell (p := ⟨b, o + k * 3, none⟩) (cell_lt t0)]; exact t0
            have A3 := W_hid (A2.out.alloc (.cells #[.int .u64 (x : Int)] 36))
            have K3 := W_hid (K2.out.alloc K2.out.size (.cells #[.int .u64 (x : Int)] 36))
            have S3 := W_hid (src_own (World.ownsRow_lit (base := 0) (e := 36) (size := 1) w2 #[.int .u64 (x : Int)] 1 (Nat.zero_le _) (by decide) rfl))
            obtain ⟨a22, c22, rfl⟩ := Own.form A2.out
            clear c2 t0
            go_upto_region 10 with (refine Own.wpList_app rfl (.tmp 45) (.tmp 54) 49 rfl Tryz.underlying49 iu64 _ _ rfl rfl A3.out K3.out.size S3.out hone3.out (by unfold maxLen; omega) (by omega) ?_; intro v4 w4 ho4 hg4 hob4; have A4 := W_hid ho4; have K4 := W_hid (K3.out.grown hg4 K3.out.size (fun x hx => Own.ge A3.out x hx)); clear ho4 hg4 hob4)
            clear x2 t2
            have S4 := W_hid (hS9.out.keep K4.out)
            obtain ⟨a44, c44, rfl⟩ := Own.form A4.out
            go_wp2_with (refine Own.wpList_app rfl (.tmp 56) (.tmp 59) 49 rfl Tryz.underlying49 iu64 _ _ rfl rfl A4.out K4.out.size S4.out hone2.out (by unfold maxLen; omega) (by omega) ?_; intro v5 w5 ho5 hg5 hob5; obtain ⟨a55, c55, rfl⟩ := Own.form ho5; have A5 := W_hid ho5; have K5 := W_hid (K4.out.grown hg5 K4.out.size (fun x hx => Own.ge A4.out x hx)); clear ho5 hg5 hob5)
            have A6 := A5.out
            rw [e9.out.2, ← e9.out.1] at A6
            have hc5 : k + 1 ≤ c55 := by
              rcases A6.2 with ⟨_, h1⟩ | ⟨g', cap', cur, h1, _, _, h2, _⟩
              · omega
              · simp only [Value.slice.injEq] at h1; rw [h1.2.2]; exact h2
            have hB5 := W_hid (hB.out.trans (K5.out.mono hB.out.size))
            have A7 := W_hid (Own.low hB.out.size A6)
            go_roundw
            case rel =>
              try rw [e9.out.2]
              try rw [show q + 1 + (k - q) = k + 1 from by omega]
              exact ⟨k + 1, _, a55, c55, by omega, by go_num, rfl, hc5, hst2, A7, hB5⟩
            case measure => simp [intOf]; omega
          · have d1 : decide ((y : Int) < (x : Int)) = false := by simp; omega
            have d0 : (q : Int) < k := by omega
            go_wp2_with fail
            go_quiet (fail)
            go_wp2_with fail
            have A1 : Hid (((wr.drewN nq).alloc X).drew.ownsRow wr.heap.size 36 1 (.slice (some ⟨wr.heap.size, 0, none⟩) 0 (k + 1)) 0 []) := W_hid (hmo.out (wr.drewN nq) wr.heap.size (Nat.le_refl _))
            have K1 : Hid (Below wr.heap.size wr ((wr.drewN nq).alloc X).drew) := W_hid ((below_drewN (Below.refl wr.heap.size wr) nq).trans (((Below.refl (wr.drewN nq).heap.size (wr.drewN nq)).alloc (Nat.le_refl _) X).drew))
            have S1 := W_hid (hS8.out.keep K1.out)
            go_region_held3 (fun w' => w'.cell? ⟨g, 2, none⟩ = some (.slice (some ⟨b, o, none⟩) N cap0)) (first | assumption | go_keep)
              (first | (refine Own.step_app rfl (.tmp 40) (.tmp 43) 49 rfl Tryz.underlying49 iu64 _ (.slice (some ⟨b2, o2, none⟩) q c) rfl rfl A1.out K1.out.size S1.out hone1.out (by unfold maxLen; omega) (by omega) ?_
                        intro v2 w2 ho2 hg2 hob2
                        have A2 := W_hid ho2
                        have K2 := W_hid (K1.out.grown hg2 K1.out.size (fun x hx => Own.ge A1.out x hx))
                        have x2 : w2.cell? ⟨g, 2, none⟩ = some (.slice (some ⟨b, o, none⟩) N cap0) := by have t := (H.out.keep (hB.out.trans (K2.out.mono hB.out.size))).c2; rw [hN.out] at t; exact t
                        clear ho2 hg2 hob2))
            have t2 : w2.cell? ⟨b, o + k * 3, none⟩ = some (.int .u64 (x : Int)) := by rw [K2.out.cell (p := ⟨b, o + k * 3, none⟩) (cell_lt t0)]; exact t0
            have A3 := W_hid (A2.out.alloc (.cells #[.int .u64 (x : Int)] 36))
            have K3 := W_hid (K2.out.alloc K2.out.size (.cells #[.int .u64 (x : Int)] 36))
            have S3 := W_hid (src_own (World.ownsRow_lit (base := 0) (e := 36) (size := 1) w2 #[.int .u64 (x : Int)] 1 (Nat.zero_le _) (by decide) rfl))
            obtain ⟨a22, c22, rfl⟩ := Own.form A2.out
            clear c2 t0
            go_upto_region 10 with (refine Own.wpList_app rfl (.tmp 45) (.tmp 54) 49 rfl Tryz.underlying49 iu64 _ _ rfl rfl A3.out K3.out.size S3.out hone3.out (by unfold maxLen; omega) (by omega) ?_; intro v4 w4 ho4 hg4 hob4; have A4 := W_hid ho4; have K4 := W_hid (K3.out.grown hg4 K3.out.size (fun x hx => Own.ge A3.out x hx)); clear ho4 hg4 hob4)
            clear x2 t2
            have S4 := W_hid (hS9.out.keep K4.out)
            obtain ⟨a44, c44, rfl⟩ := Own.form A4.out
            go_wp2_with (refine Own.wpList_app rfl (.tmp 56) (.tmp 59) 49 rfl Tryz.underlying49 iu64 _ _ rfl rfl A4.out K4.out.size S4.out hone2.out (by unfold maxLen; omega) (by omega) ?_; intro v5 w5 ho5 hg5 hob5; obtain ⟨a55, c55, rfl⟩ := Own.form ho5; have A5 := W_hid ho5; have K5 := W_hid (K4.out.grown hg5 K4.out.size (fun x hx => Own.ge A4.out x hx)); clear ho5 hg5 hob5)
            have A6 := A5.out
            rw [e9.out.2, ← e9.out.1] at A6
            have hc5 : k + 1 ≤ c55 := by
              rcases A6.2 with ⟨_, h1⟩ | ⟨g', cap', cur, h1, _, _, h2, _⟩
              · omega
              · simp only [Value.slice.injEq] at h1; rw [h1.2.2]; exact h2
            have hB5 := W_hid (hB.out.trans (K5.out.mono hB.out.size))
            have A7 := W_hid (Own.low hB.out.size A6)
            go_roundw
            case rel =>
              try rw [e9.out.2]
              try rw [show q + 1 + (k - q) = k + 1 from by omega]
              exact ⟨k + 1, _, a55, c55, by omega, by go_num, rfl, hc5, hst2, A7, hB5⟩
            case measure => simp [intOf]; omega
    · obtain rfl : k = N := by omega
      clear hD
      go_wp2_with fail
      go_ret
      exact ⟨_, O, rfl, by rw [hN]; exact hU.out, by rw [hU.out.len]; exact hR.out, hB.out⟩
end Go.Proofs.YthdohimjcjkneaaGreatDoor

namespace Go.Proofs.YthdohimjcjkneaaGreatDoor
open Go.ChangeShapes Go.WideShapes Go.ChangeAt Go.RowKit
set_option linter.unusedVariables false
set_option linter.unusedSimpArgs false

/-- A list of numbers in memory. -/
structure NC (w : World) (x : Option Addr) (l : List Nat) : Prop where
  cell : ∀ (i : Nat) (hi : i < l.length), ∃ b o, x = some ⟨b, o, none⟩ ∧ w.cell? ⟨b, o + i, none⟩ = some (.int .u64 ((l[i] : Nat) : Int))
theorem NC.keep {w w' : World} {x : Option Addr} {l : List Nat} (h : NC w x l) (hb : Below w.heap.size w w') : NC w' x l := ⟨fun i hi => by
  obtain ⟨b, o, h1, h2⟩ := h.cell i hi
  exact ⟨b, o, h1, by rw [hb.cell (cell_lt h2)]; exact h2⟩⟩
theorem NC.own {w : World} {base n cap : Nat} {x : Option Addr} {l : List Nat} (h : w.ownsRow base 36 1 (.slice x n cap) l.length (fcl l)) : NC w x l := ⟨fun i hi => by
  obtain ⟨b, o, c, hv, -, -, -, -, hc, -⟩ := own_cells h (by omega)
  simp only [Value.slice.injEq] at hv
  exact ⟨b, o, hv.1, hc i _ (by unfold fcl; rw [List.getElem?_map, List.getElem?_eq_getElem hi]; rfl)⟩⟩

theorem map_neq (f t : Nat) (p : Int) (h : Bool) (w : World) :
    (binOp .neq 38 (.agg #[.int .u64 (f : Int), .int .u64 (t : Int), .int .i64 p, .bool h]) (.agg #[.int .u64 (f : Int), .int .u64 (t : Int), .int .i64 p, .bool h])).run Tryz.prog w = .ok (.bool false) w := by
  cases h <;> simp [go_sem]

set_option maxRecDepth 100000 in
set_option maxHeartbeats 2000000 in
theorem SameFrames_yes (x1 x2 : Option Addr) (c1 c2 : Nat) (l : List Nat) (w : World) (hl : l.length ≤ 100000) (h1 : NC w x1 l) (h2 : NC w x2 l) :
    Calls Tryz.prog 23 #[.slice x1 l.length c1, .slice x2 l.length c2] w fun e w' => e = .returned (.bool true) ∧ Below w.heap.size w w' := by
  have H1 := W_hid h1
  have H2 := W_hid h2
  obtain ⟨N, hN⟩ : ∃ N, l.length = N := ⟨_, rfl⟩
  rw [hN] at hl ⊢
  replace hN := W_hid hN
  have he : ((N : Int) != (N : Int)) = false := by simp
  clear h1 h2
  go_enter Tryz.func23, Tryz.ntmps23
  go_wp2
  go_loopw [5] (fun i wr => ∃ k : Nat, k ≤ N ∧ i = .int .i64 k ∧ Below w.heap.size w wr) (fun i _ => N - (intOf i).toNat)
  case atStart => exact ⟨0, Nat.zero_le _, rfl, Below.refl _ _⟩
  case round =>
    obtain ⟨k, hk, rfl, bel⟩ := hrel
    by_cases hlt : k < N
    · have hkl : k < l.length := by rw [hN.out]; exact hlt
      obtain ⟨b1, o1, rfl, g1⟩ := (H1.out.keep bel).cell k hkl
      obtain ⟨b2, o2, rfl, g2⟩ := (H2.out.keep bel).cell k hkl
      obtain ⟨v, hv⟩ : ∃ v, l[k] = v := ⟨_, rfl⟩
      rw [hv] at g1 g2
      have hq : ((v : Int) != (v : Int)) = false := by simp
      clear hv hkl
      go_wp2
      go_quiet (fail)
      go_wp2
      go_roundw
      case rel => exact ⟨k + 1, by omega, by go_num, below_drewN bel _⟩
      case measure => simp [intOf]; omega
    · obtain rfl : k = N := by omega
      go_wp2
      go_ret
      exact ⟨rfl, bel⟩

set_option maxRecDepth 100000 in
set_option maxHeartbeats 2000000 in
theorem RadSame_yes (v1 v2 : Value) (B1 B2 : Nat) (L : List RX.Pg) (w : World) (hl : L.length ≤ 100000) (h1 : w.ownsRow B1 38 4 v1 L.length (pcl L)) (h2 : w.ownsRow B2 38 4 v2 L.length (pcl L)) :
    Calls Tryz.prog 21 #[v1, v2] w fun e w' => e = .returned (.bool true) ∧ Below w.heap.size w w' := by
  obtain ⟨x1, c1, rfl, hc1, hm1⟩ := own_lens h1
  obtain ⟨x2, c2, rfl, hc2, hm2⟩ := own_lens h2
  have key : ∀ {B : Nat} {x : Option Addr} {c : Nat} (h : w.ownsRow B 38 4 (.slice x L.length c) L.length (pcl L)) (i : Nat) (hi : i < L.length), ∃ b o, x = some ⟨b, o, none⟩ ∧
      w.cell? ⟨b, o + i * 4, none⟩ = some (.int .u64 (L[i].1 : Int)) ∧ w.cell? ⟨b, o + i * 4 + 1, none⟩ = some (.int .u64 (L[i].2.1 : Int)) ∧ w.cell? ⟨b, o + i * 4 + 2, none⟩ = some (.int .i64 L[i].2.2.1) ∧ w.cell? ⟨b, o + i * 4 + 3, none⟩ = some (.bool L[i].2.2.2) := fun h i hi => by
    obtain ⟨b, o, cap, hv, -, -, -, -, hc, -⟩ := own_cells h (by omega)
    have kk : ∀ m v, m < 4 → (pgc L[i])[m]? = some v → w.cell? ⟨b, o + (i * 4 + m), none⟩ = some v := fun m v hm hv => hc _ _ ((flat_get pgc 4 pgc_len L i m hi hm).trans hv)
    simp only [Value.slice.injEq] at hv
    exact ⟨b, o, hv.1, kk 0 _ (by omega) rfl, kk 1 _ (by omega) rfl, kk 2 _ (by omega) rfl, kk 3 _ (by omega) rfl⟩
  have H1 := W_hid (key h1)
  have H2 := W_hid (key h2)
  obtain ⟨N, hN⟩ : ∃ N, L.length = N := ⟨_, rfl⟩
  rw [hN] at hl hc1 hc2 ⊢
  replace hN := W_hid hN
  have he : ((N : Int) != (N : Int)) = false := by simp
  clear h1 h2 key
  go_enter Tryz.func21, Tryz.ntmps21
  go_wp2
  go_loopw [5] (fun i wr => ∃ k : Nat, k ≤ N ∧ i = .int .i64 k ∧ Below w.heap.size w wr) (fun i _ => N - (intOf i).toNat)
  case atStart => exact ⟨0, Nat.zero_le _, rfl, Below.refl _ _⟩
  case round =>
    obtain ⟨k, hk, rfl, bel⟩ := hrel
    by_cases hlt : k < N
    · have hkl : k < L.length := by rw [hN.out]; exact hlt
      obtain ⟨b1, o1, rfl, g0, g1, g2, g3⟩ := H1.out k hkl
      obtain ⟨b2, o2, rfl, k0, k1, k2, k3⟩ := H2.out k hkl
      have i0 := cell_keep bel rfl g0
      have i1 := cell_keep bel rfl g1
      have i2 := cell_keep bel rfl g2
      have i3 := cell_keep bel rfl g3
      have j0 := cell_keep bel rfl k0
      have j1 := cell_keep bel rfl k1
      have j2 := cell_keep bel rfl k2
      have j3 := cell_keep bel rfl k3
      generalize L[k] = x at *
      obtain ⟨va, f, p, h⟩ := x
      simp only at i0 i1 i2 i3 j0 j1 j2 j3
      have hq := map_neq va f p h
      clear g0 g1 g2 g3 k0 k1 k2 k3 hkl
      go_wp2
      go_quiet (fail)
      go_wp2
      go_roundw
      case rel => exact ⟨k + 1, by omega, by go_num, below_drewN bel _⟩
      case measure => simp [intOf]; omega
    · obtain rfl : k = N := by omega
      go_wp2
      go_ret
      exact ⟨rfl, bel⟩
end Go.Proofs.YthdohimjcjkneaaGreatDoor

/- Contract of package sched: Lot. -/
import Derived.Test.YtmikgkelmdgckaaSchShr
import Derived.Test.YtmikgkelmdgckaaSchRun
namespace Go.Proofs.Ytmikgkelmdgckaa
open Go.ChangeShapes Go.WideShapes Go.ChangeAt Go.RowKit
set_option linter.unusedVariables false
set_option linter.unusedSimpArgs false
set_option maxRecDepth 100000
namespace SD
open IN (Keeps lt_of_some)
open FM (one)
section
variable {base : Nat} {w : World} {qb : Nat} {S : Qs} {X : Nat → Prop} {c : Nat}
set_option maxRecDepth 100000 in
set_option maxHeartbeats 8000000 in
theorem Lot_any (h : QW base w qb S X) (hG : Good c S) (hc : c ≤ 900) (b : Nat) (hb : b < 18446744073709551616) : Calls Try.prog 37 #[ptr qb, .float .f64 b] w fun e w' => e = .returned (.tuple #[.int .i64 (lotR S b).1.1, .int .i64 (lotR S b).1.2]) ∧ QO base w qb (lotR S b).2 X w' := by
  have hid := W_hid (fun w' (hb : Below w.heap.size w w') => h.same hb)
  obtain ⟨nb, vr, vl, hM, hX⟩ := h
  have hlen : S.P.length ≤ 60000 := by have := hG.len; omega
  have hrl : (rl S.P).length ≤ 900 := by have := rl_len S.P; have := hG.len; omega
  have cQ := W_hid (qnone_no hM)
  obtain ⟨g1, g2, hg1, hg2, hcs⟩ := part_lot b hb
  rcases hcs with ⟨rfl, hpk⟩ | ⟨rfl, rfl, hpk⟩ | ⟨rfl, rfl, hpk⟩
  · rw [show lotR S b = ((0, 2), S) by unfold lotR; rw [if_pos hpk]]
    clear hM hX hpk
    go_enter Try.func37, Try.ntmps37
    go_wp2_with (go_at_call 14; refine cQ.out.mono ?_; rintro e w' ⟨rfl, rfl⟩)
    go_ret2
    exact ⟨rfl, hid.out _ (Below.refl _ _)⟩
  · rw [show lotR S b = ((0, 2), S) by unfold lotR; rw [if_pos hpk]]
    clear hM hX hpk
    go_enter Try.func37, Try.ntmps37
    go_wp2_with (go_at_call 14; refine cQ.out.mono ?_; rintro e w' ⟨rfl, rfl⟩)
    go_ret2
    exact ⟨rfl, hid.out _ (Below.refl _ _)⟩
  have hw := W_hid (weights_any hM hlen hG.nice)
  by_cases h0 : (rl S.P).length = 0
  · rw [show lotR S b = ((0, 25), S) by unfold lotR; rw [hpk, if_neg (by simp), if_pos h0]]
    have hsl : Hid (∀ (w2 : World) (vp : Value), w2.ownsRow w.heap.size TI 1 vp (rl S.P).length (icl (rpid S.P)) → ∃ ao cap, vp = .slice ao 0 cap) := W_hid fun w2 vp ho => by
      obtain ⟨ao, cap, h1, -⟩ := list_at ho
      exact ⟨ao, cap, by rw [h1, h0]⟩
    clear hM hX hpk h0
    go_enter Try.func37, Try.ntmps37
    go_wp2_with (first
      | (go_at_call 14; refine cQ.out.mono ?_; rintro e w' ⟨rfl, rfl⟩)
      | (go_at_call 16; refine hw.out.mono ?_; rintro e w2 ⟨vp, vo, rfl, hp, ho, hb2⟩; obtain ⟨ao, cap, rfl⟩ := hsl.out _ _ hp; replace hp := W_hid hp; replace ho := W_hid ho; replace hb2 := W_hid hb2))
    go_ret2
    exact ⟨rfl, hid.out _ hb2.out⟩
  have hne : wl S.P ≠ [] := by intro e; exact h0 (by rw [← wl_len, e]; rfl)
  have hok : okW (wl S.P) = true := okW_of hne (by rw [wl_len]; omega) (wl_range hG.nice)
  have hI : lotI S b < (rl S.P).length := by have := pick_lt (b := prod b (sums (wl S.P))) hne; rw [wl_len] at this; exact this
  have hIp : lotI S b < (rpid S.P).length := by rw [rpid_len]; exact hI
  have hch : chooseR b (wl S.P) = (((lotI S b : Nat) : Int), 0) := by unfold chooseR; rw [if_pos ⟨hok, hpk⟩]; rfl
  rw [show lotR S b = (((rpid S.P)[lotI S b]?.getD 0, 0), ⟨runP S.P ((rpid S.P)[lotI S b]?.getD 0), S.L⟩) by unfold lotR; rw [hpk, if_neg (by simp), if_neg h0]]
  rw [List.getElem?_eq_getElem hIp]
  simp only [Option.getD_some]
  obtain ⟨q, hq⟩ : ∃ q, (rpid S.P)[lotI S b] = q := ⟨_, rfl⟩
  rw [hq]
  have hsl : Hid (∀ (w2 : World) (vp vo : Value), Below w.heap.size w w2 → w2.ownsRow w.heap.size TI 1 vp (rl S.P).length (icl (rpid S.P)) → w2.ownsRow w.heap.size TF 1 vo (rl S.P).length (fcel (wl S.P)) → ∃ g n cap, vp = .slice (some ⟨g, 0, none⟩) n cap ∧ (lotI S b : Int) < (n : Int) ∧ n ≤ 900 ∧ n ≤ cap ∧ cap ≤ 9223372036854775807 ∧
      Calls Try.prog 59 #[.float .f64 b, vo] w2 fun e w3 => e = .returned (.tuple #[.int .i64 (lotI S b : Nat), .int .i64 0]) ∧ w3.cell? ⟨g, lotI S b, none⟩ = some (.int .i64 q) ∧
      Calls Try.prog 25 #[ptr qb, .int .i64 q] w3 fun e w4 => e = .returned (.tuple #[]) ∧ w4.cell? ⟨g, lotI S b, none⟩ = some (.int .i64 q) ∧ QO base w qb ⟨runP S.P q, S.L⟩ X w4) := W_hid fun w2 vp vo b2 hp ho => by
    obtain ⟨ao, cap, rfl, hl, hat⟩ := list_at hp
    obtain ⟨g, rfl, h2, h3, h4, -⟩ := hat _ hIp
    rw [hq] at h2
    refine ⟨g, _, cap, rfl, by omega, hrl, h3, h4, ?_⟩
    obtain ⟨a1, c1, rfl, hfs⟩ := fsl_of ho (wl_len _) fun x hx => by have := (wl_range hG.nice x hx).2; unfold p2 at this; omega
    have cC := choose_any b hb a1 _ c1 _ w2 hfs
    rw [hch] at cC
    refine cC.mono ?_
    rintro e w3 ⟨rfl, b3⟩
    have b03 := b2.trans (bel_mono b3 b2.size)
    have hp3 := Own.low (Nat.le_refl _) hp
    have hgl : g < w2.heap.size := World.block_lt_of_cell? w2 _ h2
    have k3 : w3.cell? ⟨g, lotI S b, none⟩ = some (.int .i64 q) := by rw [b3.cell hgl]; exact h2
    have hgw : w.heap.size ≤ g := by
      obtain ⟨hz, hz2⟩ | ⟨g', cap', cur', e', hb', -⟩ := hp.2
      · cases hz
      · cases e'; exact hb'
    refine ⟨rfl, k3, (run_any (hM.keep b03) hlen hG.load q).mono ?_⟩
    rintro e w4 ⟨rfl, h5, h6⟩
    refine ⟨rfl, ?_, QO.of hX h5 (fun k _ => lsts_run q S.L k) ((Keeps.new b03 hM.base_le).trans h6) fun k hk => .inl hk⟩
    have hgX : ¬ QX qb nb vr vl g := fun hk => absurd (hM.tlt _ hk) (by omega)
    have := h6.block g _ (Array.getElem?_eq_getElem (Nat.lt_of_lt_of_le hgl b3.size)) hgX
    rw [← k3]
    unfold World.cell?
    simp only [this, Array.getElem?_eq_getElem (Nat.lt_of_lt_of_le hgl b3.size)]
  obtain ⟨I, hII⟩ : ∃ I, lotI S b = I := ⟨_, rfl⟩
  rw [hII] at hsl
  clear hM hX hpk h0 hne hok hI hIp hch hq hII
  go_enter Try.func37, Try.ntmps37
  go_wp2_with (first
    | (go_at_call 14; refine cQ.out.mono ?_; rintro e w' ⟨rfl, rfl⟩)
    | (go_at_call 16; refine hw.out.mono ?_; rintro e w2 ⟨vp, vo, rfl, hp, ho, hb2⟩; obtain ⟨g, n, cap, rfl, y1, y2, y3, y4, cC⟩ := hsl.out _ _ _ hb2 hp ho; have cC := W_hid cC; replace hp := W_hid hp; replace ho := W_hid ho; replace hb2 := W_hid hb2)
    | (go_at_call 59; refine cC.out.mono ?_; rintro e w3 ⟨rfl, y5, cR⟩; have cR := W_hid cR)
    | (go_at_call 25; refine cR.out.mono ?_; rintro e w4 ⟨rfl, y6, hO⟩; have hO := W_hid hO))
  go_ret2
  exact ⟨rfl, hO.out⟩
end
end SD
end Go.Proofs.Ytmikgkelmdgckaa

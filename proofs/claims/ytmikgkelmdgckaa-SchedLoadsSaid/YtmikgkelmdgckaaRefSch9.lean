/- The document's Next, Lot, Share. -/
import Derived.Test.YtmikgkelmdgckaaRefSch8
import Derived.Test.YtmikgkelmdgckaaSchNext
namespace Go.Proofs.Ytmikgkelmdgckaa
open Go.ChangeShapes Go.WideShapes Go.ChangeAt Go.RowKit
set_option linter.unusedVariables false
set_option linter.unusedSimpArgs false
set_option maxRecDepth 100000
namespace SD
open IN (Keeps lt_of_some)
open FM (one)
theorem keeps_cell {B : Nat} {X : Nat → Prop} {w w' : World} {a : Addr} {v : Value} (hK : Keeps B (fun k _ => X k) w w') (hc : w.cell? a = some v) (hX : ¬ X a.block) : w'.cell? a = some v := by
  have hlt := World.block_lt_of_cell? w _ hc
  have := hK.block a.block _ (Array.getElem?_eq_getElem hlt) hX
  rw [World.cell?_of_block (this.trans (Array.getElem?_eq_getElem hlt).symm)]
  exact hc
section
variable {base : Nat} {w : World} {rb : Nat} {S : Qs} {Y : Nat → Prop} {c : Nat}
set_option maxRecDepth 100000 in
set_option maxHeartbeats 4000000 in
theorem rNext_any (h : DW base w rb S Y) (hG : Good c S) (hc : c ≤ 50000) : Calls Try.prog 35 #[ptr rb] w fun e w' => e = .returned (.tuple #[.int .i64 (nextR S).1.1, .int .i64 (nextR S).1.2]) ∧ DO base w rb (nextR S).2 Y w' := by
  have hid := W_hid (fun w' (hb : Below w.heap.size w w') => h.same hb)
  have cR := W_hid (rReady_any h hG hc)
  obtain ⟨vp, vl, hM, hY⟩ := h
  have hlen : S.P.length ≤ 60000 := by have := hG.len; omega
  have hll : S.L.length ≤ 60000 := by have := hG.llen; omega
  cases hr : ready S with
  | nil =>
    rw [show nextR S = ((0, 25), S) by unfold nextR; rw [hr]]
    rw [hr] at cR
    have hsl : Hid (∀ (w2 : World) (v : Value), w2.ownsRow w.heap.size TI 1 v ([] : List Int).length (icl []) → ∃ ao cap, v = .slice ao 0 cap) := W_hid fun w2 v ho => by
      obtain ⟨ao, cap, h1, -⟩ := list_at ho
      exact ⟨ao, cap, h1⟩
    clear hM hY hr
    go_enter Try.func35, Try.ntmps35
    go_wp2_with (go_at_call 57; refine cR.out.mono ?_; rintro e w1 ⟨v, rfl, ho, hb⟩; obtain ⟨ao, cap, rfl⟩ := hsl.out _ _ ho; replace ho := W_hid ho; replace hb := W_hid hb)
    go_ret2
    exact ⟨rfl, hid.out _ hb.out⟩
  | cons p t =>
    have hnR : nextR S = ((p, 0), ⟨runP S.P p, off S.L p ++ [p]⟩) := by unfold nextR; rw [hr]
    rw [hnR]
    rw [hr] at cR
    have hnx : Hid (∀ (w1 : World) (v : Value), Below w.heap.size w w1 → w1.ownsRow w.heap.size TI 1 v (p :: t).length (icl (p :: t)) → ∃ g n cap, v = .slice (some ⟨g, 0, none⟩) n cap ∧ (0 : Int) < (n : Int) ∧ ¬ (n : Int) = 0 ∧ n ≤ cap ∧ cap ≤ 9223372036854775807 ∧ w1.cell? ⟨g, 0, none⟩ = some (.int .i64 p) ∧
        Calls Try.prog 58 #[ptr rb, .int .i64 p] w1 fun e w2 => e = .returned (.tuple #[]) ∧ w2.cell? ⟨g, 0, none⟩ = some (.int .i64 p) ∧
        Calls Try.prog 53 #[ptr rb, .int .i64 p] w2 fun e w3 => e = .returned (.tuple #[]) ∧ w3.cell? ⟨g, 0, none⟩ = some (.int .i64 p) ∧ DO base w rb ⟨runP S.P p, off S.L p ++ [p]⟩ Y w3) := W_hid fun w1 v hb ho => by
      obtain ⟨ao, cap, rfl, hl, hat⟩ := list_at ho
      obtain ⟨g, rfl, h2, h3, h4, -⟩ := hat 0 (by simp)
      have h2 : w1.cell? ⟨g, 0, none⟩ = some (.int .i64 p) := h2
      have hgw : w.heap.size ≤ g := Own.ge ho g rfl
      have hgX : ¬ DX rb vp vl g := fun hk => absurd (hM.tlt _ hk) (by omega)
      have hM1 := hM.keep hb
      refine ⟨g, _, cap, rfl, by simp, by simp; omega, h3, h4, h2, (rruns_any hM1 hlen hG.load p).mono ?_⟩
      rintro e w2 ⟨rfl, hM2, hK2⟩
      refine ⟨rfl, keeps_cell hK2 h2 hgX, (rlast_any p hM2 hll).mono ?_⟩
      rintro e w3 ⟨rfl, vl', k1, k2, k3⟩
      exact ⟨rfl, keeps_cell k2 (keeps_cell hK2 h2 hgX) hgX, DO.of hY k1 ((Keeps.new hb hM.base_le).trans (hK2.trans k2)) fun k hk => (k3 k hk).imp_right fun h => Nat.le_trans hb.size (Nat.le_trans hK2.size h)⟩
    clear hM hY hr hnR
    go_enter Try.func35, Try.ntmps35
    go_wp2_with (first
      | (go_at_call 57; refine cR.out.mono ?_; rintro e w1 ⟨v, rfl, ho, hb⟩; obtain ⟨g, n, cap, rfl, q1, q2, q3, q4, y1, cU⟩ := hnx.out _ _ hb ho; have cU := W_hid cU; replace ho := W_hid ho; replace hb := W_hid hb)
      | (go_at_call 58; refine cU.out.mono ?_; rintro e w2 ⟨rfl, y2, cV⟩; have cV := W_hid cV)
      | (go_at_call 53; refine cV.out.mono ?_; rintro e w3 ⟨rfl, y3, hO⟩; have hO := W_hid hO))
    go_ret2
    exact ⟨rfl, hO.out⟩
set_option maxRecDepth 100000 in
set_option maxHeartbeats 8000000 in
theorem rLot_any (h : DW base w rb S Y) (hG : Good c S) (hc : c ≤ 900) (b : Nat) (hb : b < 18446744073709551616) : Calls Try.prog 38 #[ptr rb, .float .f64 b] w fun e w' => e = .returned (.tuple #[.int .i64 (lotR S b).1.1, .int .i64 (lotR S b).1.2]) ∧ DO base w rb (lotR S b).2 Y w' := by
  have hid := W_hid (fun w' (hb : Below w.heap.size w w') => h.same hb)
  obtain ⟨vp, vl, hM, hY⟩ := h
  have hlen : S.P.length ≤ 60000 := by have := hG.len; omega
  have hrl : (rl S.P).length ≤ 900 := by have := rl_len S.P; have := hG.len; omega
  have cC := W_hid (fun w => rclass_any b hb w)
  obtain ⟨k, g1, hk, hg1, hcs⟩ := part_ways b hb
  rw [hk] at cC
  have hbad : partOK b = false → (k < 3 ∨ 5 < k ∨ (3 ≤ k ∧ k ≤ 5 ∧ g1 = true)) := by
    intro hf
    rcases hcs with ⟨h1, -⟩ | ⟨h1, -⟩ | ⟨h1, h2, h3, -⟩ | ⟨-, -, -, h4⟩
    · exact .inl h1
    · exact .inr (.inl h1)
    · exact .inr (.inr ⟨h1, h2, h3⟩)
    · rw [hf] at h4; cases h4
  have hgood : partOK b = true → 3 ≤ k ∧ k ≤ 5 ∧ g1 = false := by
    intro hf
    rcases hcs with ⟨-, h1⟩ | ⟨-, h1⟩ | ⟨-, -, -, h1⟩ | ⟨h1, h2, h3, -⟩
    · rw [hf] at h1; cases h1
    · rw [hf] at h1; cases h1
    · rw [hf] at h1; cases h1
    · exact ⟨h1, h2, h3⟩
  clear hcs hk
  cases hpk : partOK b with
  | false =>
    rw [show lotR S b = ((0, 2), S) by unfold lotR; rw [if_pos hpk]]
    have hbad := hbad hpk
    clear hM hY hpk hgood
    rcases hbad with h1 | h1 | ⟨h1, h2, rfl⟩
    · have h1' : (k : Int) < 3 := by omega
      go_enter Try.func38, Try.ntmps38
      go_wp2_with (go_at_call 60; refine (cC.out _).mono ?_; rintro e w' ⟨rfl, rfl⟩)
      go_ret2
      exact ⟨rfl, hid.out _ (Below.refl _ _)⟩
    · have h1' : ¬ (k : Int) < 3 := by omega
      have h2' : (5 : Int) < (k : Int) := by omega
      go_enter Try.func38, Try.ntmps38
      go_wp2_with (go_at_call 60; refine (cC.out _).mono ?_; rintro e w' ⟨rfl, rfl⟩)
      go_ret2
      exact ⟨rfl, hid.out _ (Below.refl _ _)⟩
    · have h1' : ¬ (k : Int) < 3 := by omega
      have h2' : ¬ (5 : Int) < (k : Int) := by omega
      go_enter Try.func38, Try.ntmps38
      go_wp2_with (go_at_call 60; refine (cC.out _).mono ?_; rintro e w' ⟨rfl, rfl⟩)
      go_ret2
      exact ⟨rfl, hid.out _ (Below.refl _ _)⟩
  | true =>
  obtain ⟨hk3, hk5, rfl⟩ := hgood hpk
  have h1' : ¬ (k : Int) < 3 := by omega
  have h2' : ¬ (5 : Int) < (k : Int) := by omega
  clear hbad hgood
  have hw := W_hid (rweights_any hM hlen hG.nice)
  by_cases h0 : (rl S.P).length = 0
  · rw [show lotR S b = ((0, 25), S) by unfold lotR; rw [hpk, if_neg (by simp), if_pos h0]]
    have hsl : Hid (∀ (w2 : World) (vp : Value), w2.ownsRow w.heap.size TI 1 vp (rl S.P).length (icl (rpid S.P)) → ∃ ao cap, vp = .slice ao 0 cap) := W_hid fun w2 vp ho => by
      obtain ⟨ao, cap, h1, -⟩ := list_at ho
      exact ⟨ao, cap, by rw [h1, h0]⟩
    clear hM hY hpk h0
    go_enter Try.func38, Try.ntmps38
    go_wp2_with (first
      | (go_at_call 60; refine (cC.out _).mono ?_; rintro e w' ⟨rfl, rfl⟩)
      | (go_at_call 61; refine hw.out.mono ?_; rintro e w2 ⟨vp, vo, rfl, hp, ho, hb2⟩; obtain ⟨ao, cap, rfl⟩ := hsl.out _ _ hp; replace hp := W_hid hp; replace ho := W_hid ho; replace hb2 := W_hid hb2))
    go_ret2
    exact ⟨rfl, hid.out _ hb2.out⟩
  have hne : wl S.P ≠ [] := by intro e; exact h0 (by rw [← wl_len, e]; rfl)
  have hok : okW (wl S.P) = true := okW_of hne (by rw [wl_len]; omega) (wl_range hG.nice)
  have hI : lotI S b < (rl S.P).length := by have := pick_lt (b := prod b (sums (wl S.P))) hne; rw [wl_len] at this; exact this
  have hIp : lotI S b < (rpid S.P).length := by rw [rpid_len]; exact hI
  have hch : chooseR b (wl S.P) = (((lotI S b : Nat) : Int), 0) := by unfold chooseR; rw [if_pos ⟨hok, hpk⟩]; rfl
  rw [show lotR S b = (((rpid S.P)[lotI S b]?.getD 0, 0), ⟨runP S.P ((rpid S.P)[lotI S b]?.getD 0), S.L⟩) by unfold lotR; rw [hpk, if_neg (by simp), if_neg h0]]
  rw [List.getElem?_eq_getElem hIp]
  simp only [Option.getD_some]
  obtain ⟨q, hq⟩ : ∃ q, (rpid S.P)[lotI S b] = q := ⟨_, rfl⟩
  rw [hq]
  have hsl : Hid (∀ (w2 : World) (v1 v2 : Value), Below w.heap.size w w2 → w2.ownsRow w.heap.size TI 1 v1 (rl S.P).length (icl (rpid S.P)) → w2.ownsRow w.heap.size TF 1 v2 (rl S.P).length (fcel (wl S.P)) → ∃ g n cap, v1 = .slice (some ⟨g, 0, none⟩) n cap ∧ (lotI S b : Int) < (n : Int) ∧ ¬ (n : Int) = 0 ∧ n ≤ cap ∧ cap ≤ 9223372036854775807 ∧
      Calls Try.prog 62 #[.float .f64 b, v2] w2 fun e w3 => e = .returned (.tuple #[.int .i64 (lotI S b : Nat), .int .i64 0]) ∧ w3.cell? ⟨g, lotI S b, none⟩ = some (.int .i64 q) ∧
      Calls Try.prog 58 #[ptr rb, .int .i64 q] w3 fun e w4 => e = .returned (.tuple #[]) ∧ w4.cell? ⟨g, lotI S b, none⟩ = some (.int .i64 q) ∧ DO base w rb ⟨runP S.P q, S.L⟩ Y w4) := W_hid fun w2 v1 v2 b2 hp ho => by
    obtain ⟨ao, cap, rfl, hl, hat⟩ := list_at hp
    obtain ⟨g, rfl, h2, h3, h4, -⟩ := hat _ hIp
    rw [hq] at h2
    refine ⟨g, _, cap, rfl, by omega, by omega, h3, h4, ?_⟩
    obtain ⟨a1, c1, rfl, hfs⟩ := fsl_of ho (wl_len _) fun x hx => by have := (wl_range hG.nice x hx).2; unfold p2 at this; omega
    have cC := rchoose_any b hb a1 _ c1 _ w2 hfs
    rw [hch] at cC
    refine cC.mono ?_
    rintro e w3 ⟨rfl, b3⟩
    have b03 := b2.trans (bel_mono b3 b2.size)
    have hgl : g < w2.heap.size := World.block_lt_of_cell? w2 _ h2
    have k3 : w3.cell? ⟨g, lotI S b, none⟩ = some (.int .i64 q) := by rw [b3.cell hgl]; exact h2
    have hgw : w.heap.size ≤ g := Own.ge hp g rfl
    have hgX : ¬ DX rb vp vl g := fun hk => absurd (hM.tlt _ hk) (by omega)
    refine ⟨rfl, k3, (rruns_any (hM.keep b03) hlen hG.load q).mono ?_⟩
    rintro e w4 ⟨rfl, h5, h6⟩
    exact ⟨rfl, keeps_cell h6 k3 hgX, DO.of hY h5 ((Keeps.new b03 hM.base_le).trans h6) fun k hk => .inl hk⟩
  obtain ⟨I, hII⟩ : ∃ I, lotI S b = I := ⟨_, rfl⟩
  rw [hII] at hsl
  clear hM hY hpk h0 hne hok hI hIp hch hq hII
  go_enter Try.func38, Try.ntmps38
  go_wp2_with (first
    | (go_at_call 60; refine (cC.out _).mono ?_; rintro e w' ⟨rfl, rfl⟩)
    | (go_at_call 61; refine hw.out.mono ?_; rintro e w2 ⟨v1, v2, rfl, hp, ho, hb2⟩; obtain ⟨g, n, cap, rfl, y1, y2, y3, y4, cH⟩ := hsl.out _ _ _ hb2 hp ho; have cH := W_hid cH; replace hp := W_hid hp; replace ho := W_hid ho; replace hb2 := W_hid hb2)
    | (go_at_call 62; refine cH.out.mono ?_; rintro e w3 ⟨rfl, y5, cR⟩; have cR := W_hid cR)
    | (go_at_call 58; refine cR.out.mono ?_; rintro e w4 ⟨rfl, y6, hO⟩; have hO := W_hid hO))
  go_ret2
  exact ⟨rfl, hO.out⟩
end
end SD
end Go.Proofs.Ytmikgkelmdgckaa

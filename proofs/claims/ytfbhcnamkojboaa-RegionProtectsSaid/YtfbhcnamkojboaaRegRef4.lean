/- The document's one, joined. -/
import Derived.Test.YtfbhcnamkojboaaRegRef3
namespace Go.Proofs.Ytfbhcnamkojboaa
open Go.ChangeShapes Go.WideShapes Go.ChangeAt Go.RowKit
open SQ
set_option linter.unusedVariables false
set_option linter.unusedSimpArgs false
open RG (Rg)

set_option maxRecDepth 100000 in
set_option maxHeartbeats 8000000 in
theorem rone_any (ao : Option Addr) (n cap : Nat) (l : List Rg) (w : World) (h : GL w ao n cap l) (hlen : l.length ≤ 137438953472) :
    GvL 39 #[.slice ao n cap] (RG.one l) w := by
  have hn : n ≤ 137438953472 := by rw [← h.1.1]; exact hlen
  have L := W_hid h.1.1
  have H := W_hid h
  have hpl : Hid (∀ k, k ≤ n → ((l.take k).foldl RG.push []).length ≤ k) := fun k hk => by
    have h1 := push_len (l.take k) []
    have h2 := List.length_take_le k l
    simp only [List.length_nil] at h1
    omega
  have hone : Hid (RG.one l = l.foldl RG.push []) := rfl
  clear h hlen
  unfold GvL
  go_enter Try.func39, Try.ntmps39
  go_wp2_with fail
  go_loopw [3, 4] (fun o i wr => ∃ (k : Nat) (O : List Rg), k ≤ n ∧ i = .int .i64 k ∧ Hid (O = (l.take k).foldl RG.push []) ∧ Hid (wr.ownsRow w.heap.size 25 4 o O.length (rcl O)) ∧ Below w.heap.size w wr) (fun _ i _ => n - (intOf i).toNat)
  case atStart => exact ⟨0, [], Nat.zero_le _, rfl, rfl, World.ownsRow_nil _ _ _ _, Below.refl _ _⟩
  case round =>
    obtain ⟨k, O, hk, rfl, hO, hown, bel⟩ := hrel
    by_cases hlt : k < n
    · obtain ⟨b1, o1, rfl, hb1, g1⟩ := (H.out.1.below bel (Nat.le_refl _)).at_ (by omega)
      have hbl := H.out.2 _ rfl (by omega)
      have k1 : k < l.length := by rw [L.out]; exact hlt
      have hX := g1 k hlt
      have hT : l.take (k + 1) = l.take k ++ [l[k]] := rtake l k k1
      have hnx : (l.take (k + 1)).foldl RG.push [] = RG.push O l[k] := by rw [hT, List.foldl_append, ← hO.out]; rfl
      have hol : O.length ≤ k := by rw [hO.out]; exact hpl.out k hk
      obtain ⟨⟨f, t, p, s⟩, hx⟩ : ∃ x, l[k] = x := ⟨_, rfl⟩
      rw [hx] at hX hnx
      obtain ⟨x0, x1, x2, x3⟩ := hX
      replace hnx := W_hid hnx
      clear hO hT hx g1
      simp only [Nat.zero_le] at hbl
      rcases List.eq_nil_or_concat O with rfl | ⟨L', ⟨f', t', p', s'⟩, rfl⟩
      · rw [RG.push_nil] at hnx
        obtain ⟨va, vc, rfl⟩ := Own.form hown.out
        simp only [List.length_nil] at hown
        go_wp2
        go_quiet (fail)
        obtain ⟨W, hW⟩ : ∃ W, wr.drewN nq = W := ⟨_, rfl⟩
        have belW : Below w.heap.size w W := by rw [← hW]; exact below_drewN bel nq
        have hownW : Hid (W.ownsRow w.heap.size 25 4 (.slice va 0 vc) 0 (rcl [])) := by rw [← hW]; exact hown
        have z0 : W.cell? ⟨b1, o1 + k * 4, none⟩ = some (.int .u64 (f : Int)) := by rw [← hW]; exact x0
        have z1 : W.cell? ⟨b1, o1 + k * 4 + 1, none⟩ = some (.int .u64 (t : Int)) := by rw [← hW]; exact x1
        have z2 : W.cell? ⟨b1, o1 + k * 4 + 2, none⟩ = some (.int .i64 p) := by rw [← hW]; exact x2
        have z3 : W.cell? ⟨b1, o1 + k * 4 + 3, none⟩ = some (.int .i64 s) := by rw [← hW]; exact x3
        have b4 := belW.alloc belW.size (.cells #[.int .u64 (f : Int), .int .u64 (t : Int), .int .i64 p, .int .i64 s] 25)
        rw [hW]
        clear hW bel hown x0 x1 x2 x3 belW
        go_wp2_with (at_builtin; apply Hid.out)
        refine W_hid ?_
        refine Own.wpList_app rfl (.tmp 68) (.tmp 73) 22 rfl Try.underlying22 reg_info _ _ rfl rfl (hownW.out.alloc _) b4.size (.inr ⟨_, _, rfl, rfl, four_new _ _ _ _ _ _ _⟩) (by intro u hu; simp only [List.mem_cons, List.not_mem_nil, or_false] at hu; rcases hu with rfl | rfl | rfl | rfl <;> rfl) (by unfold maxLen; omega) (by omega) ?_
        intro v' w3 hown3 hg3 _
        have b5 := b4.grown hg3 b4.size (fun g hg => Own.ge hownW.out g hg)
        obtain ⟨oa3, oc3, rfl⟩ := Own.form hown3
        replace hown3 := W_hid hown3
        clear hg3 b4 hownW z0 z1 z2 z3
        go_wp2_with fail
        go_roundw
        case rel => exact ⟨k + 1, [⟨f, t, p, s⟩], by omega, by go_num, hnx.out.symm, by rw [rcl_single]; exact hown3, b5⟩
        case measure => simp [intOf]; omega
      · rw [List.concat_eq_append] at *
        obtain ⟨m, hm⟩ : ∃ m, L'.length = m := ⟨_, rfl⟩
        have hlen1 : (L' ++ [(⟨f', t', p', s'⟩ : Rg)]).length = m + 1 := by simp [hm]
        have hm63 : m ≤ 137438953472 := by omega
        rw [hlen1] at hown
        obtain ⟨g, vc, rfl, hg, hcap, hE⟩ := own_get hown.out (by omega)
        have hY := hE m (by omega)
        have hget : (L' ++ [(⟨f', t', p', s'⟩ : Rg)])[m]'(by omega) = ⟨f', t', p', s'⟩ := by
          subst hm; simp
        rw [hget] at hY
        obtain ⟨y0, y1, y2, y3⟩ := hY
        rw [RG.push_snoc L' ⟨f', t', p', s'⟩ ⟨f, t, p, s⟩] at hnx
        have hgfz : ∀ i, wr.frozen? ⟨g, i, none⟩ = false := fun i => (own_fz hown.out rfl i)
        have n2 : ((m : Int) + 1 - 1) = m := by omega
        have hwn : IntKind.i64.wrap (m : Int) = (m : Int) := by simp [IntKind.wrap, IntKind.signed, IntKind.bits]; omega
        clear hE hget
        by_cases c1 : t' = f ∧ p' = p ∧ s' = s
        · obtain ⟨rfl, rfl, rfl⟩ := c1
          rw [if_pos ⟨rfl, rfl, rfl⟩] at hnx
          go_wp2
          go_quiet (fail)
          have b4 : Below w.heap.size w ((wr.drewN nq).setCell ⟨g, m * 4 + 1, none⟩ (.int .u64 (t : Int))) := (below_drewN bel nq).setCell (p := ⟨g, m * 4 + 1, none⟩) hg _
          have hown4 : ((wr.drewN nq).setCell ⟨g, m * 4 + 1, none⟩ (.int .u64 (t : Int))).ownsRow w.heap.size 25 4 (.slice (some ⟨g, 0, none⟩) (m + 1) vc) (m + 1) (rcl (L' ++ [(⟨f', t, p', s'⟩ : Rg)])) := by
            have h1 := ((show (wr.drewN nq).ownsRow w.heap.size 25 4 (.slice (some ⟨g, 0, none⟩) (m + 1) vc) (m + 1) _ from hown.out).stored (m * 4 + 1) (.int .u64 (t : Int))).1
            rw [rcl_set L' _ _ _ _ _ m hm] at h1
            exact h1
          have hll : (L' ++ [(⟨f', t, p', s'⟩ : Rg)]).length = m + 1 := by simp [hm]
          replace hown4 := W_hid hown4
          replace hll := W_hid hll
          clear hm hlen1 hown
          go_wp2_with fail
          go_roundw
          case rel => exact ⟨k + 1, _, by omega, by go_num, hnx.out.symm, by rw [hll.out]; exact hown4, b4⟩
          case measure => simp [intOf]; omega
        · rw [if_neg (show ¬ RG.joins ⟨f', t', p', s'⟩ ⟨f, t, p, s⟩ from fun hj => c1 hj)] at hnx
          have hs1 : (rcl (L' ++ [(⟨f', t', p', s'⟩ : Rg)] ++ [(⟨f, t, p, s⟩ : Rg)])) = rcl (L' ++ [(⟨f', t', p', s'⟩ : Rg)]) ++ [.int .u64 (f : Int), .int .u64 (t : Int), .int .i64 p, .int .i64 s] := by rw [rcl_append, rcl_single]; rfl
          have hs2 : (L' ++ [(⟨f', t', p', s'⟩ : Rg)] ++ [(⟨f, t, p, s⟩ : Rg)]).length = m + 1 + 1 := by simp [hm]
          replace hs1 := W_hid hs1
          replace hs2 := W_hid hs2
          have key : ∀ (P : Prop), ((t' = f ∧ p' = p ∧ (s' == s) = false → P) → (t' = f ∧ (p' == p) = false → P) → (((t' : Int) == (f : Int)) = false → P) → P) := by
            intro P h1 h2 h3
            by_cases d1 : t' = f
            · by_cases d2 : p' = p
              · exact h1 ⟨d1, d2, by simpa using (fun d3 => c1 ⟨d1, d2, d3⟩)⟩
              · exact h2 ⟨d1, by simpa using d2⟩
            · exact h3 (by simp; omega)
          replace hm := W_hid hm
          replace hlen1 := W_hid hlen1
          clear c1
          refine key _ ?_ ?_ ?_
          case' refine_1 => rintro ⟨rfl, rfl, d3⟩
          case' refine_2 => rintro ⟨rfl, d2⟩
          case' refine_3 => intro d1
          all_goals
            clear key
            go_wp2
            go_quiet (fail)
            obtain ⟨W, hW⟩ : ∃ W, wr.drewN nq = W := ⟨_, rfl⟩
            have belW : Below w.heap.size w W := by rw [← hW]; exact below_drewN bel nq
            have hownW := hown.out
            change (wr.drewN nq).ownsRow _ _ _ _ _ _ at hownW
            change (wr.drewN nq).cell? _ = _ at x0
            change (wr.drewN nq).cell? _ = _ at x1
            change (wr.drewN nq).cell? _ = _ at x2
            change (wr.drewN nq).cell? _ = _ at x3
            rw [hW] at hownW x0 x1 x2 x3
            replace hownW := W_hid hownW
            rw [hW]
            clear hW bel hown y0 y1 y2 y3 hgfz
            go_wp2_with (at_builtin; apply Hid.out)
            refine W_hid ?_
            refine Own.wpList_app rfl (.tmp 68) (.tmp 73) 22 rfl Try.underlying22 reg_info _ _ rfl rfl (hownW.out.alloc _) (belW.alloc belW.size _).size (.inr ⟨_, _, rfl, rfl, four_new _ _ _ _ _ _ _⟩) (by intro u hu; simp only [List.mem_cons, List.not_mem_nil, or_false] at hu; rcases hu with rfl | rfl | rfl | rfl <;> rfl) (by unfold maxLen; omega) (by omega) ?_
            intro v' w3 hown3 hg3 _
            have b5 := (belW.alloc belW.size _).grown hg3 (belW.alloc belW.size _).size (fun g hg => Own.ge hownW.out g hg)
            obtain ⟨oa3, oc3, rfl⟩ := Own.form hown3
            replace hown3 := W_hid hown3
            clear hg3 hownW x0 x1 x2 x3
            go_wp2_with fail
            go_roundw
            case rel => exact ⟨k + 1, _, by omega, by go_num, hnx.out.symm, by rw [hs1.out, hs2.out]; exact hown3, b5⟩
            case measure => simp [intOf]; omega
    · obtain rfl : k = n := by omega
      rw [List.take_of_length_le (by rw [L.out]; exact Nat.le_refl _), ← hone.out] at hO
      obtain ⟨va, vc, rfl⟩ := Own.form hown.out
      go_wp2
      go_ret
      exact ⟨_, rfl, by rw [← hO.out]; exact hown.out, bel⟩
end Go.Proofs.Ytfbhcnamkojboaa

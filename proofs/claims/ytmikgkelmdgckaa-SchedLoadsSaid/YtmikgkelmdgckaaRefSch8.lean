/- The document's weights, Next, Lot, Share. -/
import Derived.Test.YtmikgkelmdgckaaRefSch6
import Derived.Test.YtmikgkelmdgckaaRefSch7
import Derived.Test.YtmikgkelmdgckaaSchLot
namespace Go.Proofs.Ytmikgkelmdgckaa
open Go.ChangeShapes Go.WideShapes Go.ChangeAt Go.RowKit
set_option linter.unusedVariables false
set_option linter.unusedSimpArgs false
set_option maxRecDepth 100000
namespace SD
open IN (Keeps lt_of_some)
open FM (one)
theorem info_f64o : Own.Info Try.prog TF (.float .f64 0) 1 8 := Own.info_of (by kernel_rfl) rfl (by decide)
theorem rwt_any (n : Int) (hn : -20 ≤ n ∧ n ≤ 19) (w : World) : Calls Try.prog 75 #[.int .i64 n] w fun e w' => e = .returned (.tuple #[.float .f64 (wt n), .int .i64 0]) ∧ w = w' := by
  by_cases h0 : 0 ≤ n
  · have := rweight_dn n.toNat (by omega) w
    rw [show ((n.toNat : Nat) : Int) = n by omega] at this
    rw [show wt n = wdn n.toNat by unfold wt; rw [if_pos h0]]
    exact this
  · have := rweight_up (-n).toNat (by omega) n (by omega) w
    rw [show wt n = wup (-n).toNat by unfold wt; rw [if_neg h0]]
    exact this
theorem app_onef {w V : World} {v : Value} {m : Nat} {xs : List Value} (ho : V.ownsRow w.heap.size TF 1 v m xs) (hb : Below w.heap.size w V) (b : Nat) :
    (V.alloc (.cells #[.float .f64 b] TF)).ownsRow w.heap.size TF 1 v m xs ∧ Own.Src (V.alloc (.cells #[.float .f64 b] TF)) 1 (.slice (some ⟨V.heap.size, 0, none⟩) 1 1) 1 (fcel [b]) ∧ Below w.heap.size w (V.alloc (.cells #[.float .f64 b] TF)) :=
  ⟨Own.below ho ((Below.refl _ _).alloc (Nat.le_refl _) _), .inr ⟨_, _, rfl, rfl, fun j u hj => one_new rfl (.float .f64 b) TF j u hj⟩, hb.alloc hb.size _⟩
theorem fcel_one (l : List Nat) : ∀ u ∈ fcel l, u.oneCell' = true := by
  intro u hu
  unfold fcel at hu
  obtain ⟨x, -, rfl⟩ := List.mem_map.1 hu
  rfl
section
variable {base : Nat} {w : World} {rb : Nat} {vp vl : Value} {P : List Pr} {L : List Int}
set_option maxRecDepth 100000 in
set_option maxHeartbeats 8000000 in
theorem rweights_any (h : DM base w rb vp vl P L) (hlen : P.length ≤ 60000) (hnice : ∀ x ∈ P, -20 ≤ x.nice ∧ x.nice ≤ 19) :
    Calls Try.prog 61 #[ptr rb] w fun e w' => ∃ vp vo, e = .returned (.tuple #[vp, vo]) ∧ w'.ownsRow w.heap.size TI 1 vp (rl P).length (icl (rpid P)) ∧ w'.ownsRow w.heap.size TF 1 vo (rl P).length (fcel (wl P)) ∧ Below w.heap.size w w' := by
  obtain ⟨ao, cap, hv⟩ := Own.form h.row
  obtain ⟨n, hn⟩ : ∃ n, P.length = n := ⟨_, rfl⟩
  rw [hn] at hv hlen
  have hbx : Hid (∀ W, Below w.heap.size w W → W.cell? ⟨rb, 0, none⟩ = some (.slice ao n cap)) := W_hid fun W hW => by rw [← hv]; exact (h.keep hW).box.cell (j := 0) rfl
  have hrd : Hid (∀ k (hk : k < P.length), ∃ g, ao = some ⟨g, 0, none⟩ ∧ n ≤ cap ∧ cap ≤ 9223372036854775807 ∧ (-20 ≤ P[k].nice ∧ P[k].nice ≤ 19) ∧ rl (P.take (k + 1)) = rl (P.take k) ++ (if P[k].on = true then [P[k]] else []) ∧
      ∀ W, Below w.heap.size w W → W.cell? ⟨g, k * 4, none⟩ = some (.int .i64 P[k].pid) ∧ W.cell? ⟨g, k * 4 + 1, none⟩ = some (.int .i64 P[k].nice) ∧ W.cell? ⟨g, k * 4 + 2, none⟩ = some (.bool P[k].on)) := W_hid fun k hk => by
    obtain ⟨g, n', cap', e, -, -, h3, h4, -⟩ := h.opened hk
    rw [hv] at e
    simp only [Value.slice.injEq] at e
    obtain ⟨rfl, rfl, rfl⟩ := e
    refine ⟨g, rfl, h3, h4, hnice _ (List.getElem_mem hk), rl_take P hk, fun W hW => ?_⟩
    obtain ⟨g2, n2, cap2, e2, -, -, -, -, -, -, -, -, -, -, -, y1, y2, y3, -⟩ := (h.keep hW).opened hk
    rw [hv] at e2
    simp only [Value.slice.injEq, Option.some.injEq, Addr.mk.injEq, and_true] at e2
    obtain ⟨rfl, rfl, rfl⟩ := e2
    exact ⟨y1, y2, y3⟩
  have hrl : Hid (∀ k, (rl (P.take k)).length ≤ 60000) := W_hid fun k => Nat.le_trans (rl_len _) (by rw [List.length_take]; omega)
  have hfin : Hid (rl (P.take n) = rl P) := W_hid (by rw [← hn, List.take_length])
  replace hn := W_hid hn
  clear h hv
  go_enter Try.func61, Try.ntmps61
  go_wp2_with fail
  go_loopw [4, 5, 6, 7, 8] (fun v u i _ _ wr => ∃ k m : Nat, k ≤ n ∧ i = .int .i64 (k : Int) ∧ Hid ((rl (P.take k)).length = m) ∧ m ≤ 60000 ∧ Hid (wr.ownsRow w.heap.size TI 1 v m (icl (rpid (P.take k)))) ∧ Hid (wr.ownsRow w.heap.size TF 1 u m (fcel (wl (P.take k)))) ∧ Hid ((∀ j, v.ownBlock = some j → u.ownBlock ≠ some j)) ∧ Hid (Below w.heap.size w wr)) (fun _ _ i _ _ _ => n - (intOf i).toNat)
  case atStart => exact ⟨0, 0, Nat.zero_le _, rfl, W_hid rfl, Nat.zero_le _, W_hid (World.ownsRow_nil _ _ _ _), W_hid (World.ownsRow_nil _ _ _ _), W_hid (fun j hj => by cases hj), W_hid (Below.refl _ _)⟩
  case round =>
    obtain ⟨k, m, hk, rfl, hm, hmm, hop, hof, hdis, hb⟩ := hrel
    have c0 := hbx.out _ hb.out
    by_cases hlt : k < n
    · have hkl : k < P.length := by rw [hn.out]; exact hlt
      obtain ⟨g, rfl, q1, q2, hni, hnx, hW⟩ := hrd.out k hkl
      obtain ⟨e0, e1, e2⟩ := hW _ hb.out
      have hnice' := W_hid hni
      cases hon : P[k].on with
      | false =>
        rw [hon] at e2 hnx
        rw [if_neg (by simp), List.append_nil] at hnx
        have hnx := W_hid hnx
        clear hW hon hni
        obtain ⟨a4, c4, rfl⟩ := Own.form hop.out
        obtain ⟨a5, c5, rfl⟩ := Own.form hof.out
        obtain ⟨a, ha⟩ : ∃ a, P[k].pid = a := ⟨_, rfl⟩
        obtain ⟨b, hb'⟩ : ∃ b, P[k].nice = b := ⟨_, rfl⟩
        rw [ha] at e0
        rw [hb'] at e1 hnice'
        clear ha hb' hkl
        go_wp2_with fail
        go_roundw
        case rel => exact ⟨k + 1, m, by omega, by go_num, W_hid (by rw [hnx.out]; exact hm.out), hmm, W_hid (by have := hop.out; unfold rpid at this ⊢; rw [hnx.out]; exact this), W_hid (by have := hof.out; unfold wl at this ⊢; rw [hnx.out]; exact this), hdis, hb⟩
        case measure => simp [intOf]; omega
      | true =>
        rw [hon] at e2 hnx
        rw [if_pos rfl] at hnx
        have hp1 : Hid (rpid (P.take (k + 1)) = rpid (P.take k) ++ [P[k].pid]) := W_hid (by unfold rpid; rw [hnx, List.map_append]; rfl)
        have hw1 : Hid (wl (P.take (k + 1)) = wl (P.take k) ++ [wt P[k].nice]) := W_hid (by unfold wl; rw [hnx, List.map_append]; rfl)
        have hl1 : Hid ((rl (P.take (k + 1))).length = m + 1) := W_hid (by rw [hnx, List.length_append, hm.out]; rfl)
        have hm1 : m + 1 ≤ 60000 := by rw [← hl1.out]; exact hrl.out _
        have cW := W_hid (fun w => rwt_any P[k].nice hni w)
        obtain ⟨a, ha⟩ : ∃ a, P[k].pid = a := ⟨_, rfl⟩
        obtain ⟨b, hb'⟩ : ∃ b, P[k].nice = b := ⟨_, rfl⟩
        rw [ha] at e0 hp1
        rw [hb'] at e1 hnice' hw1 cW
        obtain ⟨t, ht⟩ : ∃ t, wt b = t := ⟨_, rfl⟩
        rw [ht] at hw1 cW
        clear hW ha hb' hkl hon hni hnx ht
        obtain ⟨a4, c4, rfl⟩ := Own.form hop.out
        obtain ⟨a5, c5, rfl⟩ := Own.form hof.out
        obtain ⟨hoA, hsA, hbA⟩ := app_one hop.out hb.out a
        have hofA := W_hid (Own.below hof.out ((Below.refl wr.heap.size wr).alloc (Nat.le_refl _) (.cells #[.int .i64 a] TI)))
        replace hoA := W_hid hoA
        replace hsA := W_hid hsA
        replace hbA := W_hid hbA
        have hsz := hbA.out.size
        go_wp2_with (first
          | (go_at_call 75; refine (cW.out _).mono ?_; rintro e w' ⟨rfl, rfl⟩)
          | (at_builtin; refine Own.wpList_app rfl (.tmp 38) (.tmp 47) 30 rfl und_ints info_int (.slice a4 m c4) (.slice (some ⟨wr.heap.size, 0, none⟩) 1 1) rfl rfl hoA.out hsz hsA.out (icl_one [a]) (by unfold maxLen; omega) (by omega) ?_
             intro v1 w1 ho1 hg1 hv1
             have hbn := below_row hbA.out hsz hg1 fun g hg => Own.ge hoA.out g hg
             have hofB : w1.ownsRow w.heap.size TF 1 (.slice a5 m c5) m (fcel (wl (P.take k))) := own_move hofA.out fun j hj => hg1.block j (by obtain ⟨cur, hc⟩ := own_obj hofA.out hj; exact lt_of_some hc) (fun e => hdis.out j e.symm hj)
             obtain ⟨hofC, hsC, hbC⟩ := app_onef hofB hbn t
             have ho1C := W_hid (Own.below ho1 ((Below.refl w1.heap.size w1).alloc (Nat.le_refl _) (.cells #[.float .f64 t] TF)))
             have hdis1 : Hid (∀ j, v1.ownBlock = some j → (Value.slice a5 m c5).ownBlock ≠ some j) := W_hid fun j hj hj2 => by
               rcases hv1 with hv | hv
               · exact hdis.out j (hv ▸ hj) hj2
               · rw [hv] at hj
                 cases hj
                 obtain ⟨cur, hc⟩ := own_obj hof.out hj2
                 have := lt_of_some hc
                 simp at this
                 omega
             replace hofC := W_hid hofC
             replace hsC := W_hid hsC
             replace hbC := W_hid hbC
             have hszC := hbC.out.size
             replace hbn := W_hid hbn
             replace hofB := W_hid hofB
             replace ho1 := W_hid ho1
             replace hg1 := W_hid hg1
             replace hv1 := W_hid hv1)
          | (at_builtin; refine Own.wpList_app rfl (.tmp 49) (.tmp 51) 59 rfl und_floats info_f64o (.slice a5 m c5) (.slice (some ⟨w1.heap.size, 0, none⟩) 1 1) rfl rfl hofC.out hszC hsC.out (fcel_one [t]) (by unfold maxLen; omega) (by omega) ?_
             intro v2 w2 ho2 hg2 hv2
             have hbn2 := W_hid (below_row hbC.out hszC hg2 fun g hg => Own.ge hofC.out g hg)
             have ho1D : Hid (w2.ownsRow w.heap.size TI 1 v1 (m + 1) (icl (rpid (P.take k)) ++ icl [a])) := W_hid (own_move ho1C.out fun j hj => hg2.block j (by obtain ⟨cur, hc⟩ := own_obj ho1C.out hj; exact lt_of_some hc) (fun e => hdis1.out j hj e.symm))
             have hdis2 : Hid (∀ j, v1.ownBlock = some j → v2.ownBlock ≠ some j) := W_hid fun j hj hj2 => by
               rcases hv2 with hv | hv
               · exact hdis1.out j hj (hv ▸ hj2)
               · rw [hv] at hj2
                 cases hj2
                 obtain ⟨cur, hc⟩ := own_obj ho1.out hj
                 have := lt_of_some hc
                 simp at this
                 omega
             replace ho2 := W_hid ho2
             replace hg2 := W_hid hg2
             replace hv2 := W_hid hv2))
        go_roundw
        case rel => exact ⟨k + 1, m + 1, by omega, by go_num, hl1, hm1, W_hid (by have := ho1D.out; rw [hp1.out, icl_app]; exact this), W_hid (by have := ho2.out; rw [hw1.out, fcel_append]; exact this), hdis2, hbn2⟩
        case measure => simp [intOf]; omega
    · obtain rfl : k = n := by omega
      obtain ⟨a4, c4, rfl⟩ := Own.form hop.out
      obtain ⟨a5, c5, rfl⟩ := Own.form hof.out
      go_wp2_with fail
      go_ret2
      have hm' := hm.out
      rw [hfin.out] at hm'
      have h1 := hop.out
      have h2 := hof.out
      unfold rpid at h1
      unfold wl at h2
      rw [hfin.out] at h1
      rw [hfin.out] at h2
      rw [hm']
      exact ⟨_, _, rfl, h1, h2, hb.out⟩
end
end SD
end Go.Proofs.Ytmikgkelmdgckaa

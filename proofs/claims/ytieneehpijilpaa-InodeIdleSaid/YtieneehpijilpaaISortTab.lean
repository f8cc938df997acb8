/- slices.Sorted of a map's keys, Tables of any tree. -/
import Derived.Test.YtieneehpijilpaaISort9
namespace Go.Proofs.Ytieneehpijilpaa
open Go.ChangeShapes Go.WideShapes Go.ChangeAt Go.RowKit
set_option linter.unusedVariables false
set_option linter.unusedSimpArgs false
namespace IS

set_option maxRecDepth 100000 in
set_option maxHeartbeats 4000000 in
/-- slices.Sorted of what Keys handed back. -/
theorem Sorted_all (Bm b : Nat) (M : Int → Option Nat) (w : World) (hBm : Bm < w.heap.size) (hb : b < w.heap.size) (hm : w.cell? ⟨Bm, 0, none⟩ = some (.map (some b))) (hMB : MB w b M)
    (hsm : ∀ ss, Nums M ss → ss.length < 65536) (hne : ∃ f : Nat, M f ≠ none) :
    Calls Try.prog 37 #[.func (.func 62) #[] #[.pointer (some ⟨Bm, 0, none⟩)]] w fun e w' => ∃ (v : Value) (l : List Nat), e = .returned v ∧ Nums M l ∧ l.Pairwise (· ≤ ·) ∧ Nlist w.heap.size w' v l ∧ Below w.heap.size w w' := by
  have cC := Collect_any Bm b M w hBm hb hm hMB
  have hlt := fun ss (h : Nums M ss) => h.lt hMB
  clear hm
  go_enter Try.func37, Try.ntmps37
  go_wp2_with (go_at_call 60; refine cC.mono ?_; rintro e w1 ⟨v, ss, rfl, hN, hown, hnil, hB⟩)
  have hne0 : ss ≠ [] := by
    obtain ⟨f, hf⟩ := hne
    intro e
    have := (hN.2 f).2 hf
    rw [e] at this
    cases this
  rcases hown.2 with ⟨h0, -⟩ | ⟨g, cap, cur, rfl, hbase, hg, h1, h2, h3, h4⟩
  · exact absurd (hnil.1 h0) hne0
  have hrw : RW w1 g ss.length (fun i => ss.getD i 0) (cur.toList.drop ss.length) := by
    refine ⟨?_⟩
    unfold Blk
    rw [hg, lst_of]
    have e : ss.map nk ++ cur.toList.drop ss.length = cur.toList := by
      rw [Nat.mul_one] at h4
      rw [← h4, List.take_append_drop]
    rw [e]
  have cS := W_hid (Sort_all g ss.length cap _ _ w1 hrw (hsm ss hN) (by omega) (fun i hi => by
    have := hlt ss hN (ss.getD i 0) (by rw [List.getD, List.getElem?_eq_getElem hi]; exact List.getElem_mem _)
    omega) (SO.inj_of_nodup _ _ (by rw [lst_of]; exact hN.1)))
  clear hrw h4 h3 hg
  go_wp2_with (go_at_call 61; refine cS.out.mono ?_; rintro e w2 ⟨rfl, hT, Y, hR, hS, hU⟩)
  go_ret
  refine ⟨_, SO.lst Y ss.length, rfl, ⟨?_, fun f => ?_⟩, up_pairwise hU, ⟨⟨g, cap, _, by rw [SO.lst_len]; rfl, hbase, by rw [SO.lst_len]; exact h1, hR.blk⟩⟩, hB.trans (hT.below hB.size hbase hbase)⟩
  · refine SO.lst_nodup _ _ (hS.inj (Nat.le_refl _) (SO.inj_of_nodup _ _ ?_))
    rw [lst_of]; exact hN.1
  · rw [hS.mem (Nat.le_refl _), lst_of, hN.2 f]


end IS
end Go.Proofs.Ytieneehpijilpaa

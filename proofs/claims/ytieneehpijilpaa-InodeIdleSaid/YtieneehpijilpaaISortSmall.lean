/- slices.Sort of a dozen numbers at most. -/
import Derived.Test.YtieneehpijilpaaISortLen
namespace Go.Proofs.Ytieneehpijilpaa
open Go.ChangeShapes Go.WideShapes Go.ChangeAt Go.RowKit
set_option linter.unusedVariables false
set_option linter.unusedSimpArgs false
namespace IS

set_option maxRecDepth 100000 in
set_option maxHeartbeats 4000000 in
theorem pdq_small (g N cap k : Nat) (rest : List Value) (X : Nat → Nat) (w : World) (h : RW w g N X rest) (hN : N ≤ 12) (hcap : N ≤ cap) (hX : ∀ i, i < N → X i < 9223372036854775808) :
    Calls Try.prog 74 #[.slice (some ⟨g, 0, none⟩) N cap, .int .i64 0, .int .i64 (N : Int), .int .i64 (k : Int)] w fun e w' => e = .returned (.tuple #[]) ∧ Two g g w w' ∧ ∃ Y, RW w' g N Y rest ∧ SO.Sw 0 N X Y ∧ SO.Up Y 0 N := by
  have c := insert_any g N cap rest 0 N X w h (by omega) (by omega) (by omega) hcap hX
  go_enter Try.func74, Try.ntmps74
  go_wp2_with fail
  go_loopw [1, 2, 3, 8, 9] (fun a b l _ _ wr => a = .int .i64 0 ∧ b = .int .i64 (N : Int) ∧ l = .int .i64 (k : Int) ∧ wr = w) (fun _ _ _ _ _ _ => 0)
  case atStart => exact ⟨rfl, rfl, rfl, rfl⟩
  case round =>
    obtain ⟨rfl, rfl, rfl, rfl⟩ := hrel
    go_wp2_with (go_at_call 78; refine c.mono ?_; rintro e w' ⟨rfl, hT, Y, hR, hS, hU⟩)
    refine bodyPost_ret (results_none rfl _ _ _) rfl ?_
    exact ⟨rfl, hT, Y, hR, hS, hU⟩

set_option maxRecDepth 100000 in
set_option maxHeartbeats 4000000 in
theorem Sort_small (g N cap : Nat) (rest : List Value) (X : Nat → Nat) (w : World) (h : RW w g N X rest) (hN : N ≤ 12) (hcap : N ≤ cap) (hX : ∀ i, i < N → X i < 9223372036854775808) :
    Calls Try.prog 61 #[.slice (some ⟨g, 0, none⟩) N cap] w fun e w' => e = .returned (.tuple #[]) ∧ Two g g w w' ∧ ∃ Y, RW w' g N Y rest ∧ SO.Sw 0 N X Y ∧ SO.Up Y 0 N := by
  have cL := Len_any (N : Int) w (by omega) (by omega)
  have cP := W_hid (fun k : Nat => pdq_small g N cap k rest X w h hN hcap hX)
  clear h
  go_enter Try.func61, Try.ntmps61
  go_wp2_with (first
    | (go_at_call 75; refine cL.mono ?_; rintro e w' ⟨⟨k, rfl, hk⟩, rfl⟩)
    | (go_at_call 74; refine (cP.out _).mono ?_; rintro e w' ⟨rfl, hT, Y, hR, hS, hU⟩))
  go_end0
  exact ⟨rfl, hT, Y, hR, hS, hU⟩

/-- What Sort does to rows of so many numbers. -/
def Sorts (m : Nat) : Prop := ∀ (g N cap : Nat) (rest : List Value) (X : Nat → Nat) (w : World), N ≤ m → RW w g N X rest → N ≤ cap → (∀ i, i < N → X i < 9223372036854775808) →
  Calls Try.prog 61 #[.slice (some ⟨g, 0, none⟩) N cap] w fun e w' => e = .returned (.tuple #[]) ∧ Two g g w w' ∧ ∃ Y, RW w' g N Y rest ∧ SO.Sw 0 N X Y ∧ SO.Up Y 0 N
theorem sorts_small : Sorts 12 := fun g N cap rest X w hN h hcap hX => Sort_small g N cap rest X w h hN hcap hX

/-- A slice of the call's own that holds these numbers, rising. -/
structure Nlist (base : Nat) (w : World) (v : Value) (l : List Nat) : Prop where
  ex : ∃ (g cap : Nat) (rest : List Value), v = .slice (some ⟨g, 0, none⟩) l.length cap ∧ base ≤ g ∧ l.length ≤ cap ∧ Blk w g 3 (l.map nk ++ rest)
theorem Nlist.keep {base : Nat} {w w' : World} {v : Value} {l : List Nat} (h : Nlist base w v l) (hb : Below w.heap.size w w') : Nlist base w' v l := by
  obtain ⟨g, cap, rest, e, h1, h2, h3⟩ := h.ex
  exact ⟨⟨g, cap, rest, e, h1, h2, h3.keep hb⟩⟩

theorem lst_of (l : List Nat) : SO.lst (fun i => l.getD i 0) l.length = l := by
  apply List.ext_getElem?
  intro i
  by_cases h : i < l.length
  · rw [SO.lst_get _ _ _ h]; simp [List.getD, h]
  · rw [List.getElem?_eq_none (by rw [SO.lst_len]; omega), List.getElem?_eq_none (by omega)]

theorem up_pairwise {X : Nat → Nat} {N : Nat} (h : SO.Up X 0 N) : (SO.lst X N).Pairwise (· ≤ ·) := by
  unfold SO.lst
  rw [List.pairwise_map]
  rw [List.pairwise_iff_getElem]
  intro i j hi hj hij
  simp only [List.length_range] at hi hj
  simp only [List.getElem_range]
  exact h i j (by omega) hij hj

set_option maxRecDepth 100000 in
set_option maxHeartbeats 4000000 in
/-- slices.Sorted of what Keys handed back. -/
theorem Sorted_any (mx : Nat) (hs : Sorts mx) (Bm b : Nat) (M : Int → Option Nat) (w : World) (hBm : Bm < w.heap.size) (hb : b < w.heap.size) (hm : w.cell? ⟨Bm, 0, none⟩ = some (.map (some b))) (hMB : MB w b M)
    (hsm : ∀ ss, Nums M ss → ss.length ≤ mx) (hne : ∃ f : Nat, M f ≠ none) :
    Calls Try.prog 37 #[.func (.func 62) #[] #[.pointer (some ⟨Bm, 0, none⟩)]] w fun e w' => ∃ (v : Value) (l : List Nat), e = .returned v ∧ Nums M l ∧ l.Pairwise (· ≤ ·) ∧ Nlist w.heap.size w' v l ∧ Below w.heap.size w w' := by
  have cC := Collect_any Bm b M w hBm hb hm hMB
  have hlt := fun ss (h : Nums M ss) => h.lt hMB
  have hs := W_hid hs
  clear hm
  go_enter Try.func37, Try.ntmps37
  go_wp2_with (go_at_call 60; refine cC.mono ?_; rintro e w1 ⟨v, ss, rfl, hN, hown, hnil, hB⟩)
  have hne0 : ss ≠ [] := by
    obtain ⟨f, hf⟩ := hne
    intro e
    have := (hN.2 f).2 hf
    rw [e] at this
    cases this
  rcases hown.2 with ⟨h0, -⟩ | ⟨g, cap, cur, rfl, hbase, hg, h1, h2, h3, h4⟩
  · exact absurd (hnil.1 h0) hne0
  have hrw : RW w1 g ss.length (fun i => ss.getD i 0) (cur.toList.drop ss.length) := by
    refine ⟨?_⟩
    unfold Blk
    rw [hg, lst_of]
    have e : ss.map nk ++ cur.toList.drop ss.length = cur.toList := by
      rw [Nat.mul_one] at h4
      rw [← h4, List.take_append_drop]
    rw [e]
  have cS := W_hid (hs.out g ss.length cap _ _ w1 (hsm ss hN) hrw (by omega) (fun i hi => by
    have := hlt ss hN (ss.getD i 0) (by rw [List.getD, List.getElem?_eq_getElem hi]; exact List.getElem_mem _)
    omega))
  clear hrw h4 h3 hg
  go_wp2_with (go_at_call 61; refine cS.out.mono ?_; rintro e w2 ⟨rfl, hT, Y, hR, hS, hU⟩)
  go_ret
  refine ⟨_, SO.lst Y ss.length, rfl, ⟨?_, fun f => ?_⟩, up_pairwise hU, ⟨⟨g, cap, _, by rw [SO.lst_len]; rfl, hbase, by rw [SO.lst_len]; exact h1, hR.blk⟩⟩, hB.trans (hT.below hB.size hbase hbase)⟩
  · refine SO.lst_nodup _ _ (hS.inj (Nat.le_refl _) (SO.inj_of_nodup _ _ ?_))
    rw [lst_of]; exact hN.1
  · rw [hS.mem (Nat.le_refl _), lst_of, hN.2 f]


end IS
end Go.Proofs.Ytieneehpijilpaa

/- Contract of Write, the program's, for all lists, places, bytes. -/
import Derived.Test.YtieneehpijilpaaExtDo
namespace Go.Proofs.Ytieneehpijilpaa
open Go.ChangeShapes Go.WideShapes Go.ChangeAt Go.RowKit
set_option linter.unusedVariables false
set_option linter.unusedSimpArgs false

/-- What Write answers. -/
def wrE (l : List (Int × ByteArray)) (f : Int) (d : ByteArray) : Int := if EM.ok 0 l = true ∧ 0 ≤ f then (if f + d.size ≤ 1048576 then 0 else 28) else 2
def wrL (l : List (Int × ByteArray)) (f : Int) (d : ByteArray) : List (Int × ByteArray) := if wrE l f d = 0 then EM.wr l f d else []
theorem wr_no {l : List (Int × ByteArray)} {f : Int} {d : ByteArray} {k : Int} (h : wrE l f d = k) (hk : k ≠ 0) : wrL l f d = [] ∧ wrE l f d = k := by
  unfold wrL; rw [h, if_neg hk]; exact ⟨rfl, rfl⟩

theorem below_al {a w : World} (h : Below a.heap.size a w) (o : Obj) : Below a.heap.size a (w.alloc o) := h.alloc h.size o
theorem below_tr {a b c : World} (h : Below a.heap.size a b) (k : Below b.heap.size b c) : Below a.heap.size a c := h.trans (k.mono h.size)

/-- A value that reads as extents. -/
def XV (w : World) (v : Value) (l : List (Int × ByteArray)) : Prop := ∃ ao n c, v = .slice ao n c ∧ XS w ao n c l
theorem XV.alloc {w : World} {v : Value} {l : List (Int × ByteArray)} (h : XV w v l) (o : Obj) : XV (w.alloc o) v l := by
  obtain ⟨a, n, c, h1, h2⟩ := h
  exact ⟨a, n, c, h1, h2.alloc o⟩
theorem XV.below {w w' : World} {v : Value} {l : List (Int × ByteArray)} (h : XV w v l) (hb : Below w.heap.size w w') : XV w' v l := by
  obtain ⟨a, n, c, h1, h2⟩ := h
  exact ⟨a, n, c, h1, h2.below hb (Nat.le_refl _)⟩
theorem XV.drew {w : World} {v : Value} {l : List (Int × ByteArray)} (h : XV w v l) : XV w.drew v l := h
theorem XV_own {w : World} {base n : Nat} {v : Value} {l : List (Int × ByteArray)} (h : w.ownsRow base 94 2 v n (ecl l)) : XV w v l := by
  obtain ⟨a, c, rfl⟩ := Own.form h
  exact ⟨a, n, c, rfl, XS_own h⟩
/-- One extent that was built last. -/
theorem XV_new {w : World} {g : Nat} {f : Int} {d : ByteArray} {t : TypeId} (hg : g = w.heap.size) : XV (w.alloc (.cells #[.int .i64 f, .string d] t)) (.slice (some ⟨g, 0, none⟩) 1 1) [(f, d)] := by
  subst hg
  refine ⟨_, _, _, rfl, rfl, Nat.le_refl _, by unfold maxLen; omega, (fun h => by cases h), fun a ha j u hu => ?_⟩
  obtain rfl := Option.some.inj ha
  exact Own.cells_two _ _ _ _ _ j u hu
/-- Three lists as a list of lists. -/
theorem LS_three {w : World} {g : Nat} {v1 v2 v3 : Value} {l1 l2 l3 : List (Int × ByteArray)} {t : TypeId} (hg : g = w.heap.size) (h1 : XV w v1 l1) (h2 : XV w v2 l2) (h3 : XV w v3 l3) :
    LS (w.alloc (.cells #[v1, v2, v3] t)) (some ⟨g, 0, none⟩) 3 3 [(v1, l1), (v2, l2), (v3, l3)] := by
  subst hg
  refine ⟨rfl, by decide, by unfold maxLen; omega, (fun h => by cases h), fun a ha j u hu => ?_, fun p hp => ?_⟩
  · obtain rfl := Option.some.inj ha
    rw [Addr.add_lit, cell_of_row _ _ _ _ _ _ (heap_alloc_new w (.cells #[v1, v2, v3] t))]
    match j, hu with
    | 0, hu => obtain rfl : (v1, l1) = u := by simpa using hu
               simp
    | 1, hu => obtain rfl : (v2, l2) = u := by simpa using hu
               simp
    | 2, hu => obtain rfl : (v3, l3) = u := by simpa using hu
               simp
  · simp only [List.mem_cons, List.not_mem_nil, or_false] at hp
    rcases hp with rfl | rfl | rfl
    · exact h1.alloc _
    · exact h2.alloc _
    · exact h3.alloc _

set_option maxRecDepth 100000 in
set_option maxHeartbeats 4000000 in
theorem Write_in (ao : Option Addr) (n cap : Nat) (l : List (Int × ByteArray)) (f : Int) (d : ByteArray) (w : World) (h : XS w ao n cap l) (hf : XFit l) (hv : EM.ok 0 l = true) (h0 : 0 ≤ f) (h1 : f + d.size ≤ 1048576) (hd : d.size ≠ 0) :
    Calls Try.prog 49 #[.slice ao n cap, .int .i64 f, .string d] w (Gave (EM.wr l f d) 0 w) := by
  have hval := xvalid_any ao n cap l w h hf
  have hfit := fits_any f d
  have H := W_hid h
  have hft : Hid (∀ w, Calls Try.prog 67 #[.int .i64 f, .string d] w fun e w' => e = .returned (.bool true) ∧ w = w') := by
    intro w
    have := fits_any f d w (by unfold I64; omega) (by unfold maxLen; omega)
    rwa [decide_eq_true h1] at this
  obtain ⟨s1, s2⟩ := xfull hd
  have hpart : ∀ (lo hi : Int), I64 lo → I64 hi → ∀ (g : Nat) (W : World), (W.cell? ⟨g, 0, none⟩ = some (.int .i64 f) ∧ W.cell? ⟨g, 1, none⟩ = some (.string d) ∧ Below w.heap.size w W) →
      Calls Try.prog 66 #[.slice ao n cap, .int .i64 lo, .int .i64 hi] W fun e W' => ∃ a n c, e = .returned (.slice a n c) ∧ XV W' (.slice a n c) (EM.part lo hi l) ∧ Below W.heap.size W W' ∧
        (W'.cell? ⟨g, 0, none⟩ = some (.int .i64 f) ∧ W'.cell? ⟨g, 1, none⟩ = some (.string d) ∧ Below w.heap.size w W') := by
    intro lo hi h1 h2 g W ⟨c0, c1, bel⟩
    refine (part_any ao n cap l lo hi W (h.below bel (Nat.le_refl _)) hv h1 h2).mono ?_
    rintro e W' ⟨v, rfl, hown, belp⟩
    obtain ⟨a, c, rfl⟩ := Own.form hown
    exact ⟨a, _, c, rfl, XV_own hown, belp, by rw [belp.cell (World.block_lt_of_cell? W _ c0)]; exact c0, by rw [belp.cell (World.block_lt_of_cell? W _ c1)]; exact c1, below_tr bel belp⟩
  have hp1 := W_hid (hpart 0 f (by unfold I64; omega) (by unfold I64; omega))
  have hp2 := W_hid (hpart (f + d.size) 1048576 (by unfold I64; omega) (by unfold I64; omega))
  have hend : Hid (∀ (g : Nat) (W : World), (W.cell? ⟨g, 0, none⟩ = some (.int .i64 f) ∧ W.cell? ⟨g, 1, none⟩ = some (.string d) ∧ Below w.heap.size w W) →
      Calls Try.prog 69 #[.agg #[.int .i64 f, .string d]] W fun e W' => e = .returned (.int .i64 (f + d.size)) ∧ Below W.heap.size W W' ∧
        (W'.cell? ⟨g, 0, none⟩ = some (.int .i64 f) ∧ W'.cell? ⟨g, 1, none⟩ = some (.string d) ∧ Below w.heap.size w W')) := by
    intro g W ⟨c0, c1, bel⟩
    refine (end_any f d W (by omega) (by omega)).mono ?_
    rintro e W' ⟨rfl, belp⟩
    exact ⟨rfl, belp, by rw [belp.cell (World.block_lt_of_cell? W _ c0)]; exact c0, by rw [belp.cell (World.block_lt_of_cell? W _ c1)]; exact c1, below_tr bel belp⟩
  have hj : Hid (∀ (g : Nat) (W : World) (g2 : Nat) (v1 v2 v3 : Value), (W.cell? ⟨g, 0, none⟩ = some (.int .i64 f) ∧ W.cell? ⟨g, 1, none⟩ = some (.string d) ∧ Below w.heap.size w W) →
      LS W (some ⟨g2, 0, none⟩) 3 3 [(v1, EM.part 0 f l), (v2, [(f, d)]), (v3, EM.part (f + d.size) 1048576 l)] →
      Calls Try.prog 68 #[.slice (some ⟨g2, 0, none⟩) 3 3] W fun e W' => ∃ v, e = .returned v ∧ W'.ownsRow w.heap.size 94 2 v (EM.wr l f d).length (ecl (EM.wr l f d)) ∧
        (W'.cell? ⟨g, 0, none⟩ = some (.int .i64 f) ∧ W'.cell? ⟨g, 1, none⟩ = some (.string d) ∧ Below w.heap.size w W')) := by
    intro g W g2 v1 v2 v3 ⟨c0, c1, bel⟩ hls
    have hall : alls [(v1, EM.part 0 f l), (v2, [(f, d)]), (v3, EM.part (f + d.size) 1048576 l)] = EM.part 0 f l ++ [(f, d)] ++ EM.part (f + d.size) 1048576 l := by simp [alls]
    have hwr : EM.wr l f d = EM.merge (EM.part 0 f l ++ [(f, d)] ++ EM.part (f + d.size) 1048576 l) := by unfold EM.wr; rw [if_neg hd]
    have hjn := joined_any _ 3 3 _ W hls (by rw [hall]; exact EM.wk_write hv h0 h1 (by omega))
    rw [hall, ← hwr] at hjn
    refine hjn.mono ?_
    rintro e W' ⟨v, rfl, hown, belp⟩
    exact ⟨v, rfl, Own.low bel.size hown, by rw [belp.cell (World.block_lt_of_cell? W _ c0)]; exact c0, by rw [belp.cell (World.block_lt_of_cell? W _ c1)]; exact c1, below_tr bel belp⟩
  rw [hv] at hval
  have hval := W_hid hval
  clear h hfit hpart
  go_enter Try.func49, Try.ntmps49
  go_wp2_with fail
  refine hval.out.mono ?_
  rintro e w1 ⟨rfl, bel1⟩
  go_wp2_with fail
  refine (hft.out _).mono ?_
  rintro e w' ⟨rfl, rfl⟩
  have hw2 := XB.new w1 f d rfl
  have u0 := hw2.c0
  have u1 := hw2.c1
  go_wp2_with fail
  have hS : (w1.alloc (.cells #[.int .i64 f, .string d] 94)).cell? ⟨w1.heap.size, 0, none⟩ = some (.int .i64 f) ∧ (w1.alloc (.cells #[.int .i64 f, .string d] 94)).cell? ⟨w1.heap.size, 1, none⟩ = some (.string d) ∧ Below w.heap.size w (w1.alloc (.cells #[.int .i64 f, .string d] 94)) := ⟨u0, u1, below_al bel1 _⟩
  have bel2 := hS.2.2
  clear hw2 bel1
  go_region_held3 (fun w' => w'.cell? ⟨w1.heap.size, 0, none⟩ = some (.int .i64 f) ∧ w'.cell? ⟨w1.heap.size, 1, none⟩ = some (.string d) ∧ Below w.heap.size w w')
    (first | assumption | (refine ⟨?_, ?_, ?_⟩ <;> first | assumption | exact Below.drew (by assumption) | exact below_al (by assumption) _ | exact below_al (Below.drew (by assumption)) _ | exact below_al (below_al (by assumption) _) _ | go_keep))
    (first
      | (go_at_call 69; refine (hend.out _ _ (by assumption)).mono ?_; rintro e w2 ⟨rfl, belb, hS2⟩; have hb := hS2.2.2)
      | (go_at_call 68; refine (hj.out _ _ _ _ _ _ (by assumption) (LS_three (by first | rfl | simp) (by repeat (first | assumption | apply XV.alloc | (refine XV.below ?_ belc) | (refine XV.below ?_ belb) | (refine XV.below ?_ bela))) (by repeat (first | assumption | exact XV_new rfl | exact XV_new (by simp) | apply XV.alloc | (refine XV.below ?_ belc) | (refine XV.below ?_ belb) | (refine XV.below ?_ bela))) (by repeat (first | assumption | apply XV.alloc | (refine XV.below ?_ belc) | (refine XV.below ?_ belb) | (refine XV.below ?_ bela))))).mono ?_; rintro e w4 ⟨v4, rfl, hown4, hS4⟩)
      | (go_at_call_of 66 (Value.int IntKind.i64 1048576); refine (hp2.out _ _ (by assumption)).mono ?_; rintro e w3 ⟨a3, n3, c3, rfl, hx3, belc, hS3⟩; have hb := hS3.2.2)
      | (go_at_call 66; refine (hp1.out _ _ (by assumption)).mono ?_; rintro e w2 ⟨a1, n1, c1, rfl, hx1, bela, hS1⟩; have hb := hS1.2.2))
  all_goals
    clear hp1 hp2 hend hj hval hft
    go_wp2_with fail
    go_ret2
    exact ⟨v4, rfl, hown4, hS4.2.2⟩

set_option maxRecDepth 100000 in
set_option maxHeartbeats 1000000 in
theorem Write_none (ao : Option Addr) (n cap : Nat) (l : List (Int × ByteArray)) (f : Int) (d : ByteArray) (w : World) (h : XS w ao n cap l) (hf : XFit l) (hv : EM.ok 0 l = true) (h0 : 0 ≤ f) (h1 : f + d.size ≤ 1048576) (hd : d.size = 0) :
    Calls Try.prog 49 #[.slice ao n cap, .int .i64 f, .string d] w (Gave (EM.wr l f d) 0 w) := by
  have hval := xvalid_any ao n cap l w h hf
  have H := W_hid h
  have hft : Hid (∀ w, Calls Try.prog 67 #[.int .i64 f, .string d] w fun e w' => e = .returned (.bool true) ∧ w = w') := by
    intro w
    have := fits_any f d w (by unfold I64; omega) (by unfold maxLen; omega)
    rwa [decide_eq_true h1] at this
  obtain ⟨s1, s2⟩ := xempty hd
  have hwr := W_hid (EM.wr_nil (f := f) hv hd)
  have hok := W_hid hv
  rw [hv] at hval
  have hval := W_hid hval
  have hfn : decide (f < 0) = false := by simp; omega
  clear h hv
  go_enter Try.func49, Try.ntmps49
  go_wp2_with fail
  refine hval.out.mono ?_
  rintro e w1 ⟨rfl, bel1⟩
  go_wp2_with fail
  refine (hft.out _).mono ?_
  rintro e w' ⟨rfl, rfl⟩
  have hj := joined_any _ 1 1 _ _ (LS_one (t := 70) rfl (H.out.below bel1 (Nat.le_refl _))) (by rw [alls_one]; exact EM.ok_wk hok.out)
  rw [alls_one, EM.merge_id hok.out] at hj
  have hj := W_hid hj
  have bel4 := below_al bel1 (.cells #[.slice ao n cap] 70)
  go_wp2_with fail
  refine hj.out.mono ?_
  rintro e w3 ⟨v3, rfl, hown3, bel5⟩
  go_wp2_with fail
  go_ret2
  refine ⟨v3, rfl, ?_, below_tr bel4 bel5⟩
  rw [hwr.out]
  exact Own.low bel4.size hown3

set_option maxRecDepth 100000 in
set_option maxHeartbeats 1000000 in
theorem Write_any (ao : Option Addr) (n cap : Nat) (l : List (Int × ByteArray)) (f : Int) (d : ByteArray) (w : World) (h : XS w ao n cap l) (hf : XFit l) (hff : I64 f) (hd : d.size ≤ maxLen) :
    Calls Try.prog 49 #[.slice ao n cap, .int .i64 f, .string d] w (Gave (wrL l f d) (wrE l f d) w) := by
  have hval := xvalid_any ao n cap l w h hf
  cases hv : EM.ok 0 l with
  | false =>
    have HE := W_hid (fun w' => @gave_no (wrL l f d) (wrE l f d) w w' 2 (wr_no (by unfold wrE; rw [hv]; exact if_neg (by simp)) (by decide)))
    rw [hv] at hval
    have hval := W_hid hval
    clear hv h
    go_enter Try.func49, Try.ntmps49
    go_wp2_with fail
    refine hval.out.mono ?_
    rintro e w1 ⟨rfl, bel1⟩
    go_wp2_with fail
    go_ret2
    exact HE.out _ bel1
  | true =>
    by_cases h0 : f < 0
    · have HE := W_hid (fun w' => @gave_no (wrL l f d) (wrE l f d) w w' 2 (wr_no (by unfold wrE; rw [hv]; exact if_neg (by omega)) (by decide)))
      rw [hv] at hval
      have hval := W_hid hval
      clear hv h
      go_enter Try.func49, Try.ntmps49
      go_wp2_with fail
      refine hval.out.mono ?_
      rintro e w1 ⟨rfl, bel1⟩
      go_wp2_with fail
      go_ret2
      exact HE.out _ bel1
    by_cases h1 : f + d.size ≤ 1048576
    · have he : wrE l f d = 0 := by unfold wrE; rw [hv, if_pos ⟨rfl, by omega⟩, if_pos h1]
      have hL : wrL l f d = EM.wr l f d := by unfold wrL; rw [if_pos he]
      rw [he, hL]
      by_cases hd0 : d.size = 0
      · exact Write_none ao n cap l f d w h hf hv (by omega) h1 hd0
      · exact Write_in ao n cap l f d w h hf hv (by omega) h1 hd0
    · have HE := W_hid (fun w' => @gave_no (wrL l f d) (wrE l f d) w w' 28 (wr_no (by unfold wrE; rw [hv, if_pos ⟨rfl, by omega⟩, if_neg h1]) (by decide)))
      have hft : Hid (∀ w, Calls Try.prog 67 #[.int .i64 f, .string d] w fun e w' => e = .returned (.bool false) ∧ w = w') := by
        intro w
        have := fits_any f d w hff hd
        rwa [decide_eq_false h1] at this
      rw [hv] at hval
      have hval := W_hid hval
      clear hv h
      go_enter Try.func49, Try.ntmps49
      go_wp2_with fail
      refine hval.out.mono ?_
      rintro e w1 ⟨rfl, bel1⟩
      go_wp2_with fail
      refine (hft.out _).mono ?_
      rintro e w' ⟨rfl, rfl⟩
      go_wp2_with fail
      go_ret2
      exact HE.out _ bel1

end Go.Proofs.Ytieneehpijilpaa

/- Contract of the document's own Norm: a path's normal form, or that it is no path; for all paths. -/
import Derived.Test.YtfageibidikppaaPathNorm
namespace Go.Proofs.Ytfageibidikppaa
open Go.ChangeShapes Go.WideShapes Go.ChangeAt Go.RowKit
set_option linter.unusedVariables false
set_option linter.unusedSimpArgs false

theorem keeps3r {w wr w2 : World} {o : Obj} {g0 g1 g2 B : Nat} {a0 d0 a1 d1 a2 d2 : Bool} {v0 v1 v2 : Value} {r : Option Nat}
    (h0 : PB wr g0 a0 v0 d0) (h1 : PB wr g1 a1 v1 d1) (h2 : PB wr g2 a2 v2 d2) (b0 : g0 < B) (b1 : g1 < B) (b2 : g2 < B) (hB : w.heap.size ≤ B) (hr : ∀ g, r = some g → B ≤ g) (bel : Below w.heap.size w wr)
    (hg : (wr.alloc o).grownBy w2 r) :
    PB w2 g0 a0 v0 d0 ∧ PB w2 g1 a1 v1 d1 ∧ PB w2 g2 a2 v2 d2 ∧ Below w.heap.size w w2 := by
  refine ⟨(h0.alloc _).grown hg ?_, (h1.alloc _).grown hg ?_, (h2.alloc _).grown hg ?_, (bel.alloc bel.size _).grown hg (by simp; have := bel.size; omega) (fun g h => by have := hr g h; omega)⟩
  · intro h; have := hr _ h.symm; omega
  · intro h; have := hr _ h.symm; omega
  · intro h; have := hr _ h.symm; omega

theorem make_strings (m : Nat) (z : Int) (hzm : z = m) (h : m ≤ 1000000) : ∃ X : Obj, (∀ W : World, (Instr.makeSlice 23 (.int .i64 0) (.int .i64 z)).run Try.prog W = .ok (.slice (some ⟨W.heap.size, 0, none⟩) 0 m) (W.alloc X)) ∧
    ∀ (W : World) (base : Nat), base ≤ W.heap.size → (W.alloc X).ownsRow base 9 1 (.slice (some ⟨W.heap.size, 0, none⟩) 0 m) 0 [] := by
  subst hzm
  obtain ⟨i0, hi, hz0, hz1, hz2⟩ := info_parts info_str
  refine ⟨_, fun W => ?_, fun W base hb => World.ownsRow_made (size := 1) W _ m hb (by unfold maxLen; omega) (size_madeCells (Value.string ByteArray.empty).cells (m * 1))⟩
  have hr := run_make (P := Try.prog) W 23 9 i0 (.string ByteArray.empty) Try.underlying23 hi hz0 .i64 .i64 0 (m : Int) (Int.le_refl _) (by omega) (by rw [hz2]; omega) (by omega)
  simp only [Int.toNat_zero, Int.toNat_natCast, hz1] at hr
  exact hr

set_option maxRecDepth 100000 in
set_option maxHeartbeats 4000000 in
theorem rNorm_any (a d : Bool) (ao : Option Addr) (n cap : Nat) (l : List ByteArray) (w : World) (h : SS w ao n cap l) (hf : Fit n l) :
    Calls Try.prog 18 #[.agg #[.bool a, .slice ao n cap, .bool d]] w (Normed a l d w) := by
  obtain ⟨i0, hi, hz0, hz1, hz2⟩ := info_parts info_str
  have bb : Below w.heap.size w ((w.alloc (.cells #[.bool a, .slice ao n cap, .bool d] 25)).alloc (.cells #[.bool false, .slice none 0 0, .bool false] 25)) := ((Below.refl _ _).alloc (Nat.le_refl _) _).alloc (by simp) _
  have s1 := (h.alloc (.cells #[.bool a, .slice ao n cap, .bool d] 25)).alloc (.cells #[.bool false, .slice none 0 0, .bool false] 25)
  have p1 := (PB.new w a (.slice ao n cap) d rfl).alloc (.cells #[.bool false, .slice none 0 0, .bool false] 25)
  have r1 : PB _ (w.heap.size + 1) false (.slice none 0 0) false := PB.new (w.alloc (.cells #[.bool a, .slice ao n cap, .bool d] 25)) false (.slice none 0 0) false (by simp)
  have hR := Right_any a d ao n cap l _ s1 hf
  have L := W_hid h.1
  cases hv : PM.valid a l d with
  | false =>
    have HE := W_hid (fun w' => @normed_no a d l w w' hv)
    rw [hv] at hR
    have hR := W_hid hR
    clear hv
    go_enter Try.func18, Try.ntmps18
    go_wp2_with fail
    refine hR.out.mono ?_
    rintro e w1 ⟨rfl, bel1⟩
    have r2 := r1.below bel1 (by simp)
    have c0 := r2.c0
    have c1 := r2.c1
    have c2 := r2.c2
    have f1 := r2.fz
    have b1 := bb.trans (bel1.mono bb.size)
    clear p1 r1
    go_wp2_with fail
    have b2 := ((b1.setCell (p := ⟨w.heap.size + 1, 0, none⟩) (by simp) (.bool false)).setCell (p := ⟨w.heap.size + 1, 1, none⟩) (by simp) (.slice none 0 0)).setCell (p := ⟨w.heap.size + 1, 2, none⟩) (by simp) (.bool false)
    exact bodyPost_ret (res_path Try.results18 _ _ rfl (((r2.set0 false).set1 (.slice none 0 0)).set2 false)) rfl (HE.out _ b2)
  | true =>
    have HE := W_hid (fun w' v => @normed_yes a d l w w' v hv)
    have hn : n ≤ 257 := by have := PM.valid_count hv; have := h.1; omega
    rw [hv] at hR
    have hR := W_hid hR
    clear hv
    go_enter Try.func18, Try.ntmps18
    go_wp2_with fail
    refine hR.out.mono ?_
    rintro e w1 ⟨rfl, bel1⟩
    replace r1 := r1.below bel1 (by simp)
    replace p1 := p1.below bel1 (by simp; omega)
    have c0 := p1.c0
    have c1 := p1.c1
    have c2 := p1.c2
    have b1 := bb.trans (bel1.mono bb.size)
    go_wp2_with fail
    have hgz : w.heap.size + 2 ≤ w1.heap.size := by have := bel1.size; simp at this; omega
    have q0 := p1.alloc (.cells #[.bool a, .slice none 0 0, .bool d] 25)
    have q1 := r1.alloc (.cells #[.bool a, .slice none 0 0, .bool d] 25)
    have q2 := PB.new w1 a (.slice none 0 0) d rfl
    have b2 := b1.alloc b1.size (.cells #[.bool a, .slice none 0 0, .bool d] 25)
    clear c0 c1 c2 p1 r1 b1 bb hR hf s1
    go_loopw [6] (fun i wr => ∃ (k : Nat) (v : Value) (o : List ByteArray), k ≤ n ∧ i = .int .i64 k ∧ o.length ≤ k ∧ Hid ((l.take k).foldl (PM.step a) [] = o) ∧ PB wr w.heap.size a (.slice ao n cap) d ∧ PB wr (w.heap.size + 1) false (.slice none 0 0) false ∧
      PB wr w1.heap.size a v d ∧ wr.ownsRow (w1.heap.size + 1) 9 1 v o.length (scl o) ∧ Below w.heap.size w wr) (fun i _ => n - (intOf i).toNat)
    case atStart => exact ⟨0, _, [], Nat.zero_le _, rfl, Nat.le_refl _, rfl, q0, q1, q2, World.ownsRow_nil _ _ _ _, b2⟩
    case round =>
      clear q0 q1 q2 b2
      obtain ⟨k, v, o, hk, rfl, hol, hfold, q0, q1, q2, hown, bel⟩ := hrel
      obtain ⟨ox, cx, rfl⟩ := own_form hown
      have c0 := q0.c0
      have c1 := q0.c1
      have c20 := q2.c0
      have c21 := q2.c1
      have c22 := q2.c2
      have f2 := q2.fz
      by_cases hlt : k < n
      · have k1 : k < l.length := by rw [L.out]; exact hlt
        obtain ⟨b1, o1, rfl, g1⟩ := (h.below bel (Nat.le_refl _)).at_ (by omega)
        have e1 := g1 k hlt
        obtain ⟨p, hp1⟩ : ∃ p, l[k] = p := ⟨_, rfl⟩
        rw [hp1] at e1
        have hnext : Hid ((l.take (k + 1)).foldl (PM.step a) [] = PM.step a o p) := by
          show _ = _
          rw [foldl_take a l k k1 o hfold.out, hp1]
        clear hp1 hfold g1
        by_cases h1 : p = PM.dot
        · have hst : Hid ((l.take (k + 1)).foldl (PM.step a) [] = o) := by
            show _ = _
            rw [hnext.out]; unfold PM.step; rw [if_pos h1]
          have t1 := dot_yes h1
          clear h1 hnext
          go_wp2_with fail
          go_roundw
          case rel => exact ⟨k + 1, _, o, by omega, by go_num, by omega, hst, q0, q1, q2, hown, bel⟩
          case measure => simp [intOf]; omega
        · obtain ⟨t1, t2⟩ := dot_no h1
          by_cases h2 : p = PM.dots
          · have t3 := dots_yes h2
            rcases List.eq_nil_or_concat o with rfl | ⟨q, x, rfl⟩
            · simp only [List.length_nil] at q2 hown c21 hol
              cases a with
              | true =>
                have hst : Hid ((l.take (k + 1)).foldl (PM.step true) [] = []) := by
                  show _ = _
                  rw [hnext.out]; unfold PM.step; rw [if_neg h1, if_neg (fun h => h.2.1 rfl), if_pos ⟨h2, rfl, rfl⟩]
                clear h1 h2 hnext
                go_wp2_with fail
                go_roundw
                case rel => exact ⟨k + 1, _, [], by omega, by go_num, by simp, hst, q0, q1, q2, hown, bel⟩
                case measure => simp [intOf]; omega
              | false =>
                have hst : Hid ((l.take (k + 1)).foldl (PM.step false) [] = [] ++ [p]) := by
                  show _ = _
                  rw [hnext.out]; unfold PM.step; rw [if_neg h1, if_neg (fun h => h.2.1 rfl), if_neg (fun h => by cases h.2.2)]
                clear h1 h2 hnext
                have d1' : ∀ x, (wr.alloc x).cell? ⟨w1.heap.size, 1, none⟩ = some (.slice ox 0 cx) := fun x => (q2.alloc x).c1
                have d0' : ∀ x, (wr.alloc x).cell? ⟨w.heap.size, 1, none⟩ = some (.slice (some ⟨b1, o1, none⟩) n cap) := fun x => (q0.alloc x).c1
                have e1' : ∀ x, (wr.alloc x).cell? ⟨b1, o1 + k, none⟩ = some (.string p) := fun x => (World.cell?_alloc_lt wr x _ (World.block_lt_of_cell? wr _ e1)).trans e1
                go_wp2_with fail
                go_region_law (refine step_append_wide rfl (.tmp 29) (.tmp 35) 23 rfl (w1.heap.size + 1) 9 i0 (.string ByteArray.empty) 1 16 Try.underlying23 hi hz0 hz1 hz2 rfl (by decide) (.slice ox 0 cx) 0 (scl []) rfl (hown.alloc _) ⟨wr.heap.size, 0, none⟩ 1 1 [.string p] rfl rfl (cell_one_new _ _ _) (by intro u hu; simp at hu; subst hu; rfl) (by unfold maxLen; omega) (by omega) (by simp; have := q2.lt; omega) ?_; intro v2 w2 hown2 hgrow2; obtain ⟨ao2, cap2, rfl⟩ := own_form hown2; obtain ⟨m0, m1, m2, m3⟩ := keeps3r q0 q1 q2 (by omega) (by omega) (by omega) (by omega) (fun g hg => own_ge hown g hg) bel (grown_undrew hgrow2); have c20' := m2.c1; have f2' := m2.fz)
                all_goals
                  clear hown hgrow2 bel c0 c1 c20 c21 c22 f2 q0 q1 q2 d1' d0' e1'
                  go_wp2_with fail
                  have m2' := m2.set1 (.slice ao2 (0 + 1) cap2)
                  have m0' := m0.far (p := ⟨w1.heap.size, 1, none⟩) (by simp; omega) (.slice ao2 (0 + 1) cap2)
                  have m1' := m1.far (p := ⟨w1.heap.size, 1, none⟩) (by simp; omega) (.slice ao2 (0 + 1) cap2)
                  have ho' := own_set hown2 (by simp) (.slice ao2 (0 + 1) cap2) (p := ⟨w1.heap.size, 1, none⟩)
                  have b3' := m3.setCell (p := ⟨w1.heap.size, 1, none⟩) (by simp; omega) (.slice ao2 (0 + 1) cap2)
                  go_roundw
                  case rel => exact ⟨k + 1, _, [] ++ [p], by omega, by go_num, (by simp <;> omega), hst, m0', m1', m2', (by rw [scl_append, List.length_append]; skip; exact ho'), b3'⟩
                  case measure => simp [intOf]; omega
            · rw [List.concat_eq_append] at hol q2 hown hnext
              have hlen : (q ++ [x]).length = q.length + 1 := by simp
              rw [hlen] at hol q2 hown
              clear c21
              have c21 := q2.c1
              obtain ⟨b2, o2, hob, g2⟩ := (SS_own hown).at_ (by omega)
              subst hob
              have e2 : wr.cell? ⟨b2, o2 + q.length, none⟩ = some (.string x) := by
                have := g2 q.length (by omega)
                rw [List.getElem_append_right (Nat.le_refl _)] at this
                simpa using this
              have hcx : q.length + 1 ≤ cx := (SS_own hown).2.1
              have hqc : ∀ j u, (scl q)[j]? = some u → wr.cell? ((⟨b2, o2, none⟩ : Addr).add j) = some u := fun j u hu => by
                have hj : j < q.length := by
                  have := (List.getElem?_eq_some_iff.1 hu).1
                  rwa [scl_length] at this
                have := g2 j (by omega)
                rw [List.getElem_append_left hj] at this
                rw [Addr.add_lit, this, ← hu, scl_get, List.getElem?_eq_getElem hj]; rfl
              have hqc := W_hid hqc
              clear g2 hlen
              by_cases h3 : x = PM.dots
              · have t5 := dots_yes h3
                have hst : Hid ((l.take (k + 1)).foldl (PM.step a) [] = q ++ [x] ++ [p]) := by
                  show _ = _
                  rw [hnext.out]; unfold PM.step; rw [if_neg h1, if_neg (fun h => h.2.2 (by rw [List.getLast?_concat, h3])), if_neg (fun h => by simp at h)]
                clear h1 h2 h3 hnext
                have d1' : ∀ x, (wr.alloc x).cell? ⟨w1.heap.size, 1, none⟩ = some (.slice (some ⟨b2, o2, none⟩) (q.length + 1) cx) := fun x => (q2.alloc x).c1
                have d0' : ∀ x, (wr.alloc x).cell? ⟨w.heap.size, 1, none⟩ = some (.slice (some ⟨b1, o1, none⟩) n cap) := fun x => (q0.alloc x).c1
                have e1' : ∀ x, (wr.alloc x).cell? ⟨b1, o1 + k, none⟩ = some (.string p) := fun x => (World.cell?_alloc_lt wr x _ (World.block_lt_of_cell? wr _ e1)).trans e1
                go_wp2_with fail
                go_region_law (refine step_append_wide rfl (.tmp 29) (.tmp 35) 23 rfl (w1.heap.size + 1) 9 i0 (.string ByteArray.empty) 1 16 Try.underlying23 hi hz0 hz1 hz2 rfl (by decide) (.slice (some ⟨b2, o2, none⟩) (q.length + 1) cx) (q.length + 1) (scl (q ++ [x])) rfl (hown.alloc _) ⟨wr.heap.size, 0, none⟩ 1 1 [.string p] rfl rfl (cell_one_new _ _ _) (by intro u hu; simp at hu; subst hu; rfl) (by unfold maxLen; omega) (by omega) (by simp; have := q2.lt; omega) ?_; intro v2 w2 hown2 hgrow2; obtain ⟨ao2, cap2, rfl⟩ := own_form hown2; obtain ⟨m0, m1, m2, m3⟩ := keeps3r q0 q1 q2 (by omega) (by omega) (by omega) (by omega) (fun g hg => own_ge hown g hg) bel (grown_undrew hgrow2); have c20' := m2.c1; have f2' := m2.fz)
                all_goals
                  clear hown hgrow2 bel c0 c1 c20 c21 c22 f2 q0 q1 q2 d1' d0' e1'
                  go_wp2_with fail
                  have m2' := m2.set1 (.slice ao2 ((q.length + 1) + 1) cap2)
                  have m0' := m0.far (p := ⟨w1.heap.size, 1, none⟩) (by simp; omega) (.slice ao2 ((q.length + 1) + 1) cap2)
                  have m1' := m1.far (p := ⟨w1.heap.size, 1, none⟩) (by simp; omega) (.slice ao2 ((q.length + 1) + 1) cap2)
                  have ho' := own_set hown2 (by simp) (.slice ao2 ((q.length + 1) + 1) cap2) (p := ⟨w1.heap.size, 1, none⟩)
                  have b3' := m3.setCell (p := ⟨w1.heap.size, 1, none⟩) (by simp; omega) (.slice ao2 ((q.length + 1) + 1) cap2)
                  go_roundw
                  case rel => exact ⟨k + 1, _, (q ++ [x]) ++ [p], by omega, by go_num, (by simp <;> omega), hst, m0', m1', m2', (by rw [scl_append, List.length_append]; simp only [List.length_append, List.length_cons, List.length_nil]; exact ho'), b3'⟩
                  case measure => simp [intOf]; omega
              · obtain ⟨t5, t6⟩ := dots_no h3
                have hst : Hid ((l.take (k + 1)).foldl (PM.step a) [] = q) := by
                  show _ = _
                  rw [hnext.out]; unfold PM.step; rw [if_neg h1, if_pos ⟨h2, by simp, by rw [List.getLast?_concat]; simpa using h3⟩, List.dropLast_concat]
                obtain ⟨X, hmk, hmo⟩ := make_strings (q.length + 1) ((q.length : Int) + 1) (by omega) (by omega)
                have hmo := W_hid (hmo wr (w1.heap.size + 1) (by have := q2.lt; omega))
                have d1' : ∀ x, (wr.alloc x).cell? ⟨w1.heap.size, 1, none⟩ = some (.slice (some ⟨b2, o2, none⟩) (q.length + 1) cx) := fun x => (q2.alloc x).c1
                have hqa := W_hid (fun (o : Obj) j u (hu : (scl q)[j]? = some u) => (World.cell?_alloc_lt wr o _ (World.block_lt_of_cell? wr _ (hqc.out j u hu))).trans (hqc.out j u hu))
                have hgr : w1.heap.size + 1 ≤ wr.heap.size := by have := q2.lt; omega
                have hwr : IntKind.i64.wrap (q.length : Int) = (q.length : Int) := by rw [IntKind.wrap_i64]; omega
                have hcx2 : q.length ≤ cx := by omega
                clear h1 h2 h3 hnext
                go_wp2_with fail
                go_region_law (refine step_append_wide rfl (.tmp 66) (.tmp 71) 23 rfl (w1.heap.size + 1) 9 i0 (.string ByteArray.empty) 1 16 Try.underlying23 hi hz0 hz1 hz2 rfl (by decide) (.slice (some ⟨wr.heap.size, 0, none⟩) 0 (q.length + 1)) 0 [] rfl hmo.out ⟨b2, o2, none⟩ q.length cx (scl q) rfl (by rw [scl_length, Nat.mul_one]) (hqa.out X) (scl_one q) (by unfold maxLen; omega) (by omega) (by simp; omega) ?_; intro v2 w2 hown2 hgrow2; obtain ⟨ao2, cap2, rfl⟩ := own_form hown2; obtain ⟨m0, m1, m2, m3⟩ := keeps3r (B := w1.heap.size + 1) (r := some wr.heap.size) q0 q1 q2 (by omega) (by omega) (by omega) (by omega) (fun g hg => by have := Option.some.inj hg; omega) bel (grown_undrew hgrow2); have c20' := m2.c1; have f2' := m2.fz)
                all_goals
                  clear hown hgrow2 bel c0 c1 c20 c21 c22 f2 q0 q1 q2 d1' hmk
                  simp only [Nat.zero_add, List.nil_append] at hown2
                  go_wp2_with fail
                  have m2' := m2.set1 (.slice ao2 q.length cap2)
                  have m0' := m0.far (p := ⟨w1.heap.size, 1, none⟩) (by simp; omega) (.slice ao2 q.length cap2)
                  have m1' := m1.far (p := ⟨w1.heap.size, 1, none⟩) (by simp; omega) (.slice ao2 q.length cap2)
                  have ho' := own_set hown2 (by simp) (.slice ao2 q.length cap2) (p := ⟨w1.heap.size, 1, none⟩)
                  have b3' := m3.setCell (p := ⟨w1.heap.size, 1, none⟩) (by simp; omega) (.slice ao2 q.length cap2)
                  go_roundw
                  case rel => exact ⟨k + 1, _, q, by omega, by go_num, by omega, hst, m0', m1', m2', ho', b3'⟩
                  case measure => simp [intOf]; omega
          · obtain ⟨t3, t4⟩ := dots_no h2
            have hst : Hid ((l.take (k + 1)).foldl (PM.step a) [] = o ++ [p]) := by
              show _ = _
              rw [hnext.out]; unfold PM.step; rw [if_neg h1, if_neg (fun h => h2 h.1), if_neg (fun h => h2 h.1)]
            clear h1 h2 hnext
            have d1' : ∀ x, (wr.alloc x).cell? ⟨w1.heap.size, 1, none⟩ = some (.slice ox o.length cx) := fun x => (q2.alloc x).c1
            have d0' : ∀ x, (wr.alloc x).cell? ⟨w.heap.size, 1, none⟩ = some (.slice (some ⟨b1, o1, none⟩) n cap) := fun x => (q0.alloc x).c1
            have e1' : ∀ x, (wr.alloc x).cell? ⟨b1, o1 + k, none⟩ = some (.string p) := fun x => (World.cell?_alloc_lt wr x _ (World.block_lt_of_cell? wr _ e1)).trans e1
            go_wp2_with fail
            go_region_law (refine step_append_wide rfl (.tmp 29) (.tmp 35) 23 rfl (w1.heap.size + 1) 9 i0 (.string ByteArray.empty) 1 16 Try.underlying23 hi hz0 hz1 hz2 rfl (by decide) (.slice ox o.length cx) o.length (scl o) rfl (hown.alloc _) ⟨wr.heap.size, 0, none⟩ 1 1 [.string p] rfl rfl (cell_one_new _ _ _) (by intro u hu; simp at hu; subst hu; rfl) (by unfold maxLen; omega) (by omega) (by simp; have := q2.lt; omega) ?_; intro v2 w2 hown2 hgrow2; obtain ⟨ao2, cap2, rfl⟩ := own_form hown2; obtain ⟨m0, m1, m2, m3⟩ := keeps3r q0 q1 q2 (by omega) (by omega) (by omega) (by omega) (fun g hg => own_ge hown g hg) bel (grown_undrew hgrow2); have c20' := m2.c1; have f2' := m2.fz)
            all_goals
              clear hown hgrow2 bel c0 c1 c20 c21 c22 f2 q0 q1 q2 d1' d0' e1'
              go_wp2_with fail
              have m2' := m2.set1 (.slice ao2 (o.length + 1) cap2)
              have m0' := m0.far (p := ⟨w1.heap.size, 1, none⟩) (by simp; omega) (.slice ao2 (o.length + 1) cap2)
              have m1' := m1.far (p := ⟨w1.heap.size, 1, none⟩) (by simp; omega) (.slice ao2 (o.length + 1) cap2)
              have ho' := own_set hown2 (by simp) (.slice ao2 (o.length + 1) cap2) (p := ⟨w1.heap.size, 1, none⟩)
              have b3' := m3.setCell (p := ⟨w1.heap.size, 1, none⟩) (by simp; omega) (.slice ao2 (o.length + 1) cap2)
              go_roundw
              case rel => exact ⟨k + 1, _, o ++ [p], by omega, by go_num, (by simp <;> omega), hst, m0', m1', m2', (by rw [scl_append, List.length_append]; skip; exact ho'), b3'⟩
              case measure => simp [intOf]; omega
      · obtain rfl : k = n := by omega
        have hfin : Hid (PM.fold a l = o) := by
          have := hfold.out
          rw [List.take_of_length_le (by rw [L.out]; exact Nat.le_refl _)] at this
          exact this
        clear hfold
        have c10 := q1.c0
        have c11 := q1.c1
        have c12 := q1.c2
        have f1 := q1.fz
        by_cases h0 : o = []
        · subst h0
          simp only [List.length_nil] at q2 hown c21
          cases a with
          | true =>
            have hN : Hid (PM.normL true l = [] ∧ PM.normD true l d = true) := by
              refine W_hid ⟨?_, ?_⟩
              · unfold PM.normL; rw [hfin.out]; rfl
              · unfold PM.normD; rw [hfin.out]; cases d <;> rfl
            have q1' := q1.far (p := ⟨w1.heap.size, 2, none⟩) (by simp; omega) (.bool true)
            have hown' := own_set hown (by simp) (.bool true) (p := ⟨w1.heap.size, 2, none⟩)
            have b3' := bel.setCell (p := ⟨w1.heap.size, 2, none⟩) (by simp; omega) (.bool true)
            obtain ⟨z1, z2, z3⟩ := fin_world (a := true) (d := true) q1' hown' (by omega) (by omega) b3'
            go_wp2_with fail
            refine bodyPost_ret (res_path Try.results18 _ _ rfl z1) rfl ?_
            have := HE.out _ _ (by rw [hN.out.1]; exact z2) z3
            rw [hN.out.2] at this
            exact this
          | false =>
            have hN : Hid (PM.normL false l = [PM.dot] ∧ PM.normD false l d = d) := by
              refine W_hid ⟨?_, ?_⟩
              · unfold PM.normL; rw [hfin.out]; rfl
              · unfold PM.normD; rw [hfin.out]; cases d <;> rfl
            have z20 := fun x => (q2.alloc x).c0
            have z21 := fun x => (q2.alloc x).c1
            have z22 := fun x => (q2.alloc x).c2
            have z2f := fun x => (q2.alloc x).fz
            have z10 := fun x => (q1.alloc x).c0
            have z11 := fun x => (q1.alloc x).c1
            have z12 := fun x => (q1.alloc x).c2
            have z1f := fun x => (q1.alloc x).fz
            have q1' := (q1.alloc (.cells #[.string PM.dot] 9)).far (p := ⟨w1.heap.size, 1, none⟩) (by simp; omega) (.slice (some ⟨wr.heap.size, 0, none⟩) 1 1)
            have hnew : (wr.alloc (.cells #[.string PM.dot] 9)).ownsRow (w1.heap.size + 1) 9 1 (.slice (some ⟨wr.heap.size, 0, none⟩) 1 1) 1 (scl [PM.dot]) :=
              ⟨rfl, .inr ⟨wr.heap.size, 1, #[.string PM.dot], rfl, by have := q2.lt; omega, heap_alloc_new wr _, Nat.le_refl _, by unfold maxLen; omega, rfl, rfl⟩⟩
            have hown' := own_set hnew (by simp) (.slice (some ⟨wr.heap.size, 0, none⟩) 1 1) (p := ⟨w1.heap.size, 1, none⟩)
            have b3' := (bel.alloc bel.size (.cells #[.string PM.dot] 9)).setCell (p := ⟨w1.heap.size, 1, none⟩) (by simp; omega) (.slice (some ⟨wr.heap.size, 0, none⟩) 1 1)
            obtain ⟨z1, z2, z3⟩ := fin_world (a := false) (d := d) q1' hown' (by omega) (by omega) b3'
            go_wp2_with fail
            refine bodyPost_ret (res_path Try.results18 _ _ rfl z1) rfl ?_
            have := HE.out _ _ (by rw [hN.out.1]; exact z2) z3
            rw [hN.out.2] at this
            exact this
        · have hN : Hid (PM.normL a l = o ∧ PM.normD a l d = d) := by
            refine W_hid ⟨?_, ?_⟩
            · unfold PM.normL; rw [hfin.out, if_neg (fun h => h0 h.1)]
            · unfold PM.normD; rw [hfin.out]; simp [h0]
          have hlen : ((o.length : Int) == 0) = false := by
            have := List.length_pos_iff.2 h0
            simp; exact h0
          have hlen2 : 0 < o.length := List.length_pos_iff.2 h0
          obtain ⟨z1, z2, z3⟩ := fin_world (a := a) (d := d) q1 hown (by omega) (by omega) bel
          clear h0
          go_wp2_with fail
          refine bodyPost_ret (res_path Try.results18 _ _ rfl z1) rfl ?_
          have := HE.out _ _ (by rw [hN.out.1]; exact z2) z3
          rw [hN.out.2] at this
          exact this

end Go.Proofs.Ytfageibidikppaa

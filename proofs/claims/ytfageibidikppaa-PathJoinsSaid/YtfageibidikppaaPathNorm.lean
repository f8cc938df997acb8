/- Contract of Norm, the program's: a path's normal form, or that it is no path; for all paths. -/
import Derived.Test.YtfageibidikppaaPathShow2
import Derived.WalkMore
import Derived.Deep.LoopGhost
namespace Go.Proofs.Ytfageibidikppaa
open Go.ChangeShapes Go.WideShapes Go.ChangeAt Go.RowKit
set_option linter.unusedVariables false
set_option linter.unusedSimpArgs false

theorem scl_take (l : List ByteArray) (k : Nat) : (scl l).take k = scl (l.take k) := by simp [scl, List.map_take]
/-- What is owned, cut at its end. -/
theorem own_cut {w : World} {base e : Nat} {ao : Option Addr} {n cap : Nat} {l : List ByteArray} (h : w.ownsRow base e 1 (.slice ao n cap) n (scl l)) {k : Nat} (hk : k ≤ n) : w.ownsRow base e 1 (.slice ao k cap) k (scl (l.take k)) := by
  have hl : l.length = n := by have := h.1; rw [scl_length] at this; omega
  rcases h.2 with ⟨h', h''⟩ | ⟨g, cap', cur, h', hb, hg, hnc, hcm, hcs, htake⟩
  · simp only [Value.slice.injEq] at h'
    obtain ⟨rfl, rfl, rfl⟩ := h'
    obtain rfl : k = 0 := by omega
    exact World.ownsRow_nil _ _ _ _
  · simp only [Value.slice.injEq, true_and] at h'
    obtain ⟨rfl, rfl⟩ := h'
    refine ⟨by rw [scl_length, List.length_take]; omega, .inr ⟨g, cap, cur, rfl, hb, hg, by omega, hcm, hcs, ?_⟩⟩
    rw [Nat.mul_one] at htake ⊢
    rw [← scl_take, ← htake, List.take_take, Nat.min_eq_left hk]

set_option maxHeartbeats 1000000 in
theorem remove_yes (g : Nat) (a d : Bool) (ao : Option Addr) (cap : Nat) (q : List ByteArray) (x : ByteArray) (w : World) (hp : PB w g a (.slice ao (q.length + 1) cap) d) (hs : SS w ao (q.length + 1) cap (q ++ [x])) (hx : x ≠ PM.dots) :
    Calls Try.prog 27 #[.pointer (some ⟨g, 0, none⟩)] w fun e w' => e = .returned (.bool true) ∧ w.setCell ⟨g, 1, none⟩ (.slice ao q.length cap) = w' := by
  obtain ⟨f1, f2⟩ := dots_no hx
  obtain ⟨b, o, rfl, hc⟩ := hs.at_ (by omega)
  have e1 : w.cell? ⟨b, o + q.length, none⟩ = some (.string x) := by
    have := hc q.length (by omega)
    rw [List.getElem_append_right (Nat.le_refl _)] at this
    simpa using this
  have hm : q.length + 1 ≤ 9223372036854775807 := by have := hs.2.1; have := hs.2.2.1; unfold maxLen at this; omega
  have hcap : q.length ≤ cap := by have := hs.2.1; omega
  have c1 := hp.c1
  have f3 := hp.fz
  clear hc hs hx hp
  go_enter Try.func27, Try.ntmps27
  go_wp2_with fail
  go_ret
  exact ⟨rfl, rfl⟩

set_option maxHeartbeats 1000000 in
theorem remove_no (g : Nat) (a d : Bool) (ao : Option Addr) (cap : Nat) (l : List ByteArray) (w : World) (hp : PB w g a (.slice ao l.length cap) d) (hs : SS w ao l.length cap l) (hx : ¬ (l ≠ [] ∧ l.getLast? ≠ some PM.dots)) :
    Calls Try.prog 27 #[.pointer (some ⟨g, 0, none⟩)] w fun e w' => e = .returned (.bool false) ∧ w = w' := by
  rcases List.eq_nil_or_concat l with rfl | ⟨q, x, rfl⟩
  · have c1 := hp.c1
    simp only [List.length_nil] at c1
    clear hp hs hx
    go_enter Try.func27, Try.ntmps27
    go_wp2_with fail
    go_ret
    exact ⟨rfl, rfl⟩
  · rw [List.concat_eq_append] at hs hp hx
    have hxd : x = PM.dots := by
      apply Classical.byContradiction
      intro hn
      apply hx
      refine ⟨by simp, ?_⟩
      rw [List.getLast?_concat]
      simpa using hn
    have f1 := dots_yes hxd
    obtain ⟨b, o, rfl, hc⟩ := hs.at_ (by simp)
    have e1 : w.cell? ⟨b, o + q.length, none⟩ = some (.string x) := by
      have := hc q.length (by simp)
      rw [List.getElem_append_right (Nat.le_refl _)] at this
      simpa using this
    have hm : q.length + 1 ≤ 9223372036854775807 := by have := hs.2.1; have := hs.2.2.1; unfold maxLen at this; simp at *; omega
    have c1 := hp.c1
    simp only [List.length_append, List.length_cons, List.length_nil, Nat.zero_add] at c1
    clear hc hs hx hp hxd
    go_enter Try.func27, Try.ntmps27
    go_wp2_with fail
    go_ret
    exact ⟨rfl, rfl⟩

theorem remove_last (g : Nat) (a d : Bool) (ao : Option Addr) (cap : Nat) (o : List ByteArray) (w : World) (hp : PB w g a (.slice ao o.length cap) d) (hs : SS w ao o.length cap o) (hx : o ≠ [] ∧ o.getLast? ≠ some PM.dots) :
    Calls Try.prog 27 #[.pointer (some ⟨g, 0, none⟩)] w fun e w' => e = .returned (.bool true) ∧ w.setCell ⟨g, 1, none⟩ (.slice ao o.dropLast.length cap) = w' := by
  rcases List.eq_nil_or_concat o with rfl | ⟨q, x, rfl⟩
  · exact absurd rfl hx.1
  · rw [List.concat_eq_append] at hp hs hx ⊢
    have hxd : x ≠ PM.dots := by
      have := hx.2
      rw [List.getLast?_concat] at this
      simpa using this
    rw [List.length_append] at hp hs
    rw [List.dropLast_concat]
    exact remove_yes g a d ao cap q x w hp hs hxd

/-- What Norm answers. -/
def noA (a : Bool) (l : List ByteArray) (d : Bool) : Bool := if PM.valid a l d = true then a else false
def noL (a : Bool) (l : List ByteArray) (d : Bool) : List ByteArray := if PM.valid a l d = true then PM.normL a l else []
def noD (a : Bool) (l : List ByteArray) (d : Bool) : Bool := if PM.valid a l d = true then PM.normD a l d else false
def Normed (a : Bool) (l : List ByteArray) (d : Bool) (w : World) (e : Ending) (w' : World) : Prop := ∃ v, e = .returned (.tuple #[.agg #[.bool (noA a l d), v, .bool (noD a l d)], .int .i64 (shE a l d)]) ∧
      w'.ownsRow w.heap.size 9 1 v (noL a l d).length (scl (noL a l d)) ∧ Below w.heap.size w w'
theorem normed_no {a d : Bool} {l : List ByteArray} {w w' : World} (hv : PM.valid a l d = false) (hb : Below w.heap.size w w') : Normed a l d w (.returned (.tuple #[.agg #[.bool false, .slice none 0 0, .bool false], .int .i64 2])) w' := by
  unfold Normed noA noL noD shE
  rw [hv]
  exact ⟨_, rfl, World.ownsRow_nil _ _ _ _, hb⟩
theorem normed_yes {a d : Bool} {l : List ByteArray} {w w' : World} {v : Value} (hv : PM.valid a l d = true) (hown : w'.ownsRow w.heap.size 9 1 v (PM.normL a l).length (scl (PM.normL a l))) (hb : Below w.heap.size w w') :
    Normed a l d w (.returned (.tuple #[.agg #[.bool a, v, .bool (PM.normD a l d)], .int .i64 0])) w' := by
  unfold Normed noA noL noD shE
  rw [hv]
  exact ⟨_, rfl, hown, hb⟩

/-- Three blocks below a row, and what was there, through an append to the row: the source in a new block. -/
theorem keeps3 {w wr w2 : World} {o : Obj} {g0 g1 g2 B : Nat} {a0 d0 a1 d1 a2 d2 : Bool} {v0 v1 v2 v : Value} {n : Nat} {xs : List Value} {e : TypeId}
    (h0 : PB wr g0 a0 v0 d0) (h1 : PB wr g1 a1 v1 d1) (h2 : PB wr g2 a2 v2 d2) (b0 : g0 < B) (b1 : g1 < B) (b2 : g2 < B) (hB : w.heap.size ≤ B) (hown : wr.ownsRow B e 1 v n xs) (bel : Below w.heap.size w wr)
    (hg : (wr.alloc o).grownBy w2 v.ownBlock) :
    PB w2 g0 a0 v0 d0 ∧ PB w2 g1 a1 v1 d1 ∧ PB w2 g2 a2 v2 d2 ∧ Below w.heap.size w w2 ∧ wr.heap.size ≤ w2.heap.size := by
  refine ⟨(h0.alloc _).grown hg ?_, (h1.alloc _).grown hg ?_, (h2.alloc _).grown hg ?_, (bel.alloc bel.size _).grown hg (by simp; have := bel.size; omega) (fun g h => by have := own_ge hown g h; omega), Nat.le_trans (by simp) hg.size⟩
  · intro h; have := own_ge hown _ h.symm; omega
  · intro h; have := own_ge hown _ h.symm; omega
  · intro h; have := own_ge hown _ h.symm; omega

/-- A path is stored as the result. -/
theorem fin_world {w wr : World} {g B : Nat} {a a' d d' : Bool} {v v' : Value} {n : Nat} {xs : List Value} {e : TypeId} (hp : PB wr g a' v' d') (hown : wr.ownsRow B e 1 v n xs) (hg : g < B) (hw : w.heap.size ≤ g) (bel : Below w.heap.size w wr) :
    PB (((wr.setCell ⟨g, 0, none⟩ (.bool a)).setCell ⟨g, 1, none⟩ v).setCell ⟨g, 2, none⟩ (.bool d)) g a v d ∧ (((wr.setCell ⟨g, 0, none⟩ (.bool a)).setCell ⟨g, 1, none⟩ v).setCell ⟨g, 2, none⟩ (.bool d)).ownsRow w.heap.size e 1 v n xs ∧
    Below w.heap.size w (((wr.setCell ⟨g, 0, none⟩ (.bool a)).setCell ⟨g, 1, none⟩ v).setCell ⟨g, 2, none⟩ (.bool d)) :=
  ⟨((hp.set0 a).set1 v).set2 d, own_base (by omega) (own_set (own_set (own_set hown hg _) hg _) hg _), ((bel.setCell hw _).setCell hw _).setCell hw _⟩

theorem foldl_take (a : Bool) (l : List ByteArray) (k : Nat) (h : k < l.length) (o : List ByteArray) (ho : (l.take k).foldl (PM.step a) [] = o) : (l.take (k + 1)).foldl (PM.step a) [] = PM.step a o l[k] := by
  rw [PM.take_snoc l k h, List.foldl_append, ho]; rfl

set_option maxHeartbeats 2000000 in
theorem Norm_any (a d : Bool) (ao : Option Addr) (n cap : Nat) (l : List ByteArray) (w : World) (h : SS w ao n cap l) (hf : Fit n l) :
    Calls Try.prog 17 #[.agg #[.bool a, .slice ao n cap, .bool d]] w (Normed a l d w) := by
  obtain ⟨i0, hi, hz0, hz1, hz2⟩ := info_parts info_str
  have bb : Below w.heap.size w ((w.alloc (.cells #[.bool a, .slice ao n cap, .bool d] 25)).alloc (.cells #[.bool false, .slice none 0 0, .bool false] 25)) := ((Below.refl _ _).alloc (Nat.le_refl _) _).alloc (by simp) _
  have s1 := (h.alloc (.cells #[.bool a, .slice ao n cap, .bool d] 25)).alloc (.cells #[.bool false, .slice none 0 0, .bool false] 25)
  have p1 := (PB.new w a (.slice ao n cap) d rfl).alloc (.cells #[.bool false, .slice none 0 0, .bool false] 25)
  have r1 : PB _ (w.heap.size + 1) false (.slice none 0 0) false := PB.new (w.alloc (.cells #[.bool a, .slice ao n cap, .bool d] 25)) false (.slice none 0 0) false (by simp)
  have hR := valid_any a d ao n cap l _ s1 hf
  have L := W_hid h.1
  cases hv : PM.valid a l d with
  | false =>
    have HE := W_hid (fun w' => @normed_no a d l w w' hv)
    rw [hv] at hR
    have hR := W_hid hR
    clear hv
    go_enter Try.func17, Try.ntmps17
    go_wp2_with fail
    go_step3
    go_wp2_with fail
    refine hR.out.mono ?_
    rintro e w1 ⟨rfl, bel1⟩
    have r2 := r1.below bel1 (by simp)
    have c0 := r2.c0
    have c1 := r2.c1
    have c2 := r2.c2
    have f1 := r2.fz
    have b1 := bb.trans (bel1.mono bb.size)
    clear p1 r1
    go_wp2_with fail
    try rw [Exit.noGoto_ret]
    have b2 := ((b1.setCell (p := ⟨w.heap.size + 1, 0, none⟩) (by simp) (.bool false)).setCell (p := ⟨w.heap.size + 1, 1, none⟩) (by simp) (.slice none 0 0)).setCell (p := ⟨w.heap.size + 1, 2, none⟩) (by simp) (.bool false)
    exact bodyPost_ret (res_path Try.results17 _ _ rfl (((r2.set0 false).set1 (.slice none 0 0)).set2 false)) rfl (HE.out _ b2)
  | true =>
    have HE := W_hid (fun w' v => @normed_yes a d l w w' v hv)
    have hn : n ≤ 257 := by have := PM.valid_count hv; have := h.1; omega
    rw [hv] at hR
    have hR := W_hid hR
    clear hv
    go_enter Try.func17, Try.ntmps17
    go_wp2_with fail
    go_step3
    go_wp2_with fail
    refine hR.out.mono ?_
    rintro e w1 ⟨rfl, bel1⟩
    replace r1 := r1.below bel1 (by simp)
    replace p1 := p1.below bel1 (by simp; omega)
    have c1' := fun o => (p1.alloc o).c1
    have c1'' := fun o o' => ((p1.alloc o).alloc o').c1
    have c0 := p1.c0
    have c1 := p1.c1
    have c2 := p1.c2
    have b1 := bb.trans (bel1.mono bb.size)
    go_wp2_with fail
    go_step3
    go_wp2_with fail
    have hgz : w.heap.size + 2 ≤ w1.heap.size := by have := bel1.size; simp at this; omega
    have q0 := p1.alloc (.cells #[.bool a, .slice none 0 0, .bool d] 25)
    have q1 := r1.alloc (.cells #[.bool a, .slice none 0 0, .bool d] 25)
    have q2 := PB.new w1 a (.slice none 0 0) d rfl
    have b2 := b1.alloc b1.size (.cells #[.bool a, .slice none 0 0, .bool d] 25)
    clear c0 c1 c2 c1' c1'' p1 r1 b1 bb hR hf s1
    go_loopw [21] (fun i wr => ∃ (k : Nat) (v : Value) (o : List ByteArray), k ≤ n ∧ i = .int .i64 k ∧ o.length ≤ k ∧ Hid ((l.take k).foldl (PM.step a) [] = o) ∧ PB wr w.heap.size a (.slice ao n cap) d ∧ PB wr (w.heap.size + 1) false (.slice none 0 0) false ∧
      PB wr w1.heap.size a v d ∧ wr.ownsRow (w1.heap.size + 1) 9 1 v o.length (scl o) ∧ Below w.heap.size w wr) (fun i _ => n - (intOf i).toNat)
    case atStart => exact ⟨0, _, [], Nat.zero_le _, rfl, Nat.le_refl _, rfl, q0, q1, q2, World.ownsRow_nil _ _ _ _, b2⟩
    case round =>
      clear q0 q1 q2 b2
      obtain ⟨k, v, o, hk, rfl, hol, hfold, q0, q1, q2, hown, bel⟩ := hrel
      obtain ⟨ox, cx, rfl⟩ := own_form hown
      have c0 := q0.c0
      have c1 := q0.c1
      have c20 := q2.c0
      have c21 := q2.c1
      have c22 := q2.c2
      have f2 := q2.fz
      by_cases hlt : k < n
      · have k1 : k < l.length := by rw [L.out]; exact hlt
        obtain ⟨b1, o1, rfl, g1⟩ := (h.below bel (Nat.le_refl _)).at_ (by omega)
        have e1 := g1 k hlt
        obtain ⟨p, hp1⟩ : ∃ p, l[k] = p := ⟨_, rfl⟩
        rw [hp1] at e1
        have hnext : Hid ((l.take (k + 1)).foldl (PM.step a) [] = PM.step a o p) := by
          show _ = _
          rw [foldl_take a l k k1 o hfold.out, hp1]
        have hshape : PM.Shape a o := by
          have := PM.foldl_shape a (l.take k) [] (PM.Shape.nil a)
          rw [hfold.out] at this; exact this
        have hsp := W_hid (PM.step_prog hshape p)
        clear hp1 hfold g1 hshape
        by_cases h1 : p = PM.dot
        · have hst : Hid ((l.take (k + 1)).foldl (PM.step a) [] = o) := by
            show _ = _
            rw [hnext.out, hsp.out, if_pos h1]
          have t1 := dot_yes h1
          clear h1 hnext hsp
          go_wp2_with fail
          go_roundw
          case rel => exact ⟨k + 1, _, o, by omega, by go_num, by omega, hst, q0, q1, q2, hown, bel⟩
          case measure => simp [intOf]; omega
        · obtain ⟨t1, t2⟩ := dot_no h1
          by_cases h2 : p = PM.dots
          · have t3 := dots_yes h2
            by_cases h3 : o ≠ [] ∧ o.getLast? ≠ some PM.dots
            · have hst : Hid ((l.take (k + 1)).foldl (PM.step a) [] = o.dropLast) := by
                show _ = _
                rw [hnext.out, hsp.out, if_neg h1, if_pos h2, if_pos h3]
              have hrm := W_hid (remove_last w1.heap.size a d ox cx o wr q2 (SS_own hown) h3)
              have hown' := own_set (own_cut hown (k := o.dropLast.length) (by simp)) (by simp) (.slice ox o.dropLast.length cx) (p := ⟨w1.heap.size, 1, none⟩)
              rw [← List.prefix_iff_eq_take.1 (List.dropLast_prefix o)] at hown'
              have q2' := q2.set1 (.slice ox o.dropLast.length cx)
              have q0' := q0.far (p := ⟨w1.heap.size, 1, none⟩) (by simp; omega) (.slice ox o.dropLast.length cx)
              have q1' := q1.far (p := ⟨w1.heap.size, 1, none⟩) (by simp; omega) (.slice ox o.dropLast.length cx)
              have b3' := bel.setCell (p := ⟨w1.heap.size, 1, none⟩) (by simp; omega) (.slice ox o.dropLast.length cx)
              have hdl : o.dropLast.length ≤ k + 1 := by simp; omega
              clear h1 h2 h3 hnext hsp hown q0 q1 q2 bel
              generalize o.dropLast = o' at *
              go_wp2_with fail
              refine hrm.out.mono ?_
              rintro e w' ⟨rfl, rfl⟩
              go_wp2_with fail
              go_roundw
              case rel => exact ⟨k + 1, _, o', by omega, by go_num, hdl, hst, q0', q1', q2', hown', b3'⟩
              case measure => simp [intOf]; omega
            · have hrm := W_hid (remove_no w1.heap.size a d ox cx o wr q2 (SS_own hown) h3)
              cases a with
              | true =>
                have hst : Hid ((l.take (k + 1)).foldl (PM.step true) [] = o) := by
                  show _ = _
                  rw [hnext.out, hsp.out, if_neg h1, if_pos h2, if_neg h3]; rfl
                clear h1 h2 h3 hnext hsp
                go_wp2_with fail
                refine hrm.out.mono ?_
                rintro e w' ⟨rfl, rfl⟩
                go_wp2_with fail
                go_roundw
                case rel => exact ⟨k + 1, _, o, by omega, by go_num, by omega, hst, q0, q1, q2, hown, bel⟩
                case measure => simp [intOf]; omega
              | false =>
                have hst : Hid ((l.take (k + 1)).foldl (PM.step false) [] = o ++ [p]) := by
                  show _ = _
                  rw [hnext.out, hsp.out, if_neg h1, if_pos h2, if_neg h3]; rfl
                clear h1 h2 h3 hnext hsp
                go_wp2_with fail
                refine hrm.out.mono ?_
                rintro e w' ⟨rfl, rfl⟩
                go_wp2_with (at_builtin; apply Hid.out)
                refine W_hid ?_
                refine wpList_append_own_wide _ rfl (.tmp 37) (.tmp 39) 23 rfl (w1.heap.size + 1) 9 i0 (.string ByteArray.empty) 1 16 Try.underlying23 hi hz0 hz1 hz2 rfl (by decide) (.slice ox o.length cx) o.length (scl o) rfl (hown.alloc _) ⟨wr.heap.size, 0, none⟩ 1 1 [.string p] rfl rfl (cell_one_new _ _ _) (by intro u hu; simp at hu; subst hu; rfl) (by unfold maxLen; omega) (by omega) (by simp; have := q2.lt; omega) ?_
                intro v2 w2 hown2 hgrow2 hnn
                obtain ⟨ao2, cap2, rfl⟩ := own_form hown2
                obtain ⟨m0, m1, m2, m3, m4⟩ := keeps3 q0 q1 q2 (by omega) (by omega) (by omega) (by omega) hown bel hgrow2
                clear hown hgrow2 hnn bel c0 c1 c20 c21 c22 f2 q0 q1 q2
                have c20 := m2.c1
                have f2 := m2.fz
                go_wp2_with fail
                have m2' := m2.set1 (.slice ao2 (o.length + 1) cap2)
                have m0' := m0.far (p := ⟨w1.heap.size, 1, none⟩) (by simp; omega) (.slice ao2 (o.length + 1) cap2)
                have m1' := m1.far (p := ⟨w1.heap.size, 1, none⟩) (by simp; omega) (.slice ao2 (o.length + 1) cap2)
                have ho' := own_set hown2 (by simp) (.slice ao2 (o.length + 1) cap2) (p := ⟨w1.heap.size, 1, none⟩)
                have b3' := m3.setCell (p := ⟨w1.heap.size, 1, none⟩) (by simp; omega) (.slice ao2 (o.length + 1) cap2)
                go_roundw
                case rel => exact ⟨k + 1, _, o ++ [p], by omega, by go_num, by simp; omega, hst, m0', m1', m2', (by rw [scl_append, List.length_append]; exact ho'), b3'⟩
                case measure => simp [intOf]; omega
          · obtain ⟨t3, t4⟩ := dots_no h2
            have hst : Hid ((l.take (k + 1)).foldl (PM.step a) [] = o ++ [p]) := by
              show _ = _
              rw [hnext.out, hsp.out, if_neg h1, if_neg h2]
            clear h1 h2 hnext hsp
            go_wp2_with (at_builtin; apply Hid.out)
            refine W_hid ?_
            refine wpList_append_own_wide _ rfl (.tmp 37) (.tmp 39) 23 rfl (w1.heap.size + 1) 9 i0 (.string ByteArray.empty) 1 16 Try.underlying23 hi hz0 hz1 hz2 rfl (by decide) (.slice ox o.length cx) o.length (scl o) rfl (hown.alloc _) ⟨wr.heap.size, 0, none⟩ 1 1 [.string p] rfl rfl (cell_one_new _ _ _) (by intro u hu; simp at hu; subst hu; rfl) (by unfold maxLen; omega) (by omega) (by simp; have := q2.lt; omega) ?_
            intro v2 w2 hown2 hgrow2 hnn
            obtain ⟨ao2, cap2, rfl⟩ := own_form hown2
            obtain ⟨m0, m1, m2, m3, m4⟩ := keeps3 q0 q1 q2 (by omega) (by omega) (by omega) (by omega) hown bel hgrow2
            clear hown hgrow2 hnn bel c0 c1 c20 c21 c22 f2 q0 q1 q2
            have c20 := m2.c1
            have f2 := m2.fz
            go_wp2_with fail
            have m2' := m2.set1 (.slice ao2 (o.length + 1) cap2)
            have m0' := m0.far (p := ⟨w1.heap.size, 1, none⟩) (by simp; omega) (.slice ao2 (o.length + 1) cap2)
            have m1' := m1.far (p := ⟨w1.heap.size, 1, none⟩) (by simp; omega) (.slice ao2 (o.length + 1) cap2)
            have ho' := own_set hown2 (by simp) (.slice ao2 (o.length + 1) cap2) (p := ⟨w1.heap.size, 1, none⟩)
            have b3' := m3.setCell (p := ⟨w1.heap.size, 1, none⟩) (by simp; omega) (.slice ao2 (o.length + 1) cap2)
            go_roundw
            case rel => exact ⟨k + 1, _, o ++ [p], by omega, by go_num, by simp; omega, hst, m0', m1', m2', (by rw [scl_append, List.length_append]; exact ho'), b3'⟩
            case measure => simp [intOf]; omega
      · obtain rfl : k = n := by omega
        have hfin : Hid (PM.fold a l = o) := by
          have := hfold.out
          rw [List.take_of_length_le (by rw [L.out]; exact Nat.le_refl _)] at this
          exact this
        clear hfold
        have c10 := q1.c0
        have c11 := q1.c1
        have c12 := q1.c2
        have f1 := q1.fz
        by_cases h0 : o = []
        · subst h0
          simp only [List.length_nil] at q2 hown c21
          cases a with
          | true =>
            have hN : Hid (PM.normL true l = [] ∧ PM.normD true l d = true) := by
              refine W_hid ⟨?_, ?_⟩
              · unfold PM.normL; rw [hfin.out]; rfl
              · unfold PM.normD; rw [hfin.out]; cases d <;> rfl
            have q1' := q1.far (p := ⟨w1.heap.size, 2, none⟩) (by simp; omega) (.bool true)
            have hown' := own_set hown (by simp) (.bool true) (p := ⟨w1.heap.size, 2, none⟩)
            have b3' := bel.setCell (p := ⟨w1.heap.size, 2, none⟩) (by simp; omega) (.bool true)
            obtain ⟨z1, z2, z3⟩ := fin_world (a := true) (d := true) q1' hown' (by omega) (by omega) b3'
            go_wp2_with fail
            try rw [Exit.noGoto_ret]
            refine bodyPost_ret (res_path Try.results17 _ _ rfl z1) rfl ?_
            have := HE.out _ _ (by rw [hN.out.1]; exact z2) z3
            rw [hN.out.2] at this
            exact this
          | false =>
            have hN : Hid (PM.normL false l = [PM.dot] ∧ PM.normD false l d = d) := by
              refine W_hid ⟨?_, ?_⟩
              · unfold PM.normL; rw [hfin.out]; rfl
              · unfold PM.normD; rw [hfin.out]; cases d <;> rfl
            go_wp2_with (at_builtin; apply Hid.out)
            refine W_hid ?_
            refine wpList_append_own_wide _ rfl (.tmp 51) (.tmp 52) 23 rfl (w1.heap.size + 1) 9 i0 (.string ByteArray.empty) 1 16 Try.underlying23 hi hz0 hz1 hz2 rfl (by decide) (.slice ox 0 cx) 0 (scl []) rfl (hown.alloc _) ⟨wr.heap.size, 0, none⟩ 1 1 [.string PM.dot] rfl rfl (cell_one_new _ _ _) (by intro u hu; simp at hu; subst hu; rfl) (by unfold maxLen; omega) (by omega) (by simp; have := q2.lt; omega) ?_
            intro v2 w2 hown2 hgrow2 hnn
            obtain ⟨ao2, cap2, rfl⟩ := own_form hown2
            obtain ⟨m0, m1, m2, m3, m4⟩ := keeps3 q0 q1 q2 (by omega) (by omega) (by omega) (by omega) hown bel hgrow2
            clear hown hgrow2 hnn bel c0 c1 c20 c21 c22 f2 q0 q1 q2 c10 c11 c12 f1
            have c20 := m2.c0
            have c21 := m2.c1
            have c22 := m2.c2
            have f2 := m2.fz
            have c10 := m1.c0
            have c11 := m1.c1
            have c12 := m1.c2
            have f1 := m1.fz
            go_wp2_with fail
            have m1' := m1.far (p := ⟨w1.heap.size, 1, none⟩) (by simp; omega) (.slice ao2 (0 + 1) cap2)
            have ho' := own_set hown2 (by simp) (.slice ao2 (0 + 1) cap2) (p := ⟨w1.heap.size, 1, none⟩)
            have b3' := m3.setCell (p := ⟨w1.heap.size, 1, none⟩) (by simp; omega) (.slice ao2 (0 + 1) cap2)
            obtain ⟨z1, z2, z3⟩ := fin_world (a := false) (d := d) m1' ho' (by omega) (by omega) b3'
            try rw [Exit.noGoto_ret]
            refine bodyPost_ret (res_path Try.results17 _ _ rfl z1) rfl ?_
            have := HE.out _ _ (by rw [hN.out.1]; exact z2) z3
            rw [hN.out.2] at this
            exact this
        · have hN : Hid (PM.normL a l = o ∧ PM.normD a l d = d) := by
            refine W_hid ⟨?_, ?_⟩
            · unfold PM.normL; rw [hfin.out, if_neg (fun h => h0 h.1)]
            · unfold PM.normD; rw [hfin.out]; simp [h0]
          have hlen : ((o.length : Int) == 0) = false := by
            have := List.length_pos_iff.2 h0
            simp; exact h0
          have hlen2 : 0 < o.length := List.length_pos_iff.2 h0
          obtain ⟨z1, z2, z3⟩ := fin_world (a := a) (d := d) q1 hown (by omega) (by omega) bel
          clear h0
          go_wp2_with fail
          try rw [Exit.noGoto_ret]
          refine bodyPost_ret (res_path Try.results17 _ _ rfl z1) rfl ?_
          have := HE.out _ _ (by rw [hN.out.1]; exact z2) z3
          rw [hN.out.2] at this
          exact this

end Go.Proofs.Ytfageibidikppaa

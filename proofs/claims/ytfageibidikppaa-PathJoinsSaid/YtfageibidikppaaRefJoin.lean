/- Contract of the document's own Join: a path behind another one, or that there is none; for all paths. -/
import Derived.Test.YtfageibidikppaaPathJoin
namespace Go.Proofs.Ytfageibidikppaa
open Go.ChangeShapes Go.WideShapes Go.ChangeAt Go.RowKit
set_option linter.unusedVariables false
set_option linter.unusedSimpArgs false

set_option maxHeartbeats 2000000 in
theorem rJoin_no (aA aD bA bD : Bool) (oa ob : Option Addr) (na ca nb cb : Nat) (aL bL : List ByteArray) (w : World) (ha : SS w oa na ca aL) (hb : SS w ob nb cb bL) (fa : Fit na aL) (fb : Fit nb bL)
    (hno : PM.valid aA aL aD = false ∨ PM.valid bA bL bD = false) :
    Calls Try.prog 20 #[.agg #[.bool aA, .slice oa na ca, .bool aD], .agg #[.bool bA, .slice ob nb cb, .bool bD]] w (Joined aA aL aD bA bL bD w) := by
  have HE := W_hid (fun w' => @joined_no aA aD bA bD aL bL w w' 2 (joE_no hno) (by decide))
  have hVa := W_hid (fun w h => Right_any aA aD oa na ca aL w h fa)
  have hVb := W_hid (fun w h => Right_any bA bD ob nb cb bL w h fb)
  have b0 : Below w.heap.size w (w.alloc (.cells #[.bool aA, .slice oa na ca, .bool aD] 25)) := (Below.refl _ _).alloc (Nat.le_refl _) _
  have b1 := b0.alloc b0.size (.cells #[.bool bA, .slice ob nb cb, .bool bD] 25)
  have bel := b1.alloc b1.size (.cells #[.bool false, .slice none 0 0, .bool false] 25)
  have pa := ((PB.new w aA (.slice oa na ca) aD rfl).alloc (.cells #[.bool bA, .slice ob nb cb, .bool bD] 25)).alloc (.cells #[.bool false, .slice none 0 0, .bool false] 25)
  have pb : PB _ (w.heap.size + 1) bA (.slice ob nb cb) bD := (PB.new (w.alloc (.cells #[.bool aA, .slice oa na ca, .bool aD] 25)) bA (.slice ob nb cb) bD (by simp)).alloc (.cells #[.bool false, .slice none 0 0, .bool false] 25)
  have pr : PB _ (w.heap.size + 1 + 1) false (.slice none 0 0) false := PB.new ((w.alloc (.cells #[.bool aA, .slice oa na ca, .bool aD] 25)).alloc (.cells #[.bool bA, .slice ob nb cb, .bool bD] 25)) false (.slice none 0 0) false (by simp)
  clear b0 b1
  obtain ⟨va, hva⟩ : ∃ va, va = PM.valid aA aL aD := ⟨_, rfl⟩
  obtain ⟨vb, hvb⟩ : ∃ vb, vb = PM.valid bA bL bD := ⟨_, rfl⟩
  rw [← hva] at hVa hno
  rw [← hvb] at hVb hno
  clear hva hvb
  go_enter Try.func20, Try.ntmps20
  go_wp2_with fail
  refine (hVa.out _ (ha.below bel (Nat.le_refl _))).mono ?_
  rintro e w1 ⟨rfl, bel1⟩
  replace pr := pr.below bel1 pr.lt
  replace pb := pb.below bel1 pb.lt
  replace bel := bel.trans (bel1.mono bel.size)
  have c0 := pb.c0
  have c1 := pb.c1
  have c2 := pb.c2
  go_wp2_with fail
  clear c0 c1 c2
  refine (hVb.out _ (hb.below bel (Nat.le_refl _))).mono ?_
  rintro e w2 ⟨rfl, bel2⟩
  replace pr := pr.below bel2 pr.lt
  replace bel := bel.trans (bel2.mono bel.size)
  have c0 := pr.c0
  have c1 := pr.c1
  have c2 := pr.c2
  have f1 := pr.fz
  have b2 := ((bel.setCell (p := ⟨w.heap.size + 1 + 1, 0, none⟩) (by simp; omega) (.bool false)).setCell (p := ⟨w.heap.size + 1 + 1, 1, none⟩) (by simp; omega) (.slice none 0 0)).setCell (p := ⟨w.heap.size + 1 + 1, 2, none⟩) (by simp; omega) (.bool false)
  cases va with
  | false =>
    clear hno
    go_wp2_with fail
    exact bodyPost_ret (res_path Try.results20 _ _ rfl (((pr.set0 false).set1 (.slice none 0 0)).set2 false)) rfl (HE.out _ b2)
  | true =>
    obtain rfl : vb = false := by simpa using hno
    clear hno
    go_wp2_with fail
    exact bodyPost_ret (res_path Try.results20 _ _ rfl (((pr.set0 false).set1 (.slice none 0 0)).set2 false)) rfl (HE.out _ b2)

set_option maxHeartbeats 4000000 in
theorem rJoin_yes (aA aD bA bD : Bool) (oa ob : Option Addr) (na ca nb cb : Nat) (aL bL : List ByteArray) (w : World) (ha : SS w oa na ca aL) (hb : SS w ob nb cb bL) (fa : Fit na aL) (fb : Fit nb bL)
    (hva : PM.valid aA aL aD = true) (hvb : PM.valid bA bL bD = true) :
    Calls Try.prog 20 #[.agg #[.bool aA, .slice oa na ca, .bool aD], .agg #[.bool bA, .slice ob nb cb, .bool bD]] w (Joined aA aL aD bA bL bD w) := by
  have hjE := W_hid (joE_yes hva hvb)
  have htot := W_hid (jnL_tot (bA := bA) hva hvb)
  have L1 := W_hid ha.1
  have L2 := W_hid hb.1
  have hna : na ≤ 257 := by have := PM.valid_count hva; have := ha.1; omega
  have hnb : nb ≤ 257 := by have := PM.valid_count hvb; have := hb.1; omega
  have hVa := W_hid (fun w h => Right_any aA aD oa na ca aL w h fa)
  have hVb := W_hid (fun w h => Right_any bA bD ob nb cb bL w h fb)
  have b0 : Below w.heap.size w (w.alloc (.cells #[.bool aA, .slice oa na ca, .bool aD] 25)) := (Below.refl _ _).alloc (Nat.le_refl _) _
  have b1 := b0.alloc b0.size (.cells #[.bool bA, .slice ob nb cb, .bool bD] 25)
  have bel := b1.alloc b1.size (.cells #[.bool false, .slice none 0 0, .bool false] 25)
  have pa := ((PB.new w aA (.slice oa na ca) aD rfl).alloc (.cells #[.bool bA, .slice ob nb cb, .bool bD] 25)).alloc (.cells #[.bool false, .slice none 0 0, .bool false] 25)
  have pb : PB _ (w.heap.size + 1) bA (.slice ob nb cb) bD := (PB.new (w.alloc (.cells #[.bool aA, .slice oa na ca, .bool aD] 25)) bA (.slice ob nb cb) bD (by simp)).alloc (.cells #[.bool false, .slice none 0 0, .bool false] 25)
  have pr : PB _ (w.heap.size + 1 + 1) false (.slice none 0 0) false := PB.new ((w.alloc (.cells #[.bool aA, .slice oa na ca, .bool aD] 25)).alloc (.cells #[.bool bA, .slice ob nb cb, .bool bD] 25)) false (.slice none 0 0) false (by simp)
  clear b0 b1
  rw [hva] at hVa
  rw [hvb] at hVb
  clear hva hvb
  go_enter Try.func20, Try.ntmps20
  go_wp2_with fail
  refine (hVa.out _ (ha.below bel (Nat.le_refl _))).mono ?_
  rintro e w1 ⟨rfl, bel1⟩
  replace pr := pr.below bel1 pr.lt
  replace pb := pb.below bel1 pb.lt
  replace pa := pa.below bel1 pa.lt
  replace bel := bel.trans (bel1.mono bel.size)
  clear bel1
  have c0 := pb.c0
  have c1 := pb.c1
  have c2 := pb.c2
  go_wp2_with fail
  clear c0 c1 c2
  refine (hVb.out _ (hb.below bel (Nat.le_refl _))).mono ?_
  rintro e w2 ⟨rfl, bel2⟩
  replace pr := pr.below bel2 pr.lt
  replace pb := pb.below bel2 pb.lt
  replace pa := pa.below bel2 pa.lt
  replace bel := bel.trans (bel2.mono bel.size)
  have hz2 := pr.lt
  clear bel2
  cases bA with
  | false =>
    have c0 := pb.c0
    have c2 := pb.c2
    have a0 := pa.c0
    have pp := PB.new w2 aA (.slice none 0 0) bD rfl
    replace pa := pa.alloc (.cells #[.bool aA, .slice none 0 0, .bool bD] 25)
    replace pb := pb.alloc (.cells #[.bool aA, .slice none 0 0, .bool bD] 25)
    replace pr := pr.alloc (.cells #[.bool aA, .slice none 0 0, .bool bD] 25)
    replace bel := bel.alloc bel.size (.cells #[.bool aA, .slice none 0 0, .bool bD] 25)
    have a1' := pa.c1
    have b0' := pb.c0
    have b1' := pb.c1
    go_wp2_with (at_builtin; apply Hid.out)
    refine W_hid ?_
    refine wpList_append_names rfl (.tmp 29) (.tmp 31) rfl (w2.heap.size + 1) (.slice none 0 0) 0 [] rfl (World.ownsRow_nil _ _ _ _) oa na ca aL rfl (ha.below bel (Nat.le_refl _)) (by omega) (by simp) ?_
    intro v3 w3 hown3 hg3
    obtain ⟨o3, c3, rfl⟩ := own_form hown3
    simp only [Nat.zero_add, List.nil_append] at hown3
    replace pa := pa.grown hg3 (fun e => by cases e)
    replace pb := pb.grown hg3 (fun e => by cases e)
    replace pr := pr.grown hg3 (fun e => by cases e)
    replace pp := pp.grown hg3 (fun e => by cases e)
    replace bel := bel.grown hg3 bel.size (fun k h => by cases h)
    have hz3 : w2.heap.size + 1 ≤ w3.heap.size := pp.lt
    clear c0 c2 a0 a1' b0' b1' hg3
    have p1 := pp.c1
    have pf := pp.fz
    have b1 := pb.c1
    go_wp2_with (at_builtin; apply Hid.out)
    refine W_hid ?_
    replace pp := pp.set1 (.slice o3 na c3)
    replace pb := pb.far (p := ⟨w2.heap.size, 1, none⟩) (by simp; omega) (.slice o3 na c3)
    replace pr := pr.far (p := ⟨w2.heap.size, 1, none⟩) (by simp; omega) (.slice o3 na c3)
    replace hown3 := own_set hown3 (by simp) (.slice o3 na c3) (p := ⟨w2.heap.size, 1, none⟩)
    replace bel := bel.setCell (p := ⟨w2.heap.size, 1, none⟩) (by simp; omega) (.slice o3 na c3)
    clear p1 pf b1
    refine wpList_append_names rfl (.tmp 35) (.tmp 37) rfl (w2.heap.size + 1) (.slice o3 na c3) na (scl aL) rfl hown3 ob nb cb bL rfl (hb.below bel (Nat.le_refl _)) (by omega) (by simp [World.setCell]; omega) ?_
    intro v4 w4 hown4 hg4
    obtain ⟨o4, c4, rfl⟩ := own_form hown4
    rw [← scl_append] at hown4
    replace pr := pr.grown hg4 (fun e => by have := own_ge hown3 _ e.symm; omega)
    replace pp := pp.grown hg4 (fun e => by have := own_ge hown3 _ e.symm; omega)
    replace bel := bel.grown hg4 bel.size (fun k h => by have := own_ge hown3 _ h; omega)
    clear pa pb hown3 hg4
    have p1 := pp.c1
    have pf := pp.fz
    have p0 := pp.c0
    have p2 := pp.c2
    have q1 := pp.set1 (.slice o4 (na + nb) c4)
    have r1 := pr.far (p := ⟨w2.heap.size, 1, none⟩) (by simp; omega) (.slice o4 (na + nb) c4)
    have hown5 := own_set hown4 (by simp) (.slice o4 (na + nb) c4) (p := ⟨w2.heap.size, 1, none⟩)
    have bel5 := bel.setCell (p := ⟨w2.heap.size, 1, none⟩) (by simp; omega) (.slice o4 (na + nb) c4)
    have hfm := W_hid (form_any aA bD o4 (na + nb) c4 (aL ++ bL) _ (SS_own hown5) (by have := htot.out.1; exact Nat.le_trans this (by omega)))
    have hlen : Hid ((PM.str (PM.text aA (aL ++ bL) bD)).size = PM.plen aA (aL ++ bL) bD) := by rw [PM.str_size]; exact PM.text_length _ _ _
    have hts : (PM.str (PM.text aA (aL ++ bL) bD)).size ≤ 1000000 := by
      have := hlen.out; have := htot.out.1; simp only [jnL, if_true, Bool.false_eq_true, if_false] at this
      have h3 : PM.plen aA (aL ++ bL) bD ≤ PM.tot (aL ++ bL) + 2 := by unfold PM.plen; split <;> split <;> omega
      omega
    obtain ⟨t, ht⟩ : ∃ t, t = PM.str (PM.text aA (aL ++ bL) bD) := ⟨_, rfl⟩
    rw [← ht] at hfm hlen hts
    clear ht
    go_wp2_with fail
    refine hfm.out.mono ?_
    rintro e w5 ⟨rfl, bel6⟩
    clear p0 p1 p2 pf bel
    replace r1 := r1.below bel6 r1.lt
    replace q1 := q1.below bel6 q1.lt
    replace hown5 := own_belows hown5 bel6
    replace bel5 := bel5.trans (bel6.mono bel5.size)
    have c0 := r1.c0
    have c1 := r1.c1
    have c2 := r1.c2
    have f1 := r1.fz
    have p0 := q1.c0
    have p1 := q1.c1
    have p2 := q1.c2
    clear bel6 hfm pp pr hown4
    by_cases hbig : 256 < PM.plen aA (aL ++ bL) bD
    · have hE := W_hid (hjE.out.trans (if_pos hbig))
      have hb' : decide (256 < (t.size : Int)) = true := by have := hlen.out; simp; omega
      clear hbig
      go_wp2_with fail
      have b2 := ((bel5.setCell (p := ⟨w.heap.size + 1 + 1, 0, none⟩) (by simp; omega) (.bool false)).setCell (p := ⟨w.heap.size + 1 + 1, 1, none⟩) (by simp; omega) (.slice none 0 0)).setCell (p := ⟨w.heap.size + 1 + 1, 2, none⟩) (by simp; omega) (.bool false)
      exact bodyPost_ret (res_path Try.results20 _ _ rfl (((r1.set0 false).set1 (.slice none 0 0)).set2 false)) rfl (joined_no hE.out (by decide) b2)
    · have hE := W_hid (hjE.out.trans (if_neg hbig))
      have hb' : decide (256 < (t.size : Int)) = false := by have := hlen.out; simp; omega
      clear hbig
      go_wp2_with fail
      obtain ⟨z1, z2, z3⟩ := fin_world (a := aA) (d := bD) r1 hown5 (by omega) (by omega) bel5
      refine bodyPost_ret (res_path Try.results20 _ _ rfl z1) rfl ?_
      exact joined_yes hE.out (by simp only [List.length_append, L1.out, L2.out, jnL, if_true, Bool.false_eq_true, if_false]; exact z2) z3
  | true =>
    have c0 := pb.c0
    have c2 := pb.c2
    have a0 := pa.c0
    have b0'' := fun o => (pb.alloc o).c0
    have b1'' := fun o => (pb.alloc o).c1
    have pp := PB.new w2 true (.slice none 0 0) bD rfl
    replace pa := pa.alloc (.cells #[.bool true, .slice none 0 0, .bool bD] 25)
    replace pb := pb.alloc (.cells #[.bool true, .slice none 0 0, .bool bD] 25)
    replace pr := pr.alloc (.cells #[.bool true, .slice none 0 0, .bool bD] 25)
    replace bel := bel.alloc bel.size (.cells #[.bool true, .slice none 0 0, .bool bD] 25)
    have a1' := pa.c1
    have b0' := pb.c0
    have b1' := pb.c1
    go_wp2_with (at_builtin; apply Hid.out)
    refine W_hid ?_
    refine wpList_append_names rfl (.tmp 35) (.tmp 37) rfl (w2.heap.size + 1) (.slice none 0 0) 0 [] rfl (World.ownsRow_nil _ _ _ _) ob nb cb bL rfl (hb.below bel (Nat.le_refl _)) (by omega) (by first | (simp [World.setCell]; done) | (simp [World.setCell]; omega)) ?_
    intro v4 w4 hown4 hg4
    obtain ⟨o4, c4, rfl⟩ := own_form hown4
    simp only [Nat.zero_add, scl_nil, List.nil_append] at hown4
    replace pr := pr.grown hg4 (fun e => by cases e)
    replace pp := pp.grown hg4 (fun e => by cases e)
    replace bel := bel.grown hg4 bel.size (fun k h => by cases h)
    clear pa pb hg4 c0 c2 a0 a1' b0' b1' b0'' b1''
    have p1 := pp.c1
    have pf := pp.fz
    have p0 := pp.c0
    have p2 := pp.c2
    have q1 := pp.set1 (.slice o4 nb c4)
    have r1 := pr.far (p := ⟨w2.heap.size, 1, none⟩) (by simp; omega) (.slice o4 nb c4)
    have hown5 := own_set hown4 (by simp) (.slice o4 nb c4) (p := ⟨w2.heap.size, 1, none⟩)
    have bel5 := bel.setCell (p := ⟨w2.heap.size, 1, none⟩) (by simp; omega) (.slice o4 nb c4)
    have hfm := W_hid (form_any true bD o4 nb c4 bL _ (SS_own hown5) (by have := htot.out.1; exact Nat.le_trans this (by omega)))
    have hlen : Hid ((PM.str (PM.text true bL bD)).size = PM.plen true bL bD) := by rw [PM.str_size]; exact PM.text_length _ _ _
    have hts : (PM.str (PM.text true bL bD)).size ≤ 1000000 := by
      have := hlen.out; have := htot.out.1; simp only [jnL, if_true, Bool.false_eq_true, if_false] at this
      have h3 : PM.plen true bL bD ≤ PM.tot bL + 2 := by unfold PM.plen; split <;> split <;> omega
      omega
    obtain ⟨t, ht⟩ : ∃ t, t = PM.str (PM.text true bL bD) := ⟨_, rfl⟩
    rw [← ht] at hfm hlen hts
    clear ht
    go_wp2_with fail
    refine hfm.out.mono ?_
    rintro e w5 ⟨rfl, bel6⟩
    clear p0 p1 p2 pf bel
    replace r1 := r1.below bel6 r1.lt
    replace q1 := q1.below bel6 q1.lt
    replace hown5 := own_belows hown5 bel6
    replace bel5 := bel5.trans (bel6.mono bel5.size)
    have c0 := r1.c0
    have c1 := r1.c1
    have c2 := r1.c2
    have f1 := r1.fz
    have p0 := q1.c0
    have p1 := q1.c1
    have p2 := q1.c2
    clear bel6 hfm pp pr hown4
    by_cases hbig : 256 < PM.plen true bL bD
    · have hE := W_hid (hjE.out.trans (if_pos hbig))
      have hb' : decide (256 < (t.size : Int)) = true := by have := hlen.out; simp; omega
      clear hbig
      go_wp2_with fail
      have b2 := ((bel5.setCell (p := ⟨w.heap.size + 1 + 1, 0, none⟩) (by simp; omega) (.bool false)).setCell (p := ⟨w.heap.size + 1 + 1, 1, none⟩) (by simp; omega) (.slice none 0 0)).setCell (p := ⟨w.heap.size + 1 + 1, 2, none⟩) (by simp; omega) (.bool false)
      exact bodyPost_ret (res_path Try.results20 _ _ rfl (((r1.set0 false).set1 (.slice none 0 0)).set2 false)) rfl (joined_no hE.out (by decide) b2)
    · have hE := W_hid (hjE.out.trans (if_neg hbig))
      have hb' : decide (256 < (t.size : Int)) = false := by have := hlen.out; simp; omega
      clear hbig
      go_wp2_with fail
      obtain ⟨z1, z2, z3⟩ := fin_world (a := true) (d := bD) r1 hown5 (by omega) (by omega) bel5
      refine bodyPost_ret (res_path Try.results20 _ _ rfl z1) rfl ?_
      exact joined_yes hE.out (by simp only [List.length_append, L1.out, L2.out, jnL, if_true, Bool.false_eq_true, if_false]; exact z2) z3

end Go.Proofs.Ytfageibidikppaa

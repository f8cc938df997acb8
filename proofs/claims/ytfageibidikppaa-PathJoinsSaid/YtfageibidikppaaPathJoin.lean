/- Contract of Join, the program's: a path behind another one, or that there is none; for all paths. -/
import Derived.Test.YtfageibidikppaaPathNorm
import Derived.Laws.AppendOwnNone
namespace Go.Proofs.Ytfageibidikppaa
open Go.ChangeShapes Go.WideShapes Go.ChangeAt Go.RowKit
set_option linter.unusedVariables false
set_option linter.unusedSimpArgs false

/-- 'append' to an owned row of what reads as strings, nil or not. -/
theorem wpList_append_names {w : World} {ops : Array Oper} {rest : List Oper} {o : Oper} {a : Act} {Q : Exit → Act → World → Prop} (hgd : o.guard = none) (s x : Operand)
    (ho : o.op = .call { callee := .builtin .append, args := #[s, x], argTypes := #[23, 23] })
    (base : Nat) (v : Value) (n : Nat) (xs : List Value) (hs : a.eval s = v) (hown : w.ownsRow base 9 1 v n xs) (ao : Option Addr) (m c : Nat) (l : List ByteArray) (hx : a.eval x = .slice ao m c) (hr : SS w ao m c l)
    (hnm : n + m ≤ 1000000) (hbase : base ≤ w.heap.size)
    (h : ∀ v' w', w'.ownsRow base 9 1 v' (n + m) (xs ++ scl l) → w.grownBy w' v.ownBlock → wpList Try.prog ops Q rest (a.put o.dst v') w') : wpList Try.prog ops Q (o :: rest) a w := by
  obtain ⟨i0, hi, hz0, hz1, hz2⟩ := info_parts info_str
  cases ao with
  | none =>
    have hc : c = 0 := hr.2.2.2.1 rfl
    have hm : m = 0 := by have := hr.2.1; omega
    subst hc; subst hm
    obtain rfl := List.eq_nil_of_length_eq_zero hr.1
    refine wpList_append_own_none hgd s x 23 ho base 9 i0 1 Try.underlying23 hi v n xs hs hown hx (h v w ?_ (World.grownBy.refl w _))
    simpa [scl] using hown
  | some ad =>
    refine wpList_append_own_wide w hgd s x 23 ho base 9 i0 (.string ByteArray.empty) 1 16 Try.underlying23 hi hz0 hz1 hz2 rfl (by decide) v n xs hs hown ad m c (scl l) hx (by rw [scl_length, hr.1, Nat.mul_one]) (hr.2.2.2.2 ad rfl) (scl_one l) (by unfold maxLen; omega) (by omega) hbase ?_
    intro v' w' h1 h2 _
    exact h v' w' h1 h2

/-- What Join answers. -/
def jnL (aL : List ByteArray) (bA : Bool) (bL : List ByteArray) : List ByteArray := if bA then bL else aL ++ bL
def joE (aA : Bool) (aL : List ByteArray) (aD bA : Bool) (bL : List ByteArray) (bD : Bool) : Int := if PM.valid aA aL aD = true ∧ PM.valid bA bL bD = true then (if 256 < PM.plen (bA || aA) (jnL aL bA bL) bD then 17 else 0) else 2
def joA (aA : Bool) (aL : List ByteArray) (aD bA : Bool) (bL : List ByteArray) (bD : Bool) : Bool := if joE aA aL aD bA bL bD = 0 then bA || aA else false
def joL (aA : Bool) (aL : List ByteArray) (aD bA : Bool) (bL : List ByteArray) (bD : Bool) : List ByteArray := if joE aA aL aD bA bL bD = 0 then jnL aL bA bL else []
def joD (aA : Bool) (aL : List ByteArray) (aD bA : Bool) (bL : List ByteArray) (bD : Bool) : Bool := if joE aA aL aD bA bL bD = 0 then bD else false
def Joined (aA : Bool) (aL : List ByteArray) (aD bA : Bool) (bL : List ByteArray) (bD : Bool) (w : World) (e : Ending) (w' : World) : Prop := ∃ v, e = .returned (.tuple #[.agg #[.bool (joA aA aL aD bA bL bD), v, .bool (joD aA aL aD bA bL bD)], .int .i64 (joE aA aL aD bA bL bD)]) ∧
      w'.ownsRow w.heap.size 9 1 v (joL aA aL aD bA bL bD).length (scl (joL aA aL aD bA bL bD)) ∧ Below w.heap.size w w'
theorem joined_no {aA aD bA bD : Bool} {aL bL : List ByteArray} {w w' : World} {n : Int} (h : joE aA aL aD bA bL bD = n) (hn : n ≠ 0) (hb : Below w.heap.size w w') : Joined aA aL aD bA bL bD w (.returned (.tuple #[.agg #[.bool false, .slice none 0 0, .bool false], .int .i64 n])) w' := by
  unfold Joined joA joL joD
  rw [h, if_neg hn, if_neg hn, if_neg hn]
  exact ⟨_, rfl, World.ownsRow_nil _ _ _ _, hb⟩
theorem joined_yes {aA aD bA bD : Bool} {aL bL : List ByteArray} {w w' : World} {v : Value} (h : joE aA aL aD bA bL bD = 0) (hown : w'.ownsRow w.heap.size 9 1 v (jnL aL bA bL).length (scl (jnL aL bA bL))) (hb : Below w.heap.size w w') :
    Joined aA aL aD bA bL bD w (.returned (.tuple #[.agg #[.bool (bA || aA), v, .bool bD], .int .i64 0])) w' := by
  unfold Joined joA joL joD
  rw [h]
  exact ⟨_, rfl, hown, hb⟩
theorem joE_no {aA aD bA bD : Bool} {aL bL : List ByteArray} (h : PM.valid aA aL aD = false ∨ PM.valid bA bL bD = false) : joE aA aL aD bA bL bD = 2 := by
  unfold joE
  rcases h with h | h <;> rw [h] <;> simp
theorem joE_yes {aA aD bA bD : Bool} {aL bL : List ByteArray} (h1 : PM.valid aA aL aD = true) (h2 : PM.valid bA bL bD = true) : joE aA aL aD bA bL bD = if 256 < PM.plen (bA || aA) (jnL aL bA bL) bD then 17 else 0 := by
  unfold joE; rw [if_pos ⟨h1, h2⟩]
theorem jnL_tot {aA aD bA bD : Bool} {aL bL : List ByteArray} (h1 : PM.valid aA aL aD = true) (h2 : PM.valid bA bL bD = true) : PM.tot (jnL aL bA bL) ≤ 514 ∧ (jnL aL bA bL).length ≤ 514 := by
  have t1 := PM.valid_tot h1
  have t2 := PM.valid_tot h2
  have h : PM.tot (jnL aL bA bL) ≤ 514 := by
    unfold jnL; split
    · omega
    · rw [PM.tot_append]; omega
  exact ⟨h, Nat.le_trans (PM.tot_len _) h⟩

set_option maxHeartbeats 2000000 in
theorem Join_no (aA aD bA bD : Bool) (oa ob : Option Addr) (na ca nb cb : Nat) (aL bL : List ByteArray) (w : World) (ha : SS w oa na ca aL) (hb : SS w ob nb cb bL) (fa : Fit na aL) (fb : Fit nb bL)
    (hno : PM.valid aA aL aD = false ∨ PM.valid bA bL bD = false) :
    Calls Try.prog 19 #[.agg #[.bool aA, .slice oa na ca, .bool aD], .agg #[.bool bA, .slice ob nb cb, .bool bD]] w (Joined aA aL aD bA bL bD w) := by
  have HE := W_hid (fun w' => @joined_no aA aD bA bD aL bL w w' 2 (joE_no hno) (by decide))
  have hVa := W_hid (fun w h => valid_any aA aD oa na ca aL w h fa)
  have hVb := W_hid (fun w h => valid_any bA bD ob nb cb bL w h fb)
  have b0 : Below w.heap.size w (w.alloc (.cells #[.bool aA, .slice oa na ca, .bool aD] 25)) := (Below.refl _ _).alloc (Nat.le_refl _) _
  have b1 := b0.alloc b0.size (.cells #[.bool bA, .slice ob nb cb, .bool bD] 25)
  have bel := b1.alloc b1.size (.cells #[.bool false, .slice none 0 0, .bool false] 25)
  have pa := ((PB.new w aA (.slice oa na ca) aD rfl).alloc (.cells #[.bool bA, .slice ob nb cb, .bool bD] 25)).alloc (.cells #[.bool false, .slice none 0 0, .bool false] 25)
  have pb : PB _ (w.heap.size + 1) bA (.slice ob nb cb) bD := (PB.new (w.alloc (.cells #[.bool aA, .slice oa na ca, .bool aD] 25)) bA (.slice ob nb cb) bD (by simp)).alloc (.cells #[.bool false, .slice none 0 0, .bool false] 25)
  have pr : PB _ (w.heap.size + 1 + 1) false (.slice none 0 0) false := PB.new ((w.alloc (.cells #[.bool aA, .slice oa na ca, .bool aD] 25)).alloc (.cells #[.bool bA, .slice ob nb cb, .bool bD] 25)) false (.slice none 0 0) false (by simp)
  clear b0 b1
  cases hva : PM.valid aA aL aD with
  | false =>
    rw [hva] at hVa
    clear hno hva
    go_enter Try.func19, Try.ntmps19
    go_wp2_with fail
    refine (hVa.out _ (ha.below bel (Nat.le_refl _))).mono ?_
    rintro e w1 ⟨rfl, bel1⟩
    replace pr := pr.below bel1 pr.lt
    replace bel := bel.trans (bel1.mono bel.size)
    have c0 := pr.c0
    have c1 := pr.c1
    have c2 := pr.c2
    have f1 := pr.fz
    go_wp2_with fail
    have b2 := ((bel.setCell (p := ⟨w.heap.size + 1 + 1, 0, none⟩) (by simp; omega) (.bool false)).setCell (p := ⟨w.heap.size + 1 + 1, 1, none⟩) (by simp; omega) (.slice none 0 0)).setCell (p := ⟨w.heap.size + 1 + 1, 2, none⟩) (by simp; omega) (.bool false)
    exact bodyPost_ret (res_path Try.results19 _ _ rfl (((pr.set0 false).set1 (.slice none 0 0)).set2 false)) rfl (HE.out _ b2)
  | true =>
    have hvb : PM.valid bA bL bD = false := by
      rcases hno with h | h
      · rw [hva] at h; cases h
      · exact h
    rw [hva] at hVa
    rw [hvb] at hVb
    clear hno hva hvb
    go_enter Try.func19, Try.ntmps19
    go_wp2_with fail
    refine (hVa.out _ (ha.below bel (Nat.le_refl _))).mono ?_
    rintro e w1 ⟨rfl, bel1⟩
    replace pr := pr.below bel1 pr.lt
    replace pb := pb.below bel1 pb.lt
    replace bel := bel.trans (bel1.mono bel.size)
    have c0 := pb.c0
    have c1 := pb.c1
    have c2 := pb.c2
    go_wp2_with fail
    clear c0 c1 c2
    refine (hVb.out _ (hb.below bel (Nat.le_refl _))).mono ?_
    rintro e w2 ⟨rfl, bel2⟩
    replace pr := pr.below bel2 pr.lt
    replace bel := bel.trans (bel2.mono bel.size)
    have c0 := pr.c0
    have c1 := pr.c1
    have c2 := pr.c2
    have f1 := pr.fz
    go_wp2_with fail
    have b2 := ((bel.setCell (p := ⟨w.heap.size + 1 + 1, 0, none⟩) (by simp; omega) (.bool false)).setCell (p := ⟨w.heap.size + 1 + 1, 1, none⟩) (by simp; omega) (.slice none 0 0)).setCell (p := ⟨w.heap.size + 1 + 1, 2, none⟩) (by simp; omega) (.bool false)
    exact bodyPost_ret (res_path Try.results19 _ _ rfl (((pr.set0 false).set1 (.slice none 0 0)).set2 false)) rfl (HE.out _ b2)

theorem scl_nil : scl [] = [] := rfl
theorem own_belows {w w' : World} {base e n : Nat} {v : Value} {xs : List Value} (h : w.ownsRow base e 1 v n xs) (hb : Below w.heap.size w w') : w'.ownsRow base e 1 v n xs := by
  rcases h.2 with h0 | ⟨g, cap, cur, h1, h2, h3, h4⟩
  · exact ⟨h.1, .inl h0⟩
  · have hlt : g < w.heap.size := by
      rcases Nat.lt_or_ge g w.heap.size with hlt | hge
      · exact hlt
      · rw [Array.getElem?_eq_none hge] at h3; cases h3
    exact ⟨h.1, .inr ⟨g, cap, cur, h1, h2, (hb.block g hlt).trans h3, h4⟩⟩

set_option maxHeartbeats 4000000 in
theorem Join_yes (aA aD bA bD : Bool) (oa ob : Option Addr) (na ca nb cb : Nat) (aL bL : List ByteArray) (w : World) (ha : SS w oa na ca aL) (hb : SS w ob nb cb bL) (fa : Fit na aL) (fb : Fit nb bL)
    (hva : PM.valid aA aL aD = true) (hvb : PM.valid bA bL bD = true) :
    Calls Try.prog 19 #[.agg #[.bool aA, .slice oa na ca, .bool aD], .agg #[.bool bA, .slice ob nb cb, .bool bD]] w (Joined aA aL aD bA bL bD w) := by
  have hjE := W_hid (joE_yes hva hvb)
  have htot := W_hid (jnL_tot (bA := bA) hva hvb)
  have L1 := W_hid ha.1
  have L2 := W_hid hb.1
  have hna : na ≤ 257 := by have := PM.valid_count hva; have := ha.1; omega
  have hnb : nb ≤ 257 := by have := PM.valid_count hvb; have := hb.1; omega
  have hVa := W_hid (fun w h => valid_any aA aD oa na ca aL w h fa)
  have hVb := W_hid (fun w h => valid_any bA bD ob nb cb bL w h fb)
  have b0 : Below w.heap.size w (w.alloc (.cells #[.bool aA, .slice oa na ca, .bool aD] 25)) := (Below.refl _ _).alloc (Nat.le_refl _) _
  have b1 := b0.alloc b0.size (.cells #[.bool bA, .slice ob nb cb, .bool bD] 25)
  have bel := b1.alloc b1.size (.cells #[.bool false, .slice none 0 0, .bool false] 25)
  have pa := ((PB.new w aA (.slice oa na ca) aD rfl).alloc (.cells #[.bool bA, .slice ob nb cb, .bool bD] 25)).alloc (.cells #[.bool false, .slice none 0 0, .bool false] 25)
  have pb : PB _ (w.heap.size + 1) bA (.slice ob nb cb) bD := (PB.new (w.alloc (.cells #[.bool aA, .slice oa na ca, .bool aD] 25)) bA (.slice ob nb cb) bD (by simp)).alloc (.cells #[.bool false, .slice none 0 0, .bool false] 25)
  have pr : PB _ (w.heap.size + 1 + 1) false (.slice none 0 0) false := PB.new ((w.alloc (.cells #[.bool aA, .slice oa na ca, .bool aD] 25)).alloc (.cells #[.bool bA, .slice ob nb cb, .bool bD] 25)) false (.slice none 0 0) false (by simp)
  clear b0 b1
  rw [hva] at hVa
  rw [hvb] at hVb
  clear hva hvb
  go_enter Try.func19, Try.ntmps19
  go_wp2_with fail
  refine (hVa.out _ (ha.below bel (Nat.le_refl _))).mono ?_
  rintro e w1 ⟨rfl, bel1⟩
  replace pr := pr.below bel1 pr.lt
  replace pb := pb.below bel1 pb.lt
  replace pa := pa.below bel1 pa.lt
  replace bel := bel.trans (bel1.mono bel.size)
  clear bel1
  have c0 := pb.c0
  have c1 := pb.c1
  have c2 := pb.c2
  go_wp2_with fail
  clear c0 c1 c2
  refine (hVb.out _ (hb.below bel (Nat.le_refl _))).mono ?_
  rintro e w2 ⟨rfl, bel2⟩
  replace pr := pr.below bel2 pr.lt
  replace pb := pb.below bel2 pb.lt
  replace pa := pa.below bel2 pa.lt
  replace bel := bel.trans (bel2.mono bel.size)
  have hz2 := pr.lt
  clear bel2
  cases bA with
  | false =>
    have c0 := pb.c0
    have c2 := pb.c2
    have a0 := pa.c0
    have a1 := pa.c1
    have pp := PB.new w2 aA (.slice none 0 0) bD rfl
    replace pa := pa.alloc (.cells #[.bool aA, .slice none 0 0, .bool bD] 25)
    replace pb := pb.alloc (.cells #[.bool aA, .slice none 0 0, .bool bD] 25)
    replace pr := pr.alloc (.cells #[.bool aA, .slice none 0 0, .bool bD] 25)
    replace bel := bel.alloc bel.size (.cells #[.bool aA, .slice none 0 0, .bool bD] 25)
    have a1' := pa.c1
    go_wp2_with (at_builtin; apply Hid.out)
    refine W_hid ?_
    refine wpList_append_names rfl (.tmp 25) (.tmp 27) rfl (w2.heap.size + 1) (.slice none 0 0) 0 [] rfl (World.ownsRow_nil _ _ _ _) oa na ca aL rfl (ha.below bel (Nat.le_refl _)) (by omega) (by simp [World.setCell]) ?_
    intro v3 w3 hown3 hg3
    obtain ⟨o3, c3, rfl⟩ := own_form hown3
    simp only [Nat.zero_add, List.nil_append] at hown3
    replace pa := pa.grown hg3 (fun e => by cases e)
    replace pb := pb.grown hg3 (fun e => by cases e)
    replace pr := pr.grown hg3 (fun e => by cases e)
    replace pp := pp.grown hg3 (fun e => by cases e)
    replace bel := bel.grown hg3 bel.size (fun k h => by cases h)
    have hz3 : w2.heap.size + 1 ≤ w3.heap.size := pp.lt
    clear c0 c2 a0 a1 a1' hg3
    have p1 := pp.c1
    have pf := pp.fz
    have b1 := pb.c1
    go_wp2_with (at_builtin; apply Hid.out)
    refine W_hid ?_
    replace pp := pp.set1 (.slice o3 na c3)
    replace pb := pb.far (p := ⟨w2.heap.size, 1, none⟩) (by simp; omega) (.slice o3 na c3)
    replace pr := pr.far (p := ⟨w2.heap.size, 1, none⟩) (by simp; omega) (.slice o3 na c3)
    replace hown3 := own_set hown3 (by simp) (.slice o3 na c3) (p := ⟨w2.heap.size, 1, none⟩)
    replace bel := bel.setCell (p := ⟨w2.heap.size, 1, none⟩) (by simp; omega) (.slice o3 na c3)
    clear p1 pf b1
    refine wpList_append_names rfl (.tmp 31) (.tmp 33) rfl (w2.heap.size + 1) (.slice o3 na c3) na (scl aL) rfl hown3 ob nb cb bL rfl (hb.below bel (Nat.le_refl _)) (by omega) (by simp [World.setCell]; omega) ?_
    intro v4 w4 hown4 hg4
    obtain ⟨o4, c4, rfl⟩ := own_form hown4
    rw [← scl_append] at hown4
    replace pr := pr.grown hg4 (fun e => by have := own_ge hown3 _ e.symm; omega)
    replace pp := pp.grown hg4 (fun e => by have := own_ge hown3 _ e.symm; omega)
    replace bel := bel.grown hg4 bel.size (fun k h => by have := own_ge hown3 _ h; omega)
    clear pa pb hown3 hg4
    have p1 := pp.c1
    have pf := pp.fz
    have p0 := pp.c0
    have p2 := pp.c2
    have q1 := pp.set1 (.slice o4 (na + nb) c4)
    have r1 := pr.far (p := ⟨w2.heap.size, 1, none⟩) (by simp; omega) (.slice o4 (na + nb) c4)
    have hown5 := own_set hown4 (by simp) (.slice o4 (na + nb) c4) (p := ⟨w2.heap.size, 1, none⟩)
    have bel5 := bel.setCell (p := ⟨w2.heap.size, 1, none⟩) (by simp; omega) (.slice o4 (na + nb) c4)
    have hsz := W_hid (size_any aA bD o4 (na + nb) c4 (aL ++ bL) _ (SS_own hown5) (by have := htot.out.1; exact Nat.le_trans this (by omega)))
    go_wp2_with fail
    refine hsz.out.mono ?_
    rintro e w5 ⟨rfl, bel6⟩
    clear p0 p1 p2 pf bel
    replace r1 := r1.below bel6 r1.lt
    replace q1 := q1.below bel6 q1.lt
    replace hown5 := own_belows hown5 bel6
    replace bel5 := bel5.trans (bel6.mono bel5.size)
    have c0 := r1.c0
    have c1 := r1.c1
    have c2 := r1.c2
    have f1 := r1.fz
    have p0 := q1.c0
    have p1 := q1.c1
    have p2 := q1.c2
    clear bel6 hsz pp pr hown4
    by_cases hbig : 256 < PM.plen aA (aL ++ bL) bD
    · have hE := W_hid (hjE.out.trans (if_pos hbig))
      have hb' : decide (256 < (PM.plen aA (aL ++ bL) bD : Int)) = true := by simp; omega
      clear hbig
      go_wp2_with fail
      have b2 := ((bel5.setCell (p := ⟨w.heap.size + 1 + 1, 0, none⟩) (by simp; omega) (.bool false)).setCell (p := ⟨w.heap.size + 1 + 1, 1, none⟩) (by simp; omega) (.slice none 0 0)).setCell (p := ⟨w.heap.size + 1 + 1, 2, none⟩) (by simp; omega) (.bool false)
      exact bodyPost_ret (res_path Try.results19 _ _ rfl (((r1.set0 false).set1 (.slice none 0 0)).set2 false)) rfl (joined_no hE.out (by decide) b2)
    · have hE := W_hid (hjE.out.trans (if_neg hbig))
      have hb' : decide (256 < (PM.plen aA (aL ++ bL) bD : Int)) = false := by simp; omega
      clear hbig
      go_wp2_with fail
      obtain ⟨z1, z2, z3⟩ := fin_world (a := aA) (d := bD) r1 hown5 (by omega) (by omega) bel5
      refine bodyPost_ret (res_path Try.results19 _ _ rfl z1) rfl ?_
      exact joined_yes hE.out (by simp only [List.length_append, L1.out, L2.out, jnL, if_true, Bool.false_eq_true, if_false]; exact z2) z3
  | true =>
    have y0 := pa.c0
    have y1 := pa.c1
    have y2 := pa.c2
    have yf := pa.fz
    have z0 := pb.c0
    replace pa := ((pa.set0 true).set1 (.slice none 0 0)).set2 false
    replace pb := ((pb.far (p := ⟨w.heap.size, 0, none⟩) (by simp) (.bool true)).far (p := ⟨w.heap.size, 1, none⟩) (by simp) (.slice none 0 0)).far (p := ⟨w.heap.size, 2, none⟩) (by simp) (.bool false)
    replace pr := ((pr.far (p := ⟨w.heap.size, 0, none⟩) (by simp; omega) (.bool true)).far (p := ⟨w.heap.size, 1, none⟩) (by simp; omega) (.slice none 0 0)).far (p := ⟨w.heap.size, 2, none⟩) (by simp; omega) (.bool false)
    replace bel := ((bel.setCell (p := ⟨w.heap.size, 0, none⟩) (Nat.le_refl _) (.bool true)).setCell (p := ⟨w.heap.size, 1, none⟩) (Nat.le_refl _) (.slice none 0 0)).setCell (p := ⟨w.heap.size, 2, none⟩) (Nat.le_refl _) (.bool false)
    have c0 := pb.c0
    have c2 := pb.c2
    have a0 := pa.c0
    have a1 := pa.c1
    have pp := PB.new (x := w2.heap.size) (((w2.setCell ⟨w.heap.size, 0, none⟩ (.bool true)).setCell ⟨w.heap.size, 1, none⟩ (.slice none 0 0)).setCell ⟨w.heap.size, 2, none⟩ (.bool false)) true (.slice none 0 0) bD (by simp [World.setCell])
    replace pa := pa.alloc (.cells #[.bool true, .slice none 0 0, .bool bD] 25)
    replace pb := pb.alloc (.cells #[.bool true, .slice none 0 0, .bool bD] 25)
    replace pr := pr.alloc (.cells #[.bool true, .slice none 0 0, .bool bD] 25)
    replace bel := bel.alloc bel.size (.cells #[.bool true, .slice none 0 0, .bool bD] 25)
    have a1' := pa.c1
    go_wp2_with (at_builtin; apply Hid.out)
    refine W_hid ?_
    refine wpList_append_names rfl (.tmp 25) (.tmp 27) rfl (w2.heap.size + 1) (.slice none 0 0) 0 [] rfl (World.ownsRow_nil _ _ _ _) none 0 0 [] rfl (SS.nil _) (by omega) (by simp [World.setCell]) ?_
    intro v3 w3 hown3 hg3
    obtain ⟨o3, c3, rfl⟩ := own_form hown3
    simp only [Nat.zero_add, List.nil_append] at hown3
    replace pa := pa.grown hg3 (fun e => by cases e)
    replace pb := pb.grown hg3 (fun e => by cases e)
    replace pr := pr.grown hg3 (fun e => by cases e)
    replace pp := pp.grown hg3 (fun e => by cases e)
    replace bel := bel.grown hg3 bel.size (fun k h => by cases h)
    have hz3 : w2.heap.size + 1 ≤ w3.heap.size := pp.lt
    clear c0 c2 a0 a1 a1' hg3
    have p1 := pp.c1
    have pf := pp.fz
    have b1 := pb.c1
    go_wp2_with (at_builtin; apply Hid.out)
    refine W_hid ?_
    replace pp := pp.set1 (.slice o3 0 c3)
    replace pb := pb.far (p := ⟨w2.heap.size, 1, none⟩) (by simp; omega) (.slice o3 0 c3)
    replace pr := pr.far (p := ⟨w2.heap.size, 1, none⟩) (by simp; omega) (.slice o3 0 c3)
    replace hown3 := own_set hown3 (by simp) (.slice o3 0 c3) (p := ⟨w2.heap.size, 1, none⟩)
    replace bel := bel.setCell (p := ⟨w2.heap.size, 1, none⟩) (by simp; omega) (.slice o3 0 c3)
    clear p1 pf b1
    refine wpList_append_names rfl (.tmp 31) (.tmp 33) rfl (w2.heap.size + 1) (.slice o3 0 c3) 0 (scl []) rfl hown3 ob nb cb bL rfl (hb.below bel (Nat.le_refl _)) (by omega) (by simp [World.setCell]; omega) ?_
    intro v4 w4 hown4 hg4
    obtain ⟨o4, c4, rfl⟩ := own_form hown4
    simp only [Nat.zero_add, scl_nil, List.nil_append] at hown4
    replace pr := pr.grown hg4 (fun e => by have := own_ge hown3 _ e.symm; omega)
    replace pp := pp.grown hg4 (fun e => by have := own_ge hown3 _ e.symm; omega)
    replace bel := bel.grown hg4 bel.size (fun k h => by have := own_ge hown3 _ h; omega)
    clear pa pb hown3 hg4
    have p1 := pp.c1
    have pf := pp.fz
    have p0 := pp.c0
    have p2 := pp.c2
    have q1 := pp.set1 (.slice o4 nb c4)
    have r1 := pr.far (p := ⟨w2.heap.size, 1, none⟩) (by simp; omega) (.slice o4 nb c4)
    have hown5 := own_set hown4 (by simp) (.slice o4 nb c4) (p := ⟨w2.heap.size, 1, none⟩)
    have bel5 := bel.setCell (p := ⟨w2.heap.size, 1, none⟩) (by simp; omega) (.slice o4 nb c4)
    have hsz := W_hid (size_any true bD o4 nb c4 bL _ (SS_own hown5) (by have := htot.out.1; exact Nat.le_trans this (by omega)))
    go_wp2_with fail
    refine hsz.out.mono ?_
    rintro e w5 ⟨rfl, bel6⟩
    clear p0 p1 p2 pf bel
    replace r1 := r1.below bel6 r1.lt
    replace q1 := q1.below bel6 q1.lt
    replace hown5 := own_belows hown5 bel6
    replace bel5 := bel5.trans (bel6.mono bel5.size)
    have c0 := r1.c0
    have c1 := r1.c1
    have c2 := r1.c2
    have f1 := r1.fz
    have p0 := q1.c0
    have p1 := q1.c1
    have p2 := q1.c2
    clear bel6 hsz pp pr hown4
    by_cases hbig : 256 < PM.plen true bL bD
    · have hE := W_hid (hjE.out.trans (if_pos hbig))
      have hb' : decide (256 < (PM.plen true bL bD : Int)) = true := by simp; omega
      clear hbig
      go_wp2_with fail
      have b2 := ((bel5.setCell (p := ⟨w.heap.size + 1 + 1, 0, none⟩) (by simp; omega) (.bool false)).setCell (p := ⟨w.heap.size + 1 + 1, 1, none⟩) (by simp; omega) (.slice none 0 0)).setCell (p := ⟨w.heap.size + 1 + 1, 2, none⟩) (by simp; omega) (.bool false)
      exact bodyPost_ret (res_path Try.results19 _ _ rfl (((r1.set0 false).set1 (.slice none 0 0)).set2 false)) rfl (joined_no hE.out (by decide) b2)
    · have hE := W_hid (hjE.out.trans (if_neg hbig))
      have hb' : decide (256 < (PM.plen true bL bD : Int)) = false := by simp; omega
      clear hbig
      go_wp2_with fail
      obtain ⟨z1, z2, z3⟩ := fin_world (a := true) (d := bD) r1 hown5 (by omega) (by omega) bel5
      refine bodyPost_ret (res_path Try.results19 _ _ rfl z1) rfl ?_
      exact joined_yes hE.out (by simp only [List.length_append, L1.out, L2.out, jnL, if_true, Bool.false_eq_true, if_false]; exact z2) z3


end Go.Proofs.Ytfageibidikppaa

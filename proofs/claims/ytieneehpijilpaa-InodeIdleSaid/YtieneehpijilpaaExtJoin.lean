/- Contract of joined, the program's: the valid list of the pieces of all lists. -/
import Derived.Test.YtieneehpijilpaaExtPack
namespace Go.Proofs.Ytieneehpijilpaa
open Go.ChangeShapes Go.WideShapes Go.ChangeAt Go.RowKit
set_option linter.unusedVariables false
set_option linter.unusedSimpArgs false

/-- 'append' to an owned row of what reads as extents, nil or not. -/
theorem wpList_append_ext {w : World} {ops : Array Oper} {rest : List Oper} {o : Oper} {a : Act} {Q : Exit → Act → World → Prop} (hgd : o.guard = none) (s x : Operand)
    (ho : o.op = .call { callee := .builtin .append, args := #[s, x], argTypes := #[70, 70] })
    (base : Nat) (v : Value) (n : Nat) (xs : List Value) (hs : a.eval s = v) (hown : w.ownsRow base 94 2 v n xs) (ao : Option Addr) (m c : Nat) (l : List (Int × ByteArray)) (hx : a.eval x = .slice ao m c) (hr : XS w ao m c l)
    (hnm : n + m ≤ 4000000) (hbase : base ≤ w.heap.size)
    (h : ∀ v' w', w'.ownsRow base 94 2 v' (n + m) (xs ++ ecl l) → w.grownBy w' v.ownBlock → wpList Try.prog ops Q rest (a.put o.dst v') w') : wpList Try.prog ops Q (o :: rest) a w := by
  obtain ⟨i0, hi, hz0, hz1, hz2⟩ := info_parts info_ext
  cases ao with
  | none =>
    have hc : c = 0 := hr.2.2.2.1 rfl
    have hm : m = 0 := by have := hr.2.1; omega
    subst hc; subst hm
    obtain rfl := List.eq_nil_of_length_eq_zero hr.1
    refine wpList_append_own_none hgd s x 70 ho base 94 i0 2 Try.underlying70 hi v n xs hs hown hx (h v w ?_ (World.grownBy.refl w _))
    simpa [ecl] using hown
  | some ad =>
    refine wpList_append_own_wide w hgd s x 70 ho base 94 i0 (.agg #[.int .i64 0, .string ByteArray.empty]) 2 24 Try.underlying70 hi hz0 hz1 hz2 rfl (by decide) v n xs hs hown ad m c (ecl l) hx (by rw [ecl_length, hr.1]) (hr.2.2.2.2 ad rfl) (ecl_one l) (by unfold maxLen; omega) (by omega) hbase ?_
    intro v' w' h1 h2 _
    exact h v' w' h1 h2

/-- A slice value that reads as slice values, each of which reads as extents. -/
def LS (w : World) (ao : Option Addr) (n cap : Nat) (ls : List (Value × List (Int × ByteArray))) : Prop :=
  ls.length = n ∧ n ≤ cap ∧ cap ≤ maxLen ∧ (ao = none → cap = 0) ∧ (∀ a, ao = some a → ∀ j u, ls[j]? = some u → w.cell? (a.add j) = some u.1) ∧ ∀ p ∈ ls, ∃ ao n c, p.1 = .slice ao n c ∧ XS w ao n c p.2
section
variable {w w' : World} {ao : Option Addr} {n cap : Nat} {ls : List (Value × List (Int × ByteArray))}
theorem LS.below (h : LS w ao n cap ls) {B : Nat} (hb : Below B w w') (hB : w.heap.size ≤ B) : LS w' ao n cap ls := by
  refine ⟨h.1, h.2.1, h.2.2.1, h.2.2.2.1, fun a ha j u hu => ?_, fun p hp => ?_⟩
  · have hc := h.2.2.2.2.1 a ha j u hu
    rw [hb.cell (Nat.lt_of_lt_of_le (World.block_lt_of_cell? w _ hc) hB)]
    exact hc
  · obtain ⟨a, n, c, h1, h2⟩ := h.2.2.2.2.2 p hp
    exact ⟨a, n, c, h1, h2.below hb hB⟩
theorem LS.at_ (h : LS w ao n cap ls) (hn : 0 < n) : ∃ blk off, ao = some ⟨blk, off, none⟩ ∧ ∀ j, (hj : j < n) → w.cell? ⟨blk, off + j, none⟩ = some (ls[j]'(by rw [h.1]; exact hj)).1 := by
  obtain ⟨hl, h1, h2, h3, h4, h5⟩ := h
  cases ao with
  | none => have := h3 rfl; omega
  | some a =>
    have hcell : ∀ j, (hj : j < n) → w.cell? (a.add j) = some (ls[j]'(by rw [hl]; exact hj)).1 := fun j hj => h4 a rfl j _ (List.getElem?_eq_getElem (by rw [hl]; exact hj))
    obtain ⟨b, off, spot⟩ := a
    have h0 := hcell 0 hn
    have hs : spot = none := by simpa [Addr.add] using World.cell?_spot h0
    subst hs
    exact ⟨b, off, rfl, fun j hj => by have := hcell j hj; rwa [Addr.add_lit] at this⟩
end
/-- All pieces. -/
def alls (ls : List (Value × List (Int × ByteArray))) : List (Int × ByteArray) := ls.flatMap (·.2)
theorem alls_append (a b : List (Value × List (Int × ByteArray))) : alls (a ++ b) = alls a ++ alls b := by simp [alls]
theorem alls_one (x : Value × List (Int × ByteArray)) : alls [x] = x.2 := by simp [alls]
theorem alls_take (ls : List (Value × List (Int × ByteArray))) (k : Nat) : (alls (ls.take k)).length ≤ (alls ls).length := by
  have := alls_append (ls.take k) (ls.drop k)
  rw [List.take_append_drop] at this
  rw [this, List.length_append]; omega

set_option maxRecDepth 100000 in
set_option maxHeartbeats 4000000 in
theorem joined_any (lo : Option Addr) (ln lc : Nat) (ls : List (Value × List (Int × ByteArray))) (w : World) (h : LS w lo ln lc ls) (hw : EM.wk 0 (alls ls)) :
    Calls Try.prog 68 #[.slice lo ln lc] w fun e w' => ∃ v, e = .returned v ∧ w'.ownsRow w.heap.size 94 2 v (EM.merge (alls ls)).length (ecl (EM.merge (alls ls))) ∧ Below w.heap.size w w' := by
  obtain ⟨i0, hi0, hz0, hz1, hz2⟩ := info_parts info_ext
  have hn : ln ≤ 9223372036854775807 := by have := h.2.1; have := h.2.2.1; unfold maxLen at *; omega
  obtain ⟨hc1, hc2⟩ := EM.wk_cnt hw (by decide)
  have L := W_hid h.1
  have H := W_hid h
  have hlen := W_hid (fun k => alls_take ls k)
  obtain ⟨all, hall⟩ : ∃ all, alls ls = all := ⟨_, rfl⟩
  rw [hall] at hw hc1 hc2 ⊢
  have HALL := W_hid hall
  have halls := W_hid (show all.length ≤ 1048576 by omega)
  have hcnt := W_hid (show EM.cnt all ≤ 1048576 by omega)
  have hwk := W_hid hw
  clear h hw hc1 hc2 hall
  go_enter Try.func68, Try.ntmps68
  go_wp2_with fail
  go_loopw [3, 16] (fun v i wr => ∃ (k m : Nat), k ≤ ln ∧ i = .int .i64 k ∧ Hid ((alls (ls.take k)).length = m) ∧ m ≤ 1048576 ∧ wr.ownsRow w.heap.size 94 2 v m (ecl (alls (ls.take k))) ∧ Below w.heap.size w wr) (fun _ i _ => ln - (intOf i).toNat)
  case atStart => exact ⟨0, 0, Nat.zero_le _, rfl, W_hid rfl, by omega, World.ownsRow_nil _ _ _ _, Below.refl _ _⟩
  case round =>
    obtain ⟨k, m, hk, rfl, hm, hm2, hown, bel⟩ := hrel
    obtain ⟨ox, cx, rfl⟩ := Own.form hown
    by_cases hlt : k < ln
    · have hls := H.out.below bel (Nat.le_refl _)
      obtain ⟨b1, o1, rfl, g1⟩ := hls.at_ (by omega)
      have k1 : k < ls.length := by rw [L.out]; exact hlt
      have e1 := g1 k hlt
      have hnext : Hid (alls (ls.take (k + 1)) = alls (ls.take k) ++ ls[k].2) := by
        show _ = _
        rw [EM.take_snoc ls k k1, alls_append, alls_one]
      obtain ⟨ay, ny, cy, hy, hxs⟩ := hls.2.2.2.2.2 ls[k] (List.getElem_mem k1)
      rw [hy] at e1
      have hmn : m + ny ≤ 1048576 := by
        have h1 := hlen.out (k + 1)
        rw [hnext.out, List.length_append, hm.out, hxs.1, HALL.out] at h1
        have := halls.out
        omega
      have hxs := W_hid hxs
      clear hls g1
      go_wp2_with (at_builtin; apply Hid.out)
      refine W_hid ?_
      refine wpList_append_ext rfl (.tmp 20) (.tmp 21) rfl w.heap.size _ m _ rfl hown ay ny cy _ rfl hxs.out (by omega) bel.size ?_
      intro v2 w2 hown2 hgrow
      obtain ⟨o2, c2, rfl⟩ := Own.form hown2
      have bel2 := bel.grown hgrow bel.size (fun k h => Own.ge hown k h)
      have hown3 : w2.ownsRow w.heap.size 94 2 (.slice o2 (m + ny) c2) (m + ny) (ecl (alls (ls.take (k + 1)))) := by
        rw [hnext.out, ecl_append]; exact hown2
      have hm3 : Hid ((alls (ls.take (k + 1))).length = m + ny) := by
        show _ = _
        rw [hnext.out, List.length_append, hm.out, hxs.out.1]
      clear hown hown2 hgrow bel hm hxs hnext e1 hy
      go_wp2_with fail
      go_roundw
      case rel => exact ⟨k + 1, m + ny, by omega, by go_num, hm3, by omega, hown3, bel2⟩
      case measure => simp [intOf]; omega
    · obtain rfl : k = ln := by omega
      have hm3 : Hid (all.length = m) := by
        have := hm.out
        rwa [List.take_of_length_le (by rw [L.out]; exact Nat.le_refl _), HALL.out] at this
      rw [List.take_of_length_le (by rw [L.out]; exact Nat.le_refl _), HALL.out] at hown
      clear hm HALL halls hlen H L
      have hpk := W_hid (packed_any ox m cx all wr (XS_own hown) (EM.wk_pos hwk.out) (by have := hcnt.out; omega))
      go_wp2_with fail
      refine hpk.out.mono ?_
      rintro e w1 ⟨rfl, bel1⟩
      have hown1 := Own.below hown bel1
      have bel2 := bel.trans (bel1.mono bel.size)
      have hT : Hid ((strOf (EM.cat all)).data.toList = EM.cat all) := strOf_list _
      generalize strOf (EM.cat all) = T at hT
      clear hpk hown bel1 bel
      go_wp2_with fail
      have hxs := W_hid (XS_own hown1)
      go_loopw [4, 8, 28] (fun v f i w' => ∃ (k b q : Nat) (o : List (Int × ByteArray)), k ≤ m ∧ q ≤ k ∧ b ≤ 1048576 ∧ i = .int .i64 k ∧ f = .int .i64 b ∧ Hid (EM.cnt (all.take k) = b) ∧ Hid (EM.merge (all.take k) = o ∧ o.length = q) ∧ w'.ownsRow w1.heap.size 94 2 v q (ecl o) ∧ Below w1.heap.size w1 w') (fun _ _ i _ => m - (intOf i).toNat)
      case atStart => exact ⟨0, 0, 0, [], Nat.zero_le _, Nat.le_refl _, by omega, rfl, rfl, W_hid rfl, W_hid ⟨rfl, rfl⟩, World.ownsRow_nil _ _ _ _, Below.refl _ _⟩
      case round =>
        obtain ⟨k, b, q, o, hk, hqk, hb, rfl, rfl, hcb, ho, hown, bel⟩ := hrel
        obtain ⟨oo, co, rfl⟩ := Own.form hown
        by_cases hlt : k < m
        · have hls := hxs.out.below bel (Nat.le_refl _)
          obtain ⟨b1, o1, rfl, g1⟩ := hls.at_ (by omega)
          have k1 : k < all.length := by rw [hm3.out]; exact hlt
          obtain ⟨e1, e2⟩ := g1 k hlt
          have hat := EM.wk_at hwk.out k k1
          obtain ⟨hd, ha, had, -⟩ := hat
          have hnext : Hid (EM.cnt (all.take (k + 1)) = b + all[k].2.size) := by
            show _ = _
            rw [EM.take_snoc all k k1, EM.cnt_append, EM.cnt_one, hcb.out]
          have hbb : b + all[k].2.size ≤ 1048576 := by
            have h1 := EM.cnt_take all (k + 1)
            rw [hnext.out] at h1
            have := hcnt.out; omega
          have hTs : b + all[k].2.size ≤ T.size := by
            have h1 := EM.cnt_take all (k + 1)
            rw [hnext.out] at h1
            rw [EM.text_size hT.out]; exact h1
          have hmg : Hid (EM.merge (all.take (k + 1)) = EM.put o all[k]) := by
            show _ = _
            rw [EM.merge_take all k k1, ho.out.1]
          have ht1 := W_hid (EM.text_one k1 hT.out)
          have ht2 := W_hid (fun (y : ByteArray) (p : List UInt8) h => @EM.text_two all k k1 T y hT.out p h)
          have hlast := W_hid (fun (p : List (Int × ByteArray)) y h => @EM.merge_last (all.take k) p y (EM.wk_take hwk.out k) h)
          rw [hcb.out] at ht1
          rw [hcb.out] at ht2
          obtain ⟨⟨a, d⟩, hx⟩ : ∃ x, all[k] = x := ⟨_, rfl⟩
          simp only [hx, EM.fin] at e1 e2 hd ha had hnext hbb hTs hmg ht1 ht2
          have hw2 := XB.new wr a d rfl
          have u0 := hw2.c0
          have u1 := hw2.c1
          have bel3 := bel.alloc bel.size (.cells #[.int .i64 a, .string d] 94)
          have hown3 := hown.alloc (.cells #[.int .i64 a, .string d] 94)
          rcases List.eq_nil_or_concat o with rfl | ⟨p, ⟨ya, yd⟩, rfl⟩
          · obtain rfl : q = 0 := ho.out.2.symm
            have hsl : ∀ w, (Instr.slice 9 (.string T) (some (.int .i64 (b : Int))) (some (.int .i64 ((b : Int) + (d.size : Int)))) none).run Try.prog w = .ok (.string d) w := fun w => by
              rw [run_slice_string w _ T _ _ _ _ Try.underlying9 (by omega) (by omega) (by omega), show (b : Int).toNat = b by omega, show ((b : Int) + (d.size : Int)).toNat = b + d.size by omega, ht1.out]
            have hnm : Hid (EM.merge (all.take (k + 1)) = [(a, d)]) := by show _ = _; rw [hmg.out]; exact EM.put_nil _
            clear hls g1 hx ht1 ht2 hlast hcb ho hw2 hown hmg
            go_wp2_with fail
            go_quiet (fail)
            obtain ⟨W, hW⟩ : ∃ W, (wr.alloc (.cells #[.int .i64 a, .string d] 94)).drewN nq = W := ⟨_, rfl⟩
            have c0 : W.cell? ⟨wr.heap.size, 0, none⟩ = some (.int .i64 a) := by rw [← hW]; exact u0
            have c1 : W.cell? ⟨wr.heap.size, 1, none⟩ = some (.string d) := by rw [← hW]; exact u1
            have hown4 : W.ownsRow w1.heap.size 94 2 (.slice oo 0 co) 0 (ecl []) := by rw [← hW]; exact hown3
            have bel4 : Below w1.heap.size w1 W := by rw [← hW]; exact below_drewN bel3 _
            rw [hW]
            clear hW u0 u1 hown3 bel3 e1 e2 bel
            go_wp2_with (at_builtin; apply Hid.out)
            refine W_hid ?_
            refine wpList_append_own_wide _ rfl (.tmp 70) (.tmp 77) 70 rfl w1.heap.size 94 i0 (.agg #[.int .i64 0, .string ByteArray.empty]) 2 24 Try.underlying70 hi0 hz0 hz1 hz2 rfl (by decide) _ 0 (ecl []) rfl (hown4.alloc _) ⟨W.heap.size, 0, none⟩ 1 1 [.int .i64 a, .string d] rfl rfl (Own.cells_two _ _ _ _ _) (by intro u hu; simp at hu; rcases hu with rfl | rfl <;> rfl) (by unfold maxLen; omega) (by omega) (by simp; have := bel4.size; omega) ?_
            intro v2 w2 hown5 hgrow _
            obtain ⟨ao2, cap2, rfl⟩ := Own.form hown5
            have bel5 := (bel4.alloc bel4.size _).grown hgrow (by simp; have := bel4.size; omega) (fun k h => Own.ge hown4 k h)
            clear c0 c1 hown4 bel4 hgrow
            go_wp2_with fail
            go_roundw
            case rel => exact ⟨k + 1, b + d.size, 1, [(a, d)], by omega, by omega, by omega, by go_num, by go_num, hnext, W_hid ⟨hnm.out, rfl⟩, hown5, bel5⟩
            case measure => simp [intOf]; omega
          · rw [List.concat_eq_append] at *
            obtain rfl : q = p.length + 1 := by have := ho.out.2; rw [← this]; simp
            obtain ⟨hy1, hy2, hy3⟩ := hlast.out p (ya, yd) ho.out.1
            simp only [EM.fin] at hy2
            have hyb : yd.size ≤ b := by
              have h1 := congrArg List.length hy3
              rw [EM.cat_length, hcb.out, List.length_append] at h1
              simp only [EM.list_size] at h1
              omega
            obtain ⟨b2, o2, rfl, g2⟩ := (XS_own hown).at_ (by omega)
            obtain ⟨f1, f2⟩ := g2 p.length (by omega)
            simp only [List.getElem_append_right (Nat.le_refl p.length), Nat.sub_self, List.getElem_cons_zero] at f1 f2
            have hco : p.length + 1 ≤ co := (XS_own hown).2.1
            have F1 : Hid ((wr.alloc (.cells #[.int .i64 a, .string d] 94)).cell? ⟨b2, o2 + p.length * 2, none⟩ = some (.int .i64 ya)) := (World.cell?_alloc_lt wr _ _ (World.block_lt_of_cell? wr _ f1)).trans f1
            have F2 : Hid ((wr.alloc (.cells #[.int .i64 a, .string d] 94)).cell? ⟨b2, o2 + p.length * 2 + 1, none⟩ = some (.string yd)) := (World.cell?_alloc_lt wr _ _ (World.block_lt_of_cell? wr _ f2)).trans f2
            have hend := W_hid (fun w => end_any ya yd w (by omega) (by omega))
            have hps : EM.put (p ++ [(ya, yd)]) (a, d) = if ya + yd.size = a then p ++ [(ya, yd ++ d)] else p ++ [(ya, yd)] ++ [(a, d)] := EM.put_snoc _ _ _
            have n1 : ((p.length : Int) + 1 - 1) = p.length := by omega
            by_cases hya : ya + yd.size = a
            · obtain ⟨r, hr⟩ : ∃ r, r = yd ++ d := ⟨_, rfl⟩
              have hsl : ∀ w, (Instr.slice 9 (.string T) (some (.int .i64 ((b : Int) - (yd.size : Int)))) (some (.int .i64 ((b : Int) + (d.size : Int)))) none).run Try.prog w = .ok (.string r) w := fun w => by
                rw [run_slice_string w _ T _ _ _ _ Try.underlying9 (by omega) (by omega) (by omega), show ((b : Int) - (yd.size : Int)).toNat = b - yd.size by omega, show ((b : Int) + (d.size : Int)).toNat = b + d.size by omega, ht2.out yd (EM.cat p) hy3, hr]
              have hnm : Hid (EM.merge (all.take (k + 1)) = p ++ [(ya, r)]) := by show _ = _; rw [hmg.out, hps, if_pos hya, hr]
              have hyq : ((ya + (yd.size : Int)) == a) = true := by simpa using hya
              clear hls g1 hx ht1 ht2 hlast hcb ho hw2 hown hmg hps hy3 g2 f1 f2 hr
              go_wp2_with fail
              go_quiet (fail)
              obtain ⟨W, hW⟩ : ∃ W, (wr.alloc (.cells #[.int .i64 a, .string d] 94)).drewN nq = W := ⟨_, rfl⟩
              have c0 : W.cell? ⟨wr.heap.size, 0, none⟩ = some (.int .i64 a) := by rw [← hW]; exact u0
              have c1 : W.cell? ⟨wr.heap.size, 1, none⟩ = some (.string d) := by rw [← hW]; exact u1
              have y0 : W.cell? ⟨b2, o2 + p.length * 2, none⟩ = some (.int .i64 ya) := by rw [← hW]; exact F1.out
              have y1 : W.cell? ⟨b2, o2 + p.length * 2 + 1, none⟩ = some (.string yd) := by rw [← hW]; exact F2.out
              have hown4 : W.ownsRow w1.heap.size 94 2 (.slice (some ⟨b2, o2, none⟩) (p.length + 1) co) (p.length + 1) (ecl (p ++ [(ya, yd)])) := by rw [← hW]; exact hown3
              have bel4 : Below w1.heap.size w1 W := by rw [← hW]; exact below_drewN bel3 _
              rw [hW]
              clear hW u0 u1 hown3 bel3 e1 e2 bel F1 F2
              go_wp2_with fail
              refine (hend.out _).mono ?_
              rintro e w5 ⟨rfl, bel5⟩
              have z0 := (bel5.cell (World.block_lt_of_cell? W _ y0)).trans y0
              have z1 := (bel5.cell (World.block_lt_of_cell? W _ y1)).trans y1
              have hown5 := Own.cut (Own.below hown4 bel5) (k := p.length) (by omega)
              rw [ecl_take, List.take_left' rfl] at hown5
              have bel6 := bel4.trans (bel5.mono bel4.size)
              clear c0 c1 y0 y1 hown4 bel4 bel5 hend hya
              go_wp2_with (at_builtin; apply Hid.out)
              refine W_hid ?_
              refine wpList_append_own_wide _ rfl (.tmp 70) (.tmp 77) 70 rfl w1.heap.size 94 i0 (.agg #[.int .i64 0, .string ByteArray.empty]) 2 24 Try.underlying70 hi0 hz0 hz1 hz2 rfl (by decide) _ p.length (ecl p) rfl (hown5.alloc _) ⟨w5.heap.size, 0, none⟩ 1 1 [.int .i64 ya, .string r] rfl rfl (Own.cells_two _ _ _ _ _) (by intro u hu; simp at hu; rcases hu with rfl | rfl <;> rfl) (by unfold maxLen; omega) (by omega) (by simp; have := bel6.size; omega) ?_
              intro v2 w2 hown6 hgrow _
              obtain ⟨ao2, cap2, rfl⟩ := Own.form hown6
              have bel7 := (bel6.alloc bel6.size _).grown hgrow (by simp; have := bel6.size; omega) (fun k h => Own.ge hown5 k h)
              clear z0 z1 hown5 bel6 hgrow
              go_wp2_with fail
              go_roundw
              case rel => exact ⟨k + 1, b + d.size, p.length + 1, p ++ [(ya, r)], by omega, by omega, by omega, by go_num, by go_num, hnext, W_hid ⟨hnm.out, by simp⟩, (by rw [ecl_append]; exact hown6), bel7⟩
              case measure => simp [intOf]; omega
            · have hsl : ∀ w, (Instr.slice 9 (.string T) (some (.int .i64 (b : Int))) (some (.int .i64 ((b : Int) + (d.size : Int)))) none).run Try.prog w = .ok (.string d) w := fun w => by
                rw [run_slice_string w _ T _ _ _ _ Try.underlying9 (by omega) (by omega) (by omega), show (b : Int).toNat = b by omega, show ((b : Int) + (d.size : Int)).toNat = b + d.size by omega, ht1.out]
              have hnm : Hid (EM.merge (all.take (k + 1)) = (p ++ [(ya, yd)]) ++ [(a, d)]) := by show _ = _; rw [hmg.out, hps, if_neg hya]
              have hyq : ((ya + (yd.size : Int)) == a) = false := by simpa using hya
              clear hls g1 hx ht1 ht2 hlast hcb ho hw2 hown hmg hps hy3 g2 f1 f2
              go_wp2_with fail
              go_quiet (fail)
              obtain ⟨W, hW⟩ : ∃ W, (wr.alloc (.cells #[.int .i64 a, .string d] 94)).drewN nq = W := ⟨_, rfl⟩
              have c0 : W.cell? ⟨wr.heap.size, 0, none⟩ = some (.int .i64 a) := by rw [← hW]; exact u0
              have c1 : W.cell? ⟨wr.heap.size, 1, none⟩ = some (.string d) := by rw [← hW]; exact u1
              have y0 : W.cell? ⟨b2, o2 + p.length * 2, none⟩ = some (.int .i64 ya) := by rw [← hW]; exact F1.out
              have y1 : W.cell? ⟨b2, o2 + p.length * 2 + 1, none⟩ = some (.string yd) := by rw [← hW]; exact F2.out
              have hown4 : W.ownsRow w1.heap.size 94 2 (.slice (some ⟨b2, o2, none⟩) (p.length + 1) co) (p.length + 1) (ecl (p ++ [(ya, yd)])) := by rw [← hW]; exact hown3
              have bel4 : Below w1.heap.size w1 W := by rw [← hW]; exact below_drewN bel3 _
              rw [hW]
              clear hW u0 u1 hown3 bel3 e1 e2 bel F1 F2
              go_wp2_with fail
              refine (hend.out _).mono ?_
              rintro e w5 ⟨rfl, bel5⟩
              have hown5 := Own.below hown4 bel5
              have bel6 := bel4.trans (bel5.mono bel4.size)
              clear c0 c1 y0 y1 hown4 bel4 bel5 hend hya
              go_wp2_with (at_builtin; apply Hid.out)
              refine W_hid ?_
              refine wpList_append_own_wide _ rfl (.tmp 70) (.tmp 77) 70 rfl w1.heap.size 94 i0 (.agg #[.int .i64 0, .string ByteArray.empty]) 2 24 Try.underlying70 hi0 hz0 hz1 hz2 rfl (by decide) _ (p.length + 1) (ecl (p ++ [(ya, yd)])) rfl (hown5.alloc _) ⟨w5.heap.size, 0, none⟩ 1 1 [.int .i64 a, .string d] rfl rfl (Own.cells_two _ _ _ _ _) (by intro u hu; simp at hu; rcases hu with rfl | rfl <;> rfl) (by unfold maxLen; omega) (by omega) (by simp; have := bel6.size; omega) ?_
              intro v2 w2 hown6 hgrow _
              obtain ⟨ao2, cap2, rfl⟩ := Own.form hown6
              have bel7 := (bel6.alloc bel6.size _).grown hgrow (by simp; have := bel6.size; omega) (fun k h => Own.ge hown5 k h)
              clear hown5 bel6 hgrow
              go_wp2_with fail
              go_roundw
              case rel => exact ⟨k + 1, b + d.size, p.length + 1 + 1, (p ++ [(ya, yd)]) ++ [(a, d)], by omega, by omega, by omega, by go_num, by go_num, hnext, W_hid ⟨hnm.out, by simp⟩, (by rw [ecl_append]; exact hown6), bel7⟩
              case measure => simp [intOf]; omega
        · obtain rfl : k = m := by omega
          have hh : Hid (EM.merge all = o) := by
            have := ho.out.1
            rwa [List.take_of_length_le (by rw [hm3.out]; exact Nat.le_refl _)] at this
          have hq := W_hid ho.out.2
          clear ho hcb
          go_wp2_with fail
          go_ret
          refine ⟨_, rfl, ?_, bel2.trans (bel.mono bel2.size)⟩
          rw [hh.out, hq.out]
          exact Own.low bel2.size hown

end Go.Proofs.Ytieneehpijilpaa

/- The law RegionAsks of layer 9 (package haywardlaw09), and the document's own At: for every input the law returns true, and its arguments read as before. No further condition. -/
import Derived.Test.YtjdnhiakpobooaaLaws09d
import Derived.Test.YtjdnhiakpobooaaRegRef2
namespace Go.Proofs.Ytjdnhiakpobooaa
open Go.ChangeShapes Go.WideShapes Go.ChangeAt Go.RowKit
open SQ
set_option linter.unusedVariables false
set_option linter.unusedSimpArgs false
open RG (Rg)

theorem meets_at (va : Nat) (r : Rg) : RG.meets va (va + 1) r ↔ r.f ≤ va ∧ va < r.t := by unfold RG.meets; omega
theorem meeting_none {va : Nat} {l : List Rg} (h : ∀ r ∈ l, ¬ (r.f ≤ va ∧ va < r.t)) : RG.meeting va (va + 1) l = [] := by
  unfold RG.meeting
  rw [List.filter_eq_nil_iff]
  intro r hr
  simp only [decide_eq_true_eq]
  exact fun hm => h r hr ((meets_at va r).1 hm)
theorem meeting_hit {va : Nat} {l : List Rg} {k : Nat} (hk : k < l.length) (h0 : RG.meeting va (va + 1) (l.take k) = []) (h : l[k].f ≤ va ∧ va < l[k].t) : ∃ r, RG.meeting va (va + 1) l = l[k] :: r := by
  refine ⟨RG.meeting va (va + 1) (l.drop (k + 1)), ?_⟩
  have e : l = l.take k ++ l[k] :: l.drop (k + 1) := by rw [List.getElem_cons_drop]; exact (List.take_append_drop k l).symm
  have e2 : RG.meeting va (va + 1) (l.take k ++ l[k] :: l.drop (k + 1)) = RG.meeting va (va + 1) (l.take k) ++ RG.meeting va (va + 1) (l[k] :: l.drop (k + 1)) := by
    unfold RG.meeting; exact List.filter_append _ _
  rw [← e, h0, RG.meeting_cons, if_pos ((meets_at va _).2 h)] at e2
  exact e2
theorem atV_eq (l : List Rg) (va : Nat) : atV l va = fstV (if RG.Ok true none l then RG.meeting va (va + 1) l else []) := by
  unfold atV
  by_cases h : RG.Ok true none l
  · by_cases hv : va < 140737488355328
    · rw [if_pos ⟨h, hv⟩, if_pos h]
    · rw [if_neg (fun hh => hv hh.2), if_pos h, meeting_none]
      intro r hr
      obtain ⟨i, hi, rfl⟩ := List.mem_iff_getElem.1 hr
      obtain ⟨_, hg, _⟩ := ok_each h i hi
      have := hg.1.2.2.2
      omega
  · rw [if_neg (fun hh => h hh.1), if_neg h]

set_option maxRecDepth 100000 in
set_option maxHeartbeats 4000000 in
theorem rAt_any (ao : Option Addr) (n cap : Nat) (l : List Rg) (va : Nat) (w : World) (h : RS w ao n cap l) :
    Gv 23 #[.slice ao n cap, .int .u64 (va : Int)] (atV l va) w := by
  have hn : n ≤ 9223372036854775807 := by have := h.2.1; have := h.2.2.1; unfold maxLen at *; omega
  have L := W_hid h.1
  obtain ⟨w0, hw0⟩ : ∃ w0, w.alloc (.cells #[.int .u64 0, .int .u64 0, .int .i64 0, .int .i64 0] 25) = w0 := ⟨_, rfl⟩
  have bb : Below w.heap.size w w0 := by rw [← hw0]; exact (Below.refl _ _).alloc (Nat.le_refl _) _
  have hB0 : RB w0 w.heap.size ⟨0, 0, 0, 0⟩ := by rw [← hw0]; exact Blk.new _ _ _ rfl
  have H := W_hid (h.below bb (Nat.le_refl _))
  have hR := rRight_any ao n cap l w0 H.out
  rw [atV_eq]
  clear h
  by_cases hok : RG.Ok true none l
  · rw [decide_eq_true hok] at hR
    replace hR := W_hid hR
    rw [if_pos hok]
    clear hok
    go_enter Try.func23, Try.ntmps23
    go_wp2_with fail
    refine hR.out.mono ?_
    rintro e w1 ⟨rfl, bel1⟩
    have hB1 : RB w1 w.heap.size ⟨0, 0, 0, 0⟩ := hB0.keep bel1
    have hs : w.heap.size < w1.heap.size := hB1.lt
    clear hB0 hw0
    replace H := W_hid (H.out.below bel1 (Nat.le_refl _))
    replace bb := bb.trans (bel1.mono bb.size)
    clear hR bel1
    replace hB1 := W_hid hB1
    go_wp2_with fail
    go_loopw [7] (fun i wr => ∃ k : Nat, k ≤ n ∧ i = .int .i64 k ∧ Hid (RG.meeting va (va + 1) (l.take k) = []) ∧ Below w1.heap.size w1 wr) (fun i _ => n - (intOf i).toNat)
    case atStart => exact ⟨0, Nat.zero_le _, rfl, (rfl : RG.meeting va (va + 1) [] = []), Below.refl _ _⟩
    case round =>
      obtain ⟨k, hk, rfl, hno, bel⟩ := hrel
      by_cases hlt : k < n
      · obtain ⟨b1, o1, rfl, hb1, g1⟩ := (H.out.below bel (Nat.le_refl _)).at_ (by omega)
        have k1 : k < l.length := by rw [L.out]; exact hlt
        obtain ⟨e1, e2, e3, e4⟩ := g1 k hlt
        have hT : Hid (l.take (k + 1) = l.take k ++ [l[k]]) := rtake l k k1
        have hH : Hid (l[k].f ≤ va ∧ va < l[k].t → ∃ r, RG.meeting va (va + 1) l = l[k] :: r) := fun h => meeting_hit k1 hno.out h
        obtain ⟨⟨a, b, c, d⟩, hx⟩ : ∃ x, l[k] = x := ⟨_, rfl⟩
        simp only [hx] at e1 e2 e3 e4 hH
        rw [hx] at hT
        clear hx g1
        have hnx : ¬ (a ≤ va ∧ va < b) → RG.meeting va (va + 1) (l.take (k + 1)) = [] := fun hc => by
          rw [hT.out]
          have e2 : RG.meeting va (va + 1) (l.take k ++ [⟨a, b, c, d⟩]) = RG.meeting va (va + 1) (l.take k) ++ RG.meeting va (va + 1) [⟨a, b, c, d⟩] := by unfold RG.meeting; exact List.filter_append _ _
          rw [e2, hno.out, List.nil_append]
          exact meeting_none (fun r hr => by rw [List.mem_singleton.1 hr]; exact hc)
        by_cases c1 : (a : Int) ≤ (va : Int)
        · by_cases c2 : (va : Int) < (b : Int)
          · obtain ⟨r, hr⟩ := hH.out ⟨by omega, by omega⟩
            replace hr := W_hid hr
            clear hnx hH hT hno
            have hB4 : RB wr w.heap.size ⟨0, 0, 0, 0⟩ := hB1.out.keep bel
            obtain ⟨c0, c1', c2', c3⟩ := RB.re hB4
            have f0 := Blk.fz hB4 0
            have f1 := Blk.fz hB4 1
            have f2 := Blk.fz hB4 2
            have f3 := Blk.fz hB4 3
            have hB5 := W_hid (((((hB4.set 0 (.int .u64 (a : Int))).set 1 (.int .u64 (b : Int))).set 2 (.int .i64 c)).set 3 (.int .i64 d)))
            have b4 : Below w.heap.size w wr := bb.trans (bel.mono bb.size)
            have b5 := ((((b4.setCell (p := ⟨w.heap.size, 0, none⟩) (Nat.le_refl _) (.int .u64 (a : Int))).setCell (p := ⟨w.heap.size, 1, none⟩) (Nat.le_refl _) (.int .u64 (b : Int))).setCell (p := ⟨w.heap.size, 2, none⟩) (Nat.le_refl _) (.int .i64 c)).setCell (p := ⟨w.heap.size, 3, none⟩) (Nat.le_refl _) (.int .i64 d))
            clear hB4 b4
            go_wp2
            refine bodyPost_ret (res_reg1 (x := ⟨a, b, c, d⟩) rfl _ _ rfl hB5.out) rfl ?_
            exact ⟨by rw [hr.out]; rfl, b5⟩
          · have hnx := W_hid (hnx (by omega))
            clear hH hT hno
            go_wp2
            go_roundw
            case rel => exact ⟨k + 1, by omega, by go_num, hnx, bel⟩
            case measure => simp [intOf]; omega
        · have hnx := W_hid (hnx (by omega))
          clear hH hT hno
          go_wp2
          go_roundw
          case rel => exact ⟨k + 1, by omega, by go_num, hnx, bel⟩
          case measure => simp [intOf]; omega
      · obtain rfl : k = n := by omega
        have hh : Hid (RG.meeting va (va + 1) l = []) := by
          have e := hno.out
          rw [List.take_of_length_le (by rw [L.out]; exact Nat.le_refl _)] at e
          exact e
        clear hno
        have hB4 : RB wr w.heap.size ⟨0, 0, 0, 0⟩ := hB1.out.keep bel
        obtain ⟨c0, c1', c2', c3⟩ := RB.re hB4
        have f0 := Blk.fz hB4 0
        have f1 := Blk.fz hB4 1
        have f2 := Blk.fz hB4 2
        have f3 := Blk.fz hB4 3
        have hB5 := W_hid (((((hB4.set 0 (.int .u64 (0 : Int))).set 1 (.int .u64 (0 : Int))).set 2 (.int .i64 0)).set 3 (.int .i64 0)))
        have b4 : Below w.heap.size w wr := bb.trans (bel.mono bb.size)
        have b5 := ((((b4.setCell (p := ⟨w.heap.size, 0, none⟩) (Nat.le_refl _) (.int .u64 (0 : Int))).setCell (p := ⟨w.heap.size, 1, none⟩) (Nat.le_refl _) (.int .u64 (0 : Int))).setCell (p := ⟨w.heap.size, 2, none⟩) (Nat.le_refl _) (.int .i64 0)).setCell (p := ⟨w.heap.size, 3, none⟩) (Nat.le_refl _) (.int .i64 0))
        clear hB4 b4
        go_wp2
        refine bodyPost_ret (res_reg1 (x := ⟨0, 0, 0, 0⟩) rfl _ _ rfl hB5.out) rfl ?_
        exact ⟨by rw [hh.out]; rfl, b5⟩
  · rw [decide_eq_false hok] at hR
    replace hR := W_hid hR
    rw [if_neg hok]
    clear hok
    go_enter Try.func23, Try.ntmps23
    go_wp2_with fail
    refine hR.out.mono ?_
    rintro e w1 ⟨rfl, bel1⟩
    have hB1 : RB w1 w.heap.size ⟨0, 0, 0, 0⟩ := hB0.keep bel1
    have hs : w.heap.size < w1.heap.size := hB1.lt
    clear hB0 hw0
    replace bb := bb.trans (bel1.mono bb.size)
    clear hR H bel1
    replace hB1 := W_hid hB1
    go_wp2_with fail
    go_loopw [7] (fun i wr => i = .int .i64 0 ∧ wr = w1) (fun i _ => n - (intOf i).toNat)
    case atStart => exact ⟨rfl, rfl⟩
    case round =>
      obtain ⟨rfl, rfl⟩ := hrel
      by_cases hz : (0 : Int) < n
      · have hB4 : RB wr w.heap.size ⟨0, 0, 0, 0⟩ := hB1.out
        obtain ⟨c0, c1', c2', c3⟩ := RB.re hB4
        have f0 := Blk.fz hB4 0
        have f1 := Blk.fz hB4 1
        have f2 := Blk.fz hB4 2
        have f3 := Blk.fz hB4 3
        have hB5 := W_hid (((((hB4.set 0 (.int .u64 (0 : Int))).set 1 (.int .u64 (0 : Int))).set 2 (.int .i64 0)).set 3 (.int .i64 0)))
        have b4 : Below w.heap.size w wr := bb
        have b5 := ((((b4.setCell (p := ⟨w.heap.size, 0, none⟩) (Nat.le_refl _) (.int .u64 (0 : Int))).setCell (p := ⟨w.heap.size, 1, none⟩) (Nat.le_refl _) (.int .u64 (0 : Int))).setCell (p := ⟨w.heap.size, 2, none⟩) (Nat.le_refl _) (.int .i64 0)).setCell (p := ⟨w.heap.size, 3, none⟩) (Nat.le_refl _) (.int .i64 0))
        clear hB4 b4
        go_wp2
        refine bodyPost_ret (res_reg1 (x := ⟨0, 0, 0, 0⟩) rfl _ _ rfl hB5.out) rfl ?_
        exact ⟨rfl, b5⟩
      · have hB4 : RB wr w.heap.size ⟨0, 0, 0, 0⟩ := hB1.out
        obtain ⟨c0, c1', c2', c3⟩ := RB.re hB4
        have f0 := Blk.fz hB4 0
        have f1 := Blk.fz hB4 1
        have f2 := Blk.fz hB4 2
        have f3 := Blk.fz hB4 3
        have hB5 := W_hid (((((hB4.set 0 (.int .u64 (0 : Int))).set 1 (.int .u64 (0 : Int))).set 2 (.int .i64 0)).set 3 (.int .i64 0)))
        have b4 : Below w.heap.size w wr := bb
        have b5 := ((((b4.setCell (p := ⟨w.heap.size, 0, none⟩) (Nat.le_refl _) (.int .u64 (0 : Int))).setCell (p := ⟨w.heap.size, 1, none⟩) (Nat.le_refl _) (.int .u64 (0 : Int))).setCell (p := ⟨w.heap.size, 2, none⟩) (Nat.le_refl _) (.int .i64 0)).setCell (p := ⟨w.heap.size, 3, none⟩) (Nat.le_refl _) (.int .i64 0))
        clear hB4 b4
        go_wp2
        refine bodyPost_ret (res_reg1 (x := ⟨0, 0, 0, 0⟩) rfl _ _ rfl hB5.out) rfl ?_
        exact ⟨rfl, b5⟩

set_option maxRecDepth 100000 in
set_option maxHeartbeats 4000000 in
theorem RegionAsks_walk (o0 : Option Addr) (n0 c0 : Nat) (l0 : List Rg) (a1 : Int) (w : World) (w0 : RI w o0 n0 c0 l0) (w1 : (Lit.int .u64 a1).wf = true) :
    Calls Try.prog 7 #[.slice o0 n0 c0, .int .u64 a1] w fun e w' => e = .returned (.bool true) ∧ Below w.heap.size w w' := by
  obtain ⟨va, hva⟩ : ∃ x : Nat, a1 = x := ⟨a1.toNat, by have := bounds_u64 w1; omega⟩
  subst hva
  have hL := W_hid w0.1
  have hP := W_hid (fun w h => At_any o0 n0 c0 l0 va w h)
  have hQ := W_hid (fun w h => rAt_any o0 n0 c0 l0 va w h)
  have hx : ∃ (x : Rg) (b : Bool), atV l0 va = .tuple #[ra x, .bool b] := by
    unfold atV
    generalize (if RG.Ok true none l0 ∧ va < 140737488355328 then RG.meeting va (va + 1) l0 else []) = X
    cases X with
    | nil => exact ⟨_, _, rfl⟩
    | cons x r => exact ⟨_, _, rfl⟩
  obtain ⟨⟨f, t, p, k⟩, b, hx⟩ := hx
  rw [hx] at hP hQ
  simp only [ra] at hP hQ
  have hq := reg_eql f t f t p k p k true (by simp)
  clear w0 w1 hx
  go_enter Try.func7, Try.ntmps7
  go_wp2_with fail
  refine (shown_any _).mono ?_
  rintro e w1 ⟨rfl, bb⟩
  replace hL := W_hid (hL.out.keep bb)
  go_wp2_with fail
  refine (hP.out _ hL.out).mono ?_
  rintro e w2 ⟨rfl, bel2⟩
  replace hL := W_hid (hL.out.keep bel2)
  replace bb := bb.trans (bel2.mono bb.size)
  obtain ⟨v, hv⟩ : ∃ v, w2.alloc (.cells #[.int .u64 (f : Int), .int .u64 (t : Int), .int .i64 p, .int .i64 k] 25) = v := ⟨_, rfl⟩
  have bv : Below w2.heap.size w2 v := by rw [← hv]; exact (Below.refl _ _).alloc (Nat.le_refl _) _
  have hB0 : RB v w2.heap.size ⟨f, t, p, k⟩ := by rw [← hv]; exact Blk.new _ _ _ rfl
  replace hL := W_hid (hL.out.keep bv)
  replace bb := bb.trans (bv.mono bb.size)
  go_wp2_with fail
  refine (hQ.out _ hL.out.1).mono ?_
  rintro e w3 ⟨rfl, bel3⟩
  have hB3 : RB w3 w2.heap.size ⟨f, t, p, k⟩ := hB0.keep bel3
  replace bb := bb.trans (bel3.mono bb.size)
  have hs := hB3.lt
  obtain ⟨c0, c1, c2, c3⟩ := RB.re hB3
  clear hL hB0 hB3 bel3 bv hv bel2 hP hQ
  cases b
  · go_wp2
    go_ret
    exact ⟨rfl, bb.alloc bb.size _⟩
  · go_wp2
    go_ret
    exact ⟨rfl, bb.alloc bb.size _⟩
set_option maxRecDepth 100000 in
theorem RegionAsks_lifted (os : Os) (started : os.Started) (H : Type) (enc : TypeId × Value → H) :
    ReturnsInHanded {} Try.checked os 7 .any (Rows.regionAsksSpec.pre6 enc Try.prog Try.f7 Rows.regionAsksRow.domain false) (Rows.regionAsksSpec.post enc Try.prog Try.f7 false true false false) := by
  refine returnsInHanded_of_change (C := Try.checked) (by kernel_rfl) started (by kernel_rfl) Try.func7
    (ChangeSpec.witness6 (enc := enc) (C := Try.checked) false ⟨#[], #[.slice none 0 0, .int .u64 0], []⟩ 8 (by kernel_rfl) (by kernel_rfl) (by kernel_rfl) (by kernel_rfl)) ?_
  intro W base args ds gs before hval0 hW hcnd _
  have hval : ∀ (j : Nat) t v, Try.f7.params[j]? = some t → args[j]? = some v → Value.okWide Try.prog W .any base t v := hval0
  have hW' := hW
  obtain ⟨p, q, hA0, hV, rfl, hfz, hnd⟩ := hW
  have hA : DataW.TrodAll enc Try.prog W 0 (fun _ => true) true Try.f7.params.toList args.toList ds p := hA0
  rw [Try.params7] at hA hval
  obtain ⟨v0, vs0, d0, ds0, p0, q0, hargs, rfl, rfl, h0, r0⟩ := trodAll_cons hA
  obtain ⟨v1, vs1, d1, ds1, p1, q1, rfl, rfl, rfl, h1, r1⟩ := trodAll_cons r0
  obtain ⟨rfl, rfl, rfl⟩ := trodAll_nil r1
  obtain rfl : args = #[v0, v1] := by cases args; simp_all
  obtain ⟨rfl, rfl⟩ := trodVars_none hV
  have k0 := h0
  have lt0 : ∀ x ∈ p0, x.block < W.heap.size := by obtain ⟨m, hm⟩ := k0; exact DataW.trod_lt m _ _ _ hm
  obtain ⟨o0, n0, c0, l0, rfl, w0⟩ := open_regions (hval 0 22 v0 rfl rfl) h0
  obtain ⟨a1, rfl, rfl, rfl, w1⟩ := open_int Try.underlying23 (hval 1 23 v1 rfl rfl) h1
  clear hA0 hval0
  refine (RegionAsks_walk o0 n0 c0 l0 a1 W w0 w1).mono fun e W' ⟨he, bel⟩ => ?_
  subst he
  exact ⟨_, rfl, _, _, _, [], _, [], hW', trodAll_mk1 (shut_bool Try.underlying4 _), (trodAll_cons_mk (Below.trod laidOut (by kernel_rfl) (of_decide_eq_true (by kernel_rfl)) k0 bel lt0) (trodAll_cons_mk (shut_int Try.underlying23 w1) trodAll_mk0)), rfl, bel.frame _, fun h => by cases h⟩

/-- The given statement of RegionAsks. -/
theorem RegionAsks_holds : Rows.RegionAsksSaid :=
  OpenClaim.holds_of_wide 7 Try.f7 rfl rfl rfl rfl rfl rfl rfl ⟨rfl, rfl, rfl, rfl, rfl⟩ rfl rfl rfl rfl rfl (by kernel_rfl) Try.func7 (by kernel_rfl)
    (of_decide_eq_true (by kernel_rfl)) (by unfold Func.isWrapper; first | (rw [if_pos (by decide +kernel)]; kernel_rfl) | (rw [if_neg (by decide +kernel)]; exact ⟨rfl, rfl⟩))
    (fun os started H enc _ => RegionAsks_lifted os started H enc)

end Go.Proofs.Ytjdnhiakpobooaa

/- The law InodeBack of layer 11 (package haywardlaw11): for every input it returns true, and its arguments read as before. No further condition. -/
import Derived.Test.YtieneehpijilpaaLaws11b
import Derived.Test.YtieneehpijilpaaInoFile2
namespace Go.Proofs.Ytieneehpijilpaa
open Go.ChangeShapes Go.WideShapes Go.ChangeAt Go.RowKit
open Go.ChangeMaps (open_string shut_string)
set_option linter.unusedVariables false
set_option linter.unusedSimpArgs false

namespace IN
theorem rd_back {d : Nd} {L k : Nat} {f : Int} {s : ByteArray} (hg : Good L k d) (hk : d.kind = 1) (he : wrE d.l f s = 0) : rdE (wNd d f s).l (wNd d f s).size f (s.size : Int) = 0 ∧ strOf (rdV (wNd d f s).l (wNd d f s).size f (s.size : Int)) = s := by
  obtain ⟨g, -, hok, h0, h1⟩ := wr_good hg hk he
  have hE : rdE (wNd d f s).l (wNd d f s).size f (s.size : Int) = 0 := by unfold rdE; rw [if_pos ⟨hok, g.size.1, h0, by omega, g.size.2, g.fin⟩]
  refine ⟨hE, ?_⟩
  unfold rdV
  rw [if_pos hE]
  by_cases hz : s.size = 0
  · have ez : s = ⟨#[]⟩ := EM.ba_inj (List.eq_nil_of_length_eq_zero (by rw [EM.list_size]; exact hz))
    have hm : (min (s.size : Int) ((wNd d f s).size - f)).toNat = 0 := by omega
    rw [hm]
    rw [ez]
    rfl
  · have hsz : (wNd d f s).size = max d.size (f + s.size) := by unfold wNd; rw [if_neg hz]
    have hm : (min (s.size : Int) ((wNd d f s).size - f)).toNat = s.size := by rw [hsz]; omega
    rw [hm]
    show strOf (EM.rd (EM.wr d.l f s) f s.size) = s
    rw [EM.rd_wr hg.ok h0 h1, strOf_of]
theorem str_eq (s : ByteArray) (w : World) : (binOp .eql 9 (.string s) (.string s)).run Try.prog w = .ok (.bool true) w := by simp [go_sem]
end IN
open IN

set_option maxRecDepth 100000 in
set_option maxHeartbeats 16000000 in
theorem InodeBack_walk (a0 : Int) (a1 : ByteArray) (a2 : Int) (w : World) (w0 : (Lit.int .i64 a0).wf = true) (w1 : a1.size ≤ maxLen) (w2 : (Lit.int .i64 a2).wf = true) :
    Calls Try.prog 6 #[.int .i64 a0, .string a1, .int .i64 a2] w fun e w' => e = .returned (.bool true) ∧ Below w.heap.size w w' := by
  have cS := W_hid (shown_any w)
  have cap : ∀ w, (Instr.build 23 #[(0, .int .i64 1), (1, .int .i64 1048576), (2, .int .i64 1)]).run Try.prog w = .ok (cap7 1 1048576 1 0 0 0 0) w := fun w => by kernel_rfl
  have hf : I64 a0 := bounds_i64 w0
  have hs : I64 a2 := bounds_i64 w2
  have hsz := w1
  unfold maxLen at hsz
  go_enter Try.func6, Try.ntmps6
  go_wp2_with fail
  refine cS.out.mono ?_
  rintro e x1 ⟨rfl, b1⟩
  have hbase := b1.size
  have cN := W_hid (New_yes 1 1048576 1 0 0 0 0 x1 (by unfold Right; omega))
  have b1 := W_hid b1
  go_wp2_with fail
  refine cN.out.mono ?_
  rintro e x2 ⟨sg, mb, M, rfl, hP, b2⟩
  have b2 := W_hid (b1.out.trans (b2.mono hbase))
  have cM := W_hid (Make_yes 1 1 x2 hP (mkR_yes (.inl rfl) (by rw [lst_none]; decide)) low_none (by decide) (by decide))
  clear hP cN
  go_wp2_with fail
  refine cM.out.mono ?_
  rintro e x3 ⟨rfl, ⟨M1, hP1⟩, k3⟩
  have b3 := W_hid (b2.out.trans ((below_keeps k3).mono hbase))
  obtain ⟨S1, hS1⟩ : ∃ S1, upd (fun _ => none) ((1 : Nat) : Int) (some (newNd 1)) = S1 := ⟨_, rfl⟩
  have s1 : S1 1 = some (newNd 1) := by rw [← hS1]; rfl
  rw [hS1] at hP1
  have cW := IN.Write_any 1 a0 a1 x3 hP1 i64_one hf w1
  have hg1 := hP1.fn.good 1 _ s1
  have hR : wrErr (Int.toNat 1) (Int.toNat 1048576) S1 1 a0 a1 = wrErr (Int.toNat 1) (Int.toNat 1048576) S1 1 a0 a1 := rfl
  obtain ⟨E, hE⟩ : ∃ E, wrErr (Int.toNat 1) (Int.toNat 1048576) S1 1 a0 a1 = E := ⟨_, rfl⟩
  rw [hE] at cW
  have hwr : E = 0 → wrE (newNd 1).l a0 a1 = 0 ∧ wrS (Int.toNat 1) (Int.toNat 1048576) S1 1 a0 a1 = upd S1 1 (some (wNd (newNd 1) a0 a1)) := by
    intro h
    rw [← hE] at h
    unfold wrErr askR at h
    rw [s1] at h
    simp only at h
    rw [if_pos (show (newNd 1).kind = 1 from rfl)] at h
    by_cases q1 : wrE (newNd 1).l a0 a1 = 0
    · rw [if_pos q1] at h
      by_cases q2 : tot S1 (Int.toNat 1) + EM.cnt (EM.wr (newNd 1).l a0 a1) ≤ (Int.toNat 1048576) + EM.cnt (newNd 1).l
      · exact ⟨q1, by unfold wrS; rw [s1]; simp only; rw [if_pos ⟨rfl, q1, q2⟩]⟩
      · rw [if_neg q2] at h; cases h
    · rw [if_neg q1] at h; exact absurd h q1
  have hno : E ≠ 0 → wrS (Int.toNat 1) (Int.toNat 1048576) S1 1 a0 a1 = S1 := by
    intro h
    unfold wrS
    rw [s1]
    simp only
    rw [if_neg]
    rintro ⟨q0, q1, q2⟩
    apply h
    rw [← hE]
    unfold wrErr askR
    rw [s1]
    simp only
    rw [if_pos q0, if_pos q1, if_pos q2]
  replace cW := W_hid cW
  replace hwr := W_hid hwr
  replace hno := W_hid hno
  replace hg1 := W_hid hg1
  replace s1 := W_hid s1
  clear hP1 k3 hS1 hR hE
  go_wp2_with fail
  refine cW.out.mono ?_
  rintro e x4 ⟨rfl, ⟨M2, hP2⟩, k4⟩
  have b4 := W_hid (b3.out.trans ((below_keeps k4).mono hbase))
  by_cases he : E = 0
  · obtain ⟨hw1, hw2⟩ := hwr.out he
    rw [hw2] at hP2
    obtain ⟨hr1, hr2⟩ := rd_back hg1.out rfl hw1
    obtain ⟨D, hD⟩ : ∃ D, wNd (newNd 1) a0 a1 = D := ⟨_, rfl⟩
    have hk : D.kind = 1 := by rw [← hD]; rfl
    rw [hD] at hP2 hr1 hr2
    obtain ⟨S2, hS2⟩ : ∃ S2, upd S1 1 (some D) = S2 := ⟨_, rfl⟩
    have s2 : S2 1 = some D := by rw [← hS2, upd_at]
    rw [hS2] at hP2
    have cR := Read_yes 1 a0 (a1.size : Int) D x4 hP2 i64_one hf ⟨by omega, by omega⟩ s2 hk
    rw [hr1, hr2] at cR
    replace cR := W_hid cR
    have hgD := W_hid (hP2.fn.good 1 D s2)
    replace hP2 := W_hid hP2
    replace s2 := W_hid s2
    subst he
    clear hw1 hw2 hr1 hr2 hD hS2 k4 cW
    go_wp2_with fail
    refine cR.out.mono ?_
    rintro e x5 ⟨rfl, b5⟩
    have cT := Trunc_any 1 a2 x5 (hP2.out.keep b5) i64_one hs
    have b5 := W_hid (b4.out.trans (b5.mono b4.out.size))
    by_cases ht : 0 ≤ a2 ∧ a2 ≤ 1048576
    · have e1 : tErr S2 1 a2 = 0 := by unfold tErr askR; rw [s2.out]; simp only; rw [if_pos hk, if_neg (by omega), if_neg (by omega)]
      have e2 : tS S2 1 a2 = upd S2 1 (some (tNd D a2)) := by unfold tS; rw [s2.out]; simp only; rw [if_pos ⟨hk, ht⟩]
      rw [e1, e2] at cT
      replace cT := W_hid cT
      clear e1 e2
      go_wp2_with fail
      refine cT.out.mono ?_
      rintro e x6 ⟨rfl, ⟨M3, hP3⟩, k6⟩
      have b6 := W_hid (b5.out.trans ((below_keeps k6).mono hbase))
      have hg3 := hP3.fn.good 1 _ (upd_at _ _ _)
      have hle : (EM.cnt (EM.part 0 a2 D.l) : Int) ≤ a2 := Int.le_trans (cnt_ends hg3.ok) hg3.fin
      have cT := Stat_any 1 x6 hP3 i64_one
      rw [opR_some (upd_at _ _ _), stV_some (upd_at _ _ _)] at cT
      have e3 : stl 1 (tNd D a2) = [.int .i64 1, .int .i64 1, .int .i64 D.links, .int .i64 D.opens, .int .i64 a2, .int .i64 (EM.cnt (EM.part 0 a2 D.l) : Int)] := by
        have : stl 1 (tNd D a2) = [.int .i64 1, .int .i64 D.kind, .int .i64 D.links, .int .i64 D.opens, .int .i64 a2, .int .i64 (EM.cnt (EM.part 0 a2 D.l) : Int)] := rfl
        rw [this, hk]
      rw [e3] at cT
      obtain ⟨Y, hY⟩ : ∃ Y, EM.cnt (EM.part 0 a2 D.l) = Y := ⟨_, rfl⟩
      rw [hY] at cT hle
      replace cT := W_hid cT
      clear hP3 k6 e3 hY hg3
      go_wp2_with fail
      refine cT.out.mono ?_
      rintro e x7 ⟨rfl, b7⟩
      have b8 := b7.alloc b7.size (.cells #[.int .i64 1, .int .i64 1, .int .i64 D.links, .int .i64 D.opens, .int .i64 a2, .int .i64 (Y : Int)] 41)
      have hx := Blk.new x7 41 [.int .i64 1, .int .i64 1, .int .i64 D.links, .int .i64 D.opens, .int .i64 a2, .int .i64 (Y : Int)] rfl
      have y4 := hx.cell (j := 4) rfl
      have y5 := hx.cell (j := 5) rfl
      have b8 := W_hid (b6.out.trans (b8.mono b6.out.size))
      clear b7 hx cT
      have heq := str_eq a1
      go_wp2_with fail
      go_ret
      exact ⟨rfl, b8.out⟩
    · have e1 : ∃ r, r ≠ 0 ∧ tErr S2 1 a2 = r := by
        unfold tErr askR; rw [s2.out]; simp only; rw [if_pos hk]
        by_cases q : a2 < 0
        · exact ⟨2, by decide, by rw [if_pos q]⟩
        · exact ⟨28, by decide, by rw [if_neg q, if_pos (by omega)]⟩
      obtain ⟨r, hr0, e1⟩ := e1
      have e2 : tS S2 1 a2 = S2 := by unfold tS; rw [s2.out]; simp only; rw [if_neg (fun h => ht h.2)]
      rw [e1, e2] at cT
      replace cT := W_hid cT
      clear e1 e2
      go_wp2_with fail
      refine cT.out.mono ?_
      rintro e x6 ⟨rfl, ⟨M3, hP3⟩, k6⟩
      have b6 := W_hid (b5.out.trans ((below_keeps k6).mono hbase))
      have cT := Stat_any 1 x6 hP3 i64_one
      rw [opR_some s2.out, stV_some s2.out] at cT
      simp only [stl, hk] at cT
      obtain ⟨Y, hY⟩ : ∃ Y, EM.cnt D.l = Y := ⟨_, rfl⟩
      rw [hY] at cT
      replace cT := W_hid cT
      clear hP3 k6 hY
      go_wp2_with fail
      refine cT.out.mono ?_
      rintro e x7 ⟨rfl, b7⟩
      have b8 := b7.alloc b7.size (.cells #[.int .i64 1, .int .i64 1, .int .i64 D.links, .int .i64 D.opens, .int .i64 D.size, .int .i64 (Y : Int)] 41)
      have b8 := W_hid (b6.out.trans (b8.mono b6.out.size))
      clear b7 cT
      have heq := str_eq a1
      go_wp2_with fail
      go_ret
      exact ⟨rfl, b8.out⟩
  · rw [hno.out he] at hP2
    have cT := Stat_any 1 x4 hP2 i64_one
    have e0 : IN.stV S1 1 = [.int .i64 1, .int .i64 1, .int .i64 1, .int .i64 0, .int .i64 0, .int .i64 0] := by rw [stV_some s1.out]; rfl
    rw [opR_some s1.out, e0] at cT
    replace cT := W_hid cT
    clear hP2 k4 cW e0
    go_wp2_with fail
    refine cT.out.mono ?_
    rintro e x5 ⟨rfl, b5⟩
    have b6 := b5.alloc b5.size (.cells #[.int .i64 1, .int .i64 1, .int .i64 1, .int .i64 0, .int .i64 0, .int .i64 0] 41)
    have b6 := W_hid (b4.out.trans (b6.mono b4.out.size))
    clear b5 cT
    go_wp2_with fail
    go_ret
    exact ⟨rfl, b6.out⟩

set_option maxRecDepth 100000 in
theorem InodeBack_lifted (os : Os) (started : os.Started) (H : Type) (enc : TypeId × Value → H) :
    ReturnsInHanded {} Try.checked os 6 .any (Rows.inodeBackSpec.pre6 enc Try.prog Try.f6 Rows.inodeBackRow.domain false) (Rows.inodeBackSpec.post enc Try.prog Try.f6 false true false false) := by
  refine returnsInHanded_of_change (C := Try.checked) (by kernel_rfl) started (by kernel_rfl) Try.func6
    (ChangeSpec.witness6 (enc := enc) (C := Try.checked) false ⟨#[], #[.int .i64 0, .string ByteArray.empty, .int .i64 0], []⟩ 8 (by kernel_rfl) (by kernel_rfl) (by kernel_rfl) (by kernel_rfl)) ?_
  intro W base args ds gs before hval0 hW hcnd _
  have hval : ∀ (j : Nat) t v, Try.f6.params[j]? = some t → args[j]? = some v → Value.okWide Try.prog W .any base t v := hval0
  have hW' := hW
  obtain ⟨p, q, hA0, hV, rfl, hfz, hnd⟩ := hW
  have hA : DataW.TrodAll enc Try.prog W 0 (fun _ => true) true Try.f6.params.toList args.toList ds p := hA0
  rw [Try.params6] at hA hval
  obtain ⟨v0, vs0, d0, ds0, p0, q0, hargs, rfl, rfl, h0, r0⟩ := trodAll_cons hA
  obtain ⟨v1, vs1, d1, ds1, p1, q1, rfl, rfl, rfl, h1, r1⟩ := trodAll_cons r0
  obtain ⟨v2, vs2, d2, ds2, p2, q2, rfl, rfl, rfl, h2, r2⟩ := trodAll_cons r1
  obtain ⟨rfl, rfl, rfl⟩ := trodAll_nil r2
  obtain rfl : args = #[v0, v1, v2] := by cases args; simp_all
  obtain ⟨rfl, rfl⟩ := trodVars_none hV
  obtain ⟨a0, rfl, rfl, rfl, w0⟩ := open_int Try.underlying2 (hval 0 2 v0 rfl rfl) h0
  obtain ⟨a1, rfl, rfl, rfl, w1⟩ := open_string Try.underlying9 (hval 1 9 v1 rfl rfl) h1
  obtain ⟨a2, rfl, rfl, rfl, w2⟩ := open_int Try.underlying2 (hval 2 2 v2 rfl rfl) h2
  clear hA0 hval0
  refine (InodeBack_walk a0 a1 a2 W w0 w1 w2).mono fun e W' ⟨he, bel⟩ => ?_
  subst he
  exact ⟨_, rfl, _, _, _, [], _, [], hW', trodAll_mk1 (shut_bool Try.underlying4 _), (trodAll_cons_mk (shut_int Try.underlying2 w0) (trodAll_cons_mk (shut_string Try.underlying9 w1) (trodAll_cons_mk (shut_int Try.underlying2 w2) trodAll_mk0))), rfl, bel.frame _, fun h => by cases h⟩

/-- The given statement of InodeBack. -/
theorem InodeBack_holds : Rows.InodeBackSaid :=
  OpenClaim.holds_of_wide 6 Try.f6 rfl rfl rfl rfl rfl rfl rfl ⟨rfl, rfl, rfl, rfl, rfl⟩ rfl rfl rfl rfl rfl (by kernel_rfl) Try.func6 (by kernel_rfl)
    (of_decide_eq_true (by kernel_rfl)) (by unfold Func.isWrapper; first | (rw [if_pos (by decide +kernel)]; kernel_rfl) | (rw [if_neg (by decide +kernel)]; exact ⟨rfl, rfl⟩))
    (fun os started H enc _ => InodeBack_lifted os started H enc)
end Go.Proofs.Ytieneehpijilpaa

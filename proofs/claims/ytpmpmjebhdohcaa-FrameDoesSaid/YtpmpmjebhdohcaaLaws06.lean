/- The laws of layer 6 (package haywardlaw06), the first part: what they share, and FrameNone: for every input it returns true, and its arguments read as before. No further condition. -/
import Derived.Test.YtpmpmjebhdohcaaFrameDo
import Derived.Test.YtpmpmjebhdohcaaRefFrame
import Derived.ShutString
import Derived.ChangeOld
import Derived.Deep.Slices
namespace Go.Proofs.Ytpmpmjebhdohcaa
open Go.ChangeShapes Go.WideShapes Go.ChangeAt Go.RowKit
set_option linter.unusedVariables false
set_option linter.unusedSimpArgs false

theorem laidOut : laidOutB Try.prog = true := by kernel_rfl

/-- What the walk is told of a slice of integers that came in. -/
def IsRow (k : IntKind) (w : World) (a : Option Addr) (len cap : Nat) (zs : List Int) : Prop :=
  (a = none ∧ len = 0 ∧ cap = 0 ∧ zs = []) ∨
  ∃ x, a = some x ∧ len ≤ cap ∧ cap ≤ maxLen ∧ zs.length = cap ∧ (∀ i, i < zs.length → w.cell? (x.add i) = some (.int k (zs.getD i 0))) ∧ ∀ n ∈ zs, (Lit.int k n).wf = true

theorem cell_lt {w : World} {p : Addr} {v : Value} (h : w.cell? p = some v) : p.block < w.heap.size := World.block_lt_of_cell? w p h

/-- Its numbers, one by one. -/
theorem row_at {w : World} {a : Option Addr} {len cap : Nat} {zs : List Int} (h : IsRow .i64 w a len cap zs) :
    len ≤ maxLen ∧ ∀ j, j < len → ∃ blk off, a = some ⟨blk, off, none⟩ ∧ blk < w.heap.size ∧ w.cell? ⟨blk, off + j, none⟩ = some (.int .i64 (zs.getD j 0)) ∧ -9223372036854775808 ≤ zs.getD j 0 ∧ zs.getD j 0 ≤ 9223372036854775807 := by
  rcases h with ⟨rfl, rfl, rfl, rfl⟩ | ⟨x, rfl, hl, hm, hz, hc, hwf⟩
  · exact ⟨Nat.zero_le _, fun j hj => by omega⟩
  · refine ⟨Nat.le_trans hl hm, fun j hj => ?_⟩
    have h1 := hc j (by omega)
    obtain ⟨b, off, spot⟩ := x
    have h0 := hc 0 (by omega)
    have hs : spot = none := by simpa [Addr.add] using World.cell?_spot h0
    subst hs
    rw [Addr.add_lit] at h1
    have h2 : zs.getD j 0 ∈ zs := by
      rw [List.getD, List.getElem?_eq_getElem (by omega : j < zs.length)]
      exact List.getElem_mem _
    have h3 := bounds_i64 (hwf _ h2)
    exact ⟨b, off, rfl, cell_lt h1, h1, h3.1, h3.2⟩

/-- What the walk is told of a slice of calls that came in. -/
def OS (w : World) (a : Option Addr) (len cap : Nat) (l : List (Bool × Nat × Int)) : Prop :=
  len ≤ maxLen ∧ l.length = len ∧ ∀ j (hj : j < l.length), ∃ blk off, a = some ⟨blk, off, none⟩ ∧ blk < w.heap.size ∧ w.cell? ⟨blk, off + j * 3, none⟩ = some (.bool l[j].1) ∧
    w.cell? ⟨blk, off + j * 3 + 1, none⟩ = some (.int .u64 (l[j].2.1 : Int)) ∧ w.cell? ⟨blk, off + j * 3 + 2, none⟩ = some (.int .i64 l[j].2.2) ∧ l[j].2.1 < 18446744073709551616 ∧ -9223372036854775808 ≤ l[j].2.2 ∧ l[j].2.2 ≤ 9223372036854775807

theorem open_ops {H : Type} {enc : TypeId × Value → H} {W : World} {r : Reach} {b0 : Nat} {v : Value} {d : DataW H} {p : List MemPlace} (hv : Value.okWide Try.prog W r b0 22 v)
    (h : DataW.Trod enc Try.prog W 0 (fun _ => true) true 22 v d p) :
    ∃ (ao : Option Addr) (n cap : Nat) (l : List (Bool × Nat × Int)), v = .slice ao n cap ∧ OS W ao n cap l := by
  obtain ⟨a, len, cap, rfl⟩ := okWide_slice Try.underlying22 hv
  obtain ⟨fuel, hf⟩ := h
  rcases Deep.open_slice Try.underlying22 hf with ⟨e1, -⟩ | ⟨x, len', cap', m, n, D, Pl, e1, hb, hl, hm, hmm, -, hx⟩
  · simp [Value.cells] at e1
    obtain ⟨rfl, rfl, rfl⟩ := e1
    exact ⟨none, 0, 0, [], rfl, Nat.zero_le _, rfl, fun j hj => by simp at hj⟩
  · simp [Value.cells] at e1
    obtain ⟨rfl, rfl, rfl⟩ := e1
    have hlm : len ≤ m := by rw [hmm]; split <;> omega
    have each : ∀ i, i < len → ∃ q : Bool × Nat × Int, W.cell? (x.add (i * 3)) = some (.bool q.1) ∧ W.cell? (x.add (i * 3 + 1)) = some (.int .u64 (q.2.1 : Int)) ∧ W.cell? (x.add (i * 3 + 2)) = some (.int .i64 q.2.2) ∧
        q.2.1 < 18446744073709551616 ∧ -9223372036854775808 ≤ q.2.2 ∧ q.2.2 ≤ 9223372036854775807 := by
      intro i hi
      obtain ⟨cs', h1, h2⟩ := hx i (by omega)
      rw [show Try.prog.cellsOf 33 = 3 from by kernel_rfl] at h1
      obtain ⟨_, hlen, hcell⟩ := World.cells?_some h1
      obtain ⟨xs, k, hk, hxy, _, hxl, hff⟩ := DataW.trod_struct Try.underlying33 h2
      match xs, hxl, cs', hlen with
      | [y0, y1, y2], _, [v0, v1, v2], _ =>
        have g0 := hff 0 _ rfl
        have g1 := hff 1 _ rfl
        have g2 := hff 2 _ rfl
        have t0 : Try.prog.cellsOf 4 = 1 := by kernel_rfl
        have t1 : Try.prog.cellsOf 31 = 1 := by kernel_rfl
        have t2 : Try.prog.cellsOf 3 = 1 := by kernel_rfl
        simp [t0, t1, t2] at g0 g1 g2
        have e0 := hcell 0 (by omega)
        have e1 := hcell 1 (by omega)
        have e2 := hcell 2 (by omega)
        rw [Deep.add_add] at e0 e1 e2
        obtain ⟨z0, q0, -⟩ := DataW.trod_bool Try.underlying4 g0
        obtain ⟨z1, q1, -, b1⟩ := DataW.trod_int Try.underlying31 g1
        obtain ⟨z2, q2, -, b2⟩ := DataW.trod_int Try.underlying3 g2
        have b1' := bounds_u64 b1
        have b2' := bounds_i64 b2
        simp at q0 q1 q2
        subst q0 q1 q2
        obtain ⟨z, rfl⟩ : ∃ z : Nat, z1 = z := ⟨z1.toNat, by omega⟩
        exact ⟨(z0, z, z2), by simpa using e0, by simpa using e1, by simpa using e2, (by show z < _; omega), b2'.1, b2'.2⟩
    have key : ∀ k, k ≤ len → ∃ l : List (Bool × Nat × Int), l.length = k ∧ ∀ j (hj : j < l.length), W.cell? (x.add (j * 3)) = some (.bool l[j].1) ∧ W.cell? (x.add (j * 3 + 1)) = some (.int .u64 (l[j].2.1 : Int)) ∧ W.cell? (x.add (j * 3 + 2)) = some (.int .i64 l[j].2.2) ∧
        l[j].2.1 < 18446744073709551616 ∧ -9223372036854775808 ≤ l[j].2.2 ∧ l[j].2.2 ≤ 9223372036854775807 := by
      intro k
      induction k with
      | zero => exact fun _ => ⟨[], rfl, fun j hj => by simp at hj⟩
      | succ k ih =>
        intro hk
        obtain ⟨l, h1, h2⟩ := ih (by omega)
        obtain ⟨q, hq⟩ := each k (by omega)
        refine ⟨l ++ [q], by simp [h1], fun j hj => ?_⟩
        by_cases hjl : j < l.length
        · rw [List.getElem_append_left hjl]; exact h2 j hjl
        · have : j = k := by simp at hj; omega
          subst this
          rw [List.getElem_append_right (by omega)]
          simpa [h1] using hq
    obtain ⟨l, h1, h2⟩ := key len (Nat.le_refl _)
    refine ⟨some x, len, cap, l, rfl, Nat.le_trans hl hm, h1, fun j hj => ?_⟩
    obtain ⟨c0, c1, c2, hbn⟩ := h2 j hj
    obtain ⟨b, off, spot⟩ := x
    have h0 := (h2 0 (by omega)).1
    have hs : spot = none := by simpa [Addr.add] using World.cell?_spot h0
    subst hs
    rw [Addr.add_lit] at c0 c1 c2
    exact ⟨b, off, rfl, cell_lt c0, c0, by rw [← Nat.add_assoc] at c1; exact c1, by rw [← Nat.add_assoc] at c2; exact c2, hbn⟩

/-- What the example gives. -/
theorem shown_one : FM.Gets (fresh 8) 8 1 0 0 (FM.st (fresh 8) 0 1 true) := by
  refine .inr (.inr ⟨rfl, 1, rfl, ⟨0, by decide, rfl⟩, ⟨rfl, by decide, fun i hi => fresh_low 8 _ (by omega), fun f' h => by omega⟩, rfl⟩)
theorem shown_two : FM.Gets (FM.st (fresh 8) 0 1 true) 8 4 4 0 (FM.st (FM.st (fresh 8) 0 1 true) 4 4 true) := by
  refine .inr (.inr ⟨rfl, 4, rfl, ⟨2, by decide, rfl⟩, ⟨rfl, by decide, fun i hi => ?_, fun f' h1 h2 h3 => ?_⟩, rfl⟩)
  · rw [FM.st_out _ _ _ _ _ (by omega)]; exact fresh_low 8 _ (by omega)
  · obtain rfl : f' = 0 := by omega
    have h4 := FM.st_in (fresh 8) 0 1 true 0 (by decide)
    rw [h3 0 (by decide)] at h4
    cases h4
theorem shown_cnt : FM.cnt (FM.st (FM.st (fresh 8) 0 1 true) 4 4 true) 0 8 = 5 := by
  have h1 := FM.cnt_st (fresh 8) 8 0 1 true (by decide)
  have h2 := FM.cnt_st (FM.st (fresh 8) 0 1 true) 8 4 4 true (by decide)
  rw [fresh_cnt, (FM.cnt_zero _ _ _).2 (fun i hi => fresh_low 8 _ (by omega) : FM.All (fresh 8) 0 1 false), if_pos rfl] at h1
  rw [(FM.cnt_zero _ _ _).2 (fun i hi => by rw [FM.st_out _ _ _ _ _ (by omega)]; exact fresh_low 8 _ (by omega) : FM.All (FM.st (fresh 8) 0 1 true) 4 4 false), if_pos rfl] at h2
  omega

set_option maxHeartbeats 1000000 in
theorem shown_any (w : World) : Calls Try.prog 8 #[] w fun e w' => e = .returned (.bool true) ∧ Below w.heap.size w w' := by
  have hA := W_hid (fun g b w h => Alloc_any g b 8 (words 8) _ _ 1 0 0 w h shown_one)
  have hB := W_hid (fun g b w h => Alloc_any g b 8 (words 8) _ _ 4 4 0 w h shown_two)
  have hL := W_hid (fun g b w h => Left_any g b 8 (words 8) (FM.st (FM.st (fresh 8) 0 1 true) 4 4 true) w h)
  rw [shown_cnt] at hL
  go_enter Try.func8, Try.ntmps8
  go_wp2_with fail
  refine (New_yes 8 (by decide) (by decide) _).mono ?_
  rintro e w1 ⟨g, rfl, hg, hpl, bel⟩
  go_wp2_with fail
  refine (hA.out _ _ _ hpl).mono ?_
  rintro e w2 ⟨rfl, hpl2, two2⟩
  go_wp2_with fail
  refine (hB.out _ _ _ hpl2).mono ?_
  rintro e w3 ⟨rfl, hpl3, two3⟩
  have bel3 : Below w.heap.size w w3 := bel.trans ((two2.trans two3).below bel.size (by omega) (Nat.le_refl _))
  go_wp2_with fail
  refine (hL.out _ _ _ hpl3).mono ?_
  rintro e w4 ⟨rfl, rfl⟩
  go_wp2
  go_ret
  exact ⟨rfl, bel3⟩

set_option maxHeartbeats 1000000 in
theorem FrameNone_walk (a0 a1 : Int) (w : World) (w0 : (Lit.int .u64 a0).wf = true) (w1 : (Lit.int .i64 a1).wf = true) :
    Calls Try.prog 6 #[.int .u64 a0, .int .i64 a1] w fun e w' => e = .returned (.bool true) ∧ Below w.heap.size w w' := by
  clear w0 w1
  go_enter Try.func6, Try.ntmps6
  go_wp2_with fail
  refine (shown_any _).mono ?_
  rintro e w1 ⟨rfl, bel⟩
  go_wp2_with fail
  refine (Alloc_nil a1 _).mono ?_
  rintro e w2 ⟨rfl, rfl⟩
  go_wp2_with fail
  refine (Free_nil a0 a1 _).mono ?_
  rintro e w2 ⟨rfl, rfl⟩
  go_wp2_with fail
  refine (Taken_nil a0 _).mono ?_
  rintro e w2 ⟨rfl, rfl⟩
  go_wp2_with fail
  refine (Left_nil _).mono ?_
  rintro e w2 ⟨rfl, rfl⟩
  go_wp2
  go_ret
  exact ⟨rfl, bel⟩

set_option maxRecDepth 100000 in
theorem FrameNone_lifted (os : Os) (started : os.Started) (H : Type) (enc : TypeId × Value → H) :
    ReturnsInHanded {} Try.checked os 6 .any (Rows.frameNoneSpec.pre6 enc Try.prog Try.f6 Rows.frameNoneRow.domain false) (Rows.frameNoneSpec.post enc Try.prog Try.f6 false true false false) := by
  refine returnsInHanded_of_change (C := Try.checked) (by kernel_rfl) started (by kernel_rfl) Try.func6
    (ChangeSpec.witness6 (enc := enc) (C := Try.checked) false ⟨#[], #[.int .u64 0, .int .i64 0], []⟩ 8 (by kernel_rfl) (by kernel_rfl) (by kernel_rfl) (by kernel_rfl)) ?_
  intro W base args ds gs before hval0 hW hcnd _
  have hval : ∀ (j : Nat) t v, Try.f6.params[j]? = some t → args[j]? = some v → Value.okWide Try.prog W .any base t v := hval0
  have hW' := hW
  obtain ⟨p, q, hA0, hV, rfl, hfz, hnd⟩ := hW
  have hA : DataW.TrodAll enc Try.prog W 0 (fun _ => true) true Try.f6.params.toList args.toList ds p := hA0
  rw [Try.params6] at hA hval
  obtain ⟨v0, vs0, d0, ds0, p0, q0, hargs, rfl, rfl, h0, r0⟩ := trodAll_cons hA
  obtain ⟨v1, vs1, d1, ds1, p1, q1, rfl, rfl, rfl, h1, r1⟩ := trodAll_cons r0
  obtain ⟨rfl, rfl, rfl⟩ := trodAll_nil r1
  obtain rfl : args = #[v0, v1] := by cases args; simp_all
  obtain ⟨rfl, rfl⟩ := trodVars_none hV
  obtain ⟨a0, rfl, rfl, rfl, w0⟩ := open_int Try.underlying31 (hval 0 31 v0 rfl rfl) h0
  obtain ⟨a1, rfl, rfl, rfl, w1⟩ := open_int Try.underlying3 (hval 1 3 v1 rfl rfl) h1
  clear hA0 hval0
  refine (FrameNone_walk a0 a1 W w0 w1).mono fun e W' ⟨he, bel⟩ => ?_
  subst he
  exact ⟨_, rfl, _, _, _, [], _, [], hW', trodAll_mk1 (shut_bool Try.underlying4 _), (trodAll_cons_mk (shut_int Try.underlying31 w0) (trodAll_cons_mk (shut_int Try.underlying3 w1) trodAll_mk0)), rfl, bel.frame _, fun h => by cases h⟩

/-- The given statement of FrameNone. -/
theorem FrameNone_holds : Rows.FrameNoneSaid :=
  OpenClaim.holds_of_wide 6 Try.f6 rfl rfl rfl rfl rfl rfl rfl ⟨rfl, rfl, rfl, rfl, rfl⟩ rfl rfl rfl rfl rfl (by kernel_rfl) Try.func6 (by kernel_rfl)
    (of_decide_eq_true (by kernel_rfl)) (by unfold Func.isWrapper; first | (rw [if_pos (by decide +kernel)]; kernel_rfl) | (rw [if_neg (by decide +kernel)]; exact ⟨rfl, rfl⟩))
    (fun os started H enc _ => FrameNone_lifted os started H enc)

end Go.Proofs.Ytpmpmjebhdohcaa

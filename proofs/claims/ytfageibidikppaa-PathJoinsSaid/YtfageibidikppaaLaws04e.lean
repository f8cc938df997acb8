/- PathNorms (package haywardlaw04): for every input it returns true, and its arguments read as before. No further condition. -/
import Derived.Test.YtfageibidikppaaLaws04c
import Derived.Test.YtfageibidikppaaRefNorm
namespace Go.Proofs.Ytfageibidikppaa
open Go.ChangeShapes Go.WideShapes Go.ChangeAt Go.RowKit
open Go.ChangeMaps (open_string shut_string)
set_option linter.unusedVariables false
set_option linter.unusedSimpArgs false

/-- A call answers a path, in a row of its own. -/
def Answers (a : Bool) (l : List ByteArray) (d : Bool) (n : Int) (w : World) (e : Ending) (w' : World) : Prop := ∃ ao cap, e = .returned (.tuple #[.agg #[.bool a, .slice ao l.length cap, .bool d], .int .i64 n]) ∧
      w'.ownsRow w.heap.size 9 1 (.slice ao l.length cap) l.length (scl l) ∧ Below w.heap.size w w'
theorem answers_norm {a d : Bool} {l : List ByteArray} {w w' : World} {e : Ending} (h : Normed a l d w e w') : Answers (noA a l d) (noL a l d) (noD a l d) (shE a l d) w e w' := by
  obtain ⟨v, rfl, hown, bel⟩ := h
  obtain ⟨ao, cap, rfl⟩ := own_form hown
  exact ⟨ao, cap, rfl, hown, bel⟩

/-- A row that is written into: it has m cells, in a block between two others. -/
def Mine (wr : World) (lo hi : Nat) (ox : Option Addr) (m : Nat) : Prop := m = 0 ∨ ∃ g cur, ox = some ⟨g, 0, none⟩ ∧ lo ≤ g ∧ g < hi ∧ wr.heap[g]? = some (.cells cur 9 (0, 0)) ∧ m ≤ cur.size
theorem mine_own {w wr : World} {lo hi : Nat} {ox : Option Addr} {m cx : Nat} {xs : List Value} (h : w.ownsRow lo 9 1 (.slice ox m cx) m xs) (hh : w.heap.size ≤ hi) (hb : Below w.heap.size w wr) : Mine wr lo hi ox m := by
  rcases h.2 with ⟨h', rfl⟩ | ⟨g, cap, cur, h', hbg, hg, hnc, hcm, hcs, _⟩
  · left
    first | rfl | (simp only [Value.slice.injEq] at h'; exact h'.2.1)
  · right
    simp only [Value.slice.injEq, true_and] at h'
    obtain ⟨rfl, rfl⟩ := h'
    have hlt : g < w.heap.size := by
      rcases Nat.lt_or_ge g w.heap.size with hlt | hge
      · exact hlt
      · rw [Array.getElem?_eq_none hge] at hg; cases hg
    exact ⟨g, cur, rfl, hbg, by omega, (hb.block g hlt).trans hg, by omega⟩
theorem Mine.cell {wr : World} {lo hi : Nat} {ox : Option Addr} {m k : Nat} (h : Mine wr lo hi ox m) (hk : k < m) : ∃ g v, ox = some ⟨g, 0, none⟩ ∧ lo ≤ g ∧ g < hi ∧ wr.cell? ⟨g, k, none⟩ = some v ∧ (∀ i, wr.frozen? ⟨g, i, none⟩ = false) ∧ ∀ u, Mine (wr.setCell ⟨g, k, none⟩ u) lo hi ox m := by
  rcases h with h0 | ⟨g, cur, rfl, h1, h2, h3, h4⟩
  · omega
  · refine ⟨g, cur[k]'(by omega), rfl, h1, h2, ?_, fun i => ?_, fun u => .inr ⟨g, cur.setIfInBounds k u, rfl, h1, h2, ?_, by simpa using h4⟩⟩
    · rw [cell_of_row wr g k _ _ _ h3, Array.getElem?_eq_getElem (by omega)]
    · simp [World.frozen?, h3]
    · simp [World.setCell, Array.getElem?_modify, h3]

theorem Mine.below {w w' : World} {lo hi B : Nat} {ox : Option Addr} {m : Nat} (h : Mine w lo hi ox m) (hb : Below B w w') (hB : hi ≤ B) : Mine w' lo hi ox m := by
  rcases h with h0 | ⟨g, cur, rfl, h1, h2, h3, h4⟩
  · exact .inl h0
  · exact .inr ⟨g, cur, rfl, h1, h2, (hb.block g (by omega)).trans h3, h4⟩
theorem own_below {w w' : World} {base e n : Nat} {v : Value} {xs : List Value} (h : w.ownsRow base e 1 v n xs) (hb : Below w.heap.size w w') : w'.ownsRow base e 1 v n xs := by
  rcases h.2 with h0 | ⟨g, cap, cur, h1, h2, h3, h4⟩
  · exact ⟨h.1, .inl h0⟩
  · have hlt : g < w.heap.size := by
      rcases Nat.lt_or_ge g w.heap.size with hlt | hge
      · exact hlt
      · rw [Array.getElem?_eq_none hge] at h3; cases h3
    exact ⟨h.1, .inr ⟨g, cap, cur, h1, h2, (hb.block g hlt).trans h3, h4⟩⟩

set_option maxRecDepth 100000 in
set_option maxHeartbeats 2000000 in
theorem norms_of (a0 d0 A D : Bool) (o0 : Option Addr) (n0 c0 : Nat) (l0 L : List ByteArray) (E : Int) (w : World) (w0 : SS w o0 n0 c0 l0) (hL : L.length ≤ 1000000)
    (hN : ∀ w, SS w o0 n0 c0 l0 → Calls Try.prog 17 #[.agg #[.bool a0, .slice o0 n0 c0, .bool d0]] w (Answers A L D E w))
    (hR : ∀ w, SS w o0 n0 c0 l0 → Calls Try.prog 18 #[.agg #[.bool a0, .slice o0 n0 c0, .bool d0]] w (Answers A L D E w)) :
    Calls Try.prog 5 #[.agg #[.bool a0, .slice o0 n0 c0, .bool d0]] w fun e w' => e = .returned (.bool true) ∧ Below w.heap.size w w' := by
  replace hN := W_hid hN
  replace hR := W_hid hR
  have hE := W_hid (fun w x1 c1 x2 c2 h1 h2 => Same_any A D A D x1 x2 L.length c1 L.length c2 L L w h1 h2)
  rw [same_refl] at hE
  have bel : Below w.heap.size w (w.alloc (.cells #[.bool a0, .slice o0 n0 c0, .bool d0] 25)) := (Below.refl _ _).alloc (Nat.le_refl _) _
  have p1 := PB.new w a0 (.slice o0 n0 c0) d0 rfl
  go_enter Try.func5, Try.ntmps5
  go_wp2_with fail
  refine (shown_any _).mono ?_
  rintro e w1 ⟨rfl, bel1⟩
  replace p1 := p1.below bel1 p1.lt
  replace bel := bel.trans (bel1.mono bel.size)
  clear bel1
  have q0 := p1.c0
  have q1 := p1.c1
  have q2 := p1.c2
  go_wp2_with fail
  clear q0 q1 q2
  refine (hN.out _ (w0.below bel (Nat.le_refl _))).mono ?_
  rintro e w2 ⟨ao, cap, rfl, hown, bel2⟩
  have hlo := p1.lt
  have hbox := bel2.size
  replace p1 := (p1.below bel2 p1.lt).alloc (.cells #[.bool A, .slice ao L.length cap, .bool D] 25)
  replace bel := (bel.trans (bel2.mono bel.size)).alloc (bel.trans (bel2.mono bel.size)).size (.cells #[.bool A, .slice ao L.length cap, .bool D] 25)
  have p2 := PB.new w2 A (.slice ao L.length cap) D rfl
  have q0 := p1.c0
  have q1 := p1.c1
  have q2 := p1.c2
  go_wp2_with fail
  clear q0 q1 q2
  refine (hR.out _ (w0.below bel (Nat.le_refl _))).mono ?_
  rintro e w3 ⟨ao3, cap3, rfl, hown3, bel3⟩
  have hmine := mine_own (wr := w3.alloc (.cells #[.bool A, .slice ao3 L.length cap3, .bool D] 25)) (hi := w2.heap.size) hown (Nat.le_refl _) ((((Below.refl _ _).alloc (Nat.le_refl _) _).trans (bel3.mono (by simp))).alloc (by have := bel3.size; simp at this; omega) _)
  have s2 := ((SS_own hown).alloc (.cells #[.bool A, .slice ao L.length cap, .bool D] 25)).below bel3 (Nat.le_refl _) |>.alloc (.cells #[.bool A, .slice ao3 L.length cap3, .bool D] 25)
  replace p1 := (p1.below bel3 p1.lt).alloc (.cells #[.bool A, .slice ao3 L.length cap3, .bool D] 25)
  replace p2 := (p2.below bel3 p2.lt).alloc (.cells #[.bool A, .slice ao3 L.length cap3, .bool D] 25)
  have p3 := PB.new w3 A (.slice ao3 L.length cap3) D rfl
  have h3z : w2.heap.size + 1 ≤ w3.heap.size := by have := bel3.size; simp at this; omega
  replace bel := (bel.trans (bel3.mono bel.size)).alloc (bel.trans (bel3.mono bel.size)).size (.cells #[.bool A, .slice ao3 L.length cap3, .bool D] 25)
  replace hown3 := (own_base (base' := w2.heap.size + 1) (by simp) hown3).alloc (.cells #[.bool A, .slice ao3 L.length cap3, .bool D] 25)
  have s3 := SS_own hown3
  clear bel2 bel3 hown
  have q0 := p2.c0
  have q1 := p2.c1
  have q2 := p2.c2
  go_wp2_with fail
  clear q0 q1 q2
  refine (hE.out _ _ _ _ _ s2 s3).mono ?_
  rintro e w4 ⟨rfl, bel4⟩
  replace hmine := hmine.below bel4 (by simp; omega)
  replace p1 := p1.below bel4 p1.lt
  replace p2 := p2.below bel4 p2.lt
  replace p3 := p3.below bel4 p3.lt
  replace hown3 := own_below hown3 bel4
  replace bel := bel.trans (bel4.mono bel.size)
  clear bel4 s2 s3
  go_wp2_with fail
  go_loopw [9] (fun i wr => ∃ k : Nat, k ≤ L.length ∧ i = .int .i64 k ∧ Mine wr w1.heap.size w2.heap.size ao L.length ∧ PB wr w.heap.size a0 (.slice o0 n0 c0) d0 ∧ PB wr w2.heap.size A (.slice ao L.length cap) D ∧ PB wr w3.heap.size A (.slice ao3 L.length cap3) D ∧
    wr.ownsRow (w2.heap.size + 1) 9 1 (.slice ao3 L.length cap3) L.length (scl L) ∧ Below w.heap.size w wr) (fun i _ => L.length - (intOf i).toNat)
  case atStart => exact ⟨0, Nat.zero_le _, rfl, hmine, p1, p2, p3, hown3, bel⟩
  case round =>
    clear hmine p1 p2 p3 hown3 bel
    obtain ⟨k, hk, rfl, hmine, p1, p2, p3, hown3, bel⟩ := hrel
    have q0 := p2.c0
    have q1 := p2.c1
    have q2 := p2.c2
    by_cases hlt : k < L.length
    · obtain ⟨g, v, rfl, hg1, hg2, hcell, hfz, hset⟩ := hmine.cell hlt
      have hset := W_hid hset
      have p1' := p1.far (p := ⟨g, k, none⟩) (by simp; omega) (.string ⟨#[109, 105, 110, 101]⟩)
      have p2' := p2.far (p := ⟨g, k, none⟩) (by simp; omega) (.string ⟨#[109, 105, 110, 101]⟩)
      have p3' := p3.far (p := ⟨g, k, none⟩) (by simp; omega) (.string ⟨#[109, 105, 110, 101]⟩)
      have hown3' := own_set (p := ⟨g, k, none⟩) hown3 (by simp; omega) (.string ⟨#[109, 105, 110, 101]⟩)
      have bel' := bel.setCell (p := ⟨g, k, none⟩) (by simp; omega) (.string ⟨#[109, 105, 110, 101]⟩)
      clear hmine p1 p2 p3 hown3 bel
      go_wp2_with fail
      go_roundw
      case rel => exact ⟨k + 1, by omega, by go_num, hset.out _, p1', p2', p3', hown3', bel'⟩
      case measure => simp [intOf]; omega
    · obtain hkl : k = L.length := by omega
      subst hkl
      have z0 := p1.c0
      have z1 := p1.c1
      have z2 := p1.c2
      have s3 := SS_own hown3
      clear hown3 hmine
      go_wp2_with fail
      refine (hN.out _ (w0.below bel (Nat.le_refl _))).mono ?_
      rintro e w5 ⟨ao5, cap5, rfl, hown5, bel5⟩
      have s5 := (SS_own hown5).alloc (.cells #[.bool A, .slice ao5 L.length cap5, .bool D] 25)
      replace s3 := (s3.below bel5 (Nat.le_refl _)).alloc (.cells #[.bool A, .slice ao5 L.length cap5, .bool D] 25)
      replace p3 := (p3.below bel5 p3.lt).alloc (.cells #[.bool A, .slice ao5 L.length cap5, .bool D] 25)
      replace bel := (bel.trans (bel5.mono bel.size)).alloc (bel.trans (bel5.mono bel.size)).size (.cells #[.bool A, .slice ao5 L.length cap5, .bool D] 25)
      clear hown5 bel5 q0 q1 q2 z0 z1 z2 p1 p2
      have q0 := p3.c0
      have q1 := p3.c1
      have q2 := p3.c2
      go_wp2_with fail
      refine (hE.out _ _ _ _ _ s5 s3).mono ?_
      rintro e w6 ⟨rfl, bel6⟩
      replace bel := bel.trans (bel6.mono bel.size)
      go_wp2_with fail
      go_ret
      exact ⟨rfl, bel⟩

theorem noL_length (a d : Bool) (l : List ByteArray) : (noL a l d).length ≤ 1000000 := by
  unfold noL
  split
  · next h => have := PM.valid_count (PM.norm_valid h); omega
  · simp

theorem PathNorms_walk (a0 : Bool) (o0 : Option Addr) (n0 c0 : Nat) (l0 : List ByteArray) (d0 : Bool) (w : World) (w0 : SS w o0 n0 c0 l0) (s0 : Fit n0 l0) :
    Calls Try.prog 5 #[.agg #[.bool a0, .slice o0 n0 c0, .bool d0]] w fun e w' => e = .returned (.bool true) ∧ Below w.heap.size w w' :=
  norms_of a0 d0 (noA a0 l0 d0) (noD a0 l0 d0) o0 n0 c0 l0 (noL a0 l0 d0) (shE a0 l0 d0) w w0 (noL_length a0 d0 l0)
    (fun w hs => (Norm_any a0 d0 o0 n0 c0 l0 w hs s0).mono fun _ _ h => answers_norm h)
    (fun w hs => (rNorm_any a0 d0 o0 n0 c0 l0 w hs s0).mono fun _ _ h => answers_norm h)

set_option maxRecDepth 100000 in
theorem PathNorms_lifted (os : Os) (started : os.Started) (H : Type) (enc : TypeId × Value → H) :
    ReturnsInHanded {} Try.checked os 5 .any (Rows.pathNormsSpec.pre6 enc Try.prog Try.f5 Rows.pathNormsRow.domain false) (Rows.pathNormsSpec.post enc Try.prog Try.f5 false true false false) := by
  refine returnsInHanded_of_change_sized (C := Try.checked) (by kernel_rfl) started (by kernel_rfl) Try.func5
    (ChangeSpec.witness6 (enc := enc) (C := Try.checked) false ⟨#[], #[.agg #[.bool false, .slice none 0 0, .bool false]], []⟩ 8 (by kernel_rfl) (by kernel_rfl) (by kernel_rfl) (by kernel_rfl)) ?_
  intro W base args ds gs before hval0 hW hcnd hsz0 _
  have hsz : (DataW.weightsEach Try.prog (Try.f5.params.toList ++ Rows.pathNormsSpec.plain.varTypes Try.prog) (ds ++ gs)).all (· ≤ reachBytes) = true := hsz0
  clear hsz0
  have hval : ∀ (j : Nat) t v, Try.f5.params[j]? = some t → args[j]? = some v → Value.okWide Try.prog W .any base t v := hval0
  have hW' := hW
  obtain ⟨p, q, hA0, hV, rfl, hfz, hnd⟩ := hW
  have hA : DataW.TrodAll enc Try.prog W 0 (fun _ => true) true Try.f5.params.toList args.toList ds p := hA0
  rw [Try.params5] at hA hval hsz
  obtain ⟨v0, vs0, d0, ds0, p0, q0, hargs, rfl, rfl, h0, r0⟩ := trodAll_cons hA
  obtain ⟨rfl, rfl, rfl⟩ := trodAll_nil r0
  obtain rfl : args = #[v0] := by cases args; simp_all
  obtain ⟨rfl, rfl⟩ := trodVars_none hV
  have k0 := h0
  have lt0 : ∀ x ∈ p0, x.block < W.heap.size := by obtain ⟨m, hm⟩ := k0; exact DataW.trod_lt m _ _ _ hm
  obtain ⟨a0, o0, n0, c0, l0, d0, rfl, w0, g0, z0⟩ := open_path (hval 0 25 v0 rfl rfl) h0
  have s0 : Fit n0 l0 := fit_of w0 g0 z0 fun q hq => of_decide_eq_true (List.all_eq_true.1 hsz _ (DataW.weights_mem_each (j := 0) (t := 25) rfl rfl q hq))
  clear hA0 hval0
  refine (PathNorms_walk a0 o0 n0 c0 l0 d0 W w0 s0).mono fun e W' ⟨he, bel⟩ => ?_
  subst he
  exact ⟨_, rfl, _, _, _, [], _, [], hW', trodAll_mk1 (shut_bool Try.underlying4 _), (trodAll_cons_mk (Below.trod laidOut (by kernel_rfl) (of_decide_eq_true (by kernel_rfl)) k0 bel lt0) trodAll_mk0), rfl, bel.frame _, fun h => by cases h⟩

/-- The given statement of PathNorms. -/
theorem PathNorms_holds : Rows.PathNormsSaid :=
  OpenClaim.holds_of_wide 5 Try.f5 rfl rfl rfl rfl rfl rfl rfl ⟨rfl, rfl, rfl, rfl, rfl⟩ rfl rfl rfl rfl rfl (by kernel_rfl) Try.func5 (by kernel_rfl)
    (of_decide_eq_true (by kernel_rfl)) (by unfold Func.isWrapper; first | (rw [if_pos (by decide +kernel)]; kernel_rfl) | (rw [if_neg (by decide +kernel)]; exact ⟨rfl, rfl⟩))
    (fun os started H enc _ => PathNorms_lifted os started H enc)

end Go.Proofs.Ytfageibidikppaa

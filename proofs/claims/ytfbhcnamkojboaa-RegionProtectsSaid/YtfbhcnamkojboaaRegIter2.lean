/- The iterator parts over meeting. -/
import Derived.Test.YtfbhcnamkojboaaRegIter
namespace Go.Proofs.Ytfbhcnamkojboaa
open Go.ChangeShapes Go.WideShapes Go.ChangeAt Go.RowKit Go.Shelf
open SQ
set_option linter.unusedVariables false
set_option linter.unusedSimpArgs false
attribute [local go_sem] Oper.semAt_some
open RG (Rg)

/-- What parts' function has captured. -/
theorem parts_len (lo hi : Nat) (l : List Rg) : (RG.parts lo hi l).length = (RG.meeting lo hi l).length := by simp [RG.parts]
theorem parts_get (lo hi : Nat) (l : List Rg) (k : Nat) (x : Rg) (h : (RG.meeting lo hi l)[k]? = some x) : (RG.parts lo hi l)[k]? = some (RG.trim lo hi x) := by simp [RG.parts, h]
theorem enters_meet : ∀ args w, (callFunc 36 args).run Try.prog w = .ok (.enter 36 args) w :=
  enters_of Try.func36 (by kernel_rfl) rfl
theorem enters_parts : ∀ args w, (callFunc 40 args).run Try.prog w = .ok (.enter 40 args) w :=
  enters_of Try.func40 (by kernel_rfl) rfl
theorem Bx.new {q : Nat} {w : World} (hr : Rw q w) (t : TypeId) (v : Value) : Bx q (w.alloc (.cells #[v] t)) w.heap.size t v :=
  ⟨heap_alloc_new w _, by simp, by have := hr.box.lt; omega, fun e => by
    rw [rowOf_same (Below.heap_alloc w _ q hr.box.lt)] at e
    have := (hr.row _ e.symm).lt
    omega⟩
theorem Blk.own' {W W' : World} {row : Option Nat} {b : Nat} {t : TypeId} {l : List Value} (h : Blk W b t l) (hg : W.grownBy W' row) (hrow : ∀ r, row = some r → ∃ o : Obj, W.heap[r]? = some o ∧ o.isCells = false) : Blk W' b t l :=
  (hg.block b h.lt (fun e => by
    obtain ⟨o, ho, hc⟩ := hrow b e.symm
    rw [show W.heap[b]? = _ from h] at ho
    cases ho
    cases hc)).trans h
/-- Below B nothing is turned. -/
theorem Sn.own {q B : Nat} {W W' : World} {row : Option Nat} {k : Nat} (h : Sn q W k) (hr : Rw q W) (hg : W.grownBy W' row) (hk : k < B) (hrow : ∀ r, row = some r → B ≤ r ∧ r ≠ q ∧ some r ≠ rowOf W q) : Sn q W' k ∧ W'.heap[k]? = W.heap[k]? :=
  ⟨⟨Nat.lt_of_lt_of_le h.1 hg.size, h.2.1, by rw [(grownBy_row hr hg (fun r e => (hrow r e).2)).1]; exact h.2.2⟩, hg.block k h.1 (fun e => by have := (hrow k e.symm).1; omega)⟩
theorem Bx.own {q B : Nat} {W W' : World} {row : Option Nat} {b : Nat} {t : TypeId} {v : Value} (h : Bx q W b t v) (hr : Rw q W) (hg : W.grownBy W' row) (hb : b < B) (hrow : ∀ r, row = some r → B ≤ r ∧ r ≠ q ∧ some r ≠ rowOf W q) : Bx q W' b t v :=
  ⟨(Sn.own h.2 hr hg hb hrow).2.trans h.1, (Sn.own h.2 hr hg hb hrow).1⟩
theorem RS.of {w w' : World} {ao : Option Addr} {n cap : Nat} {l : List Rg} (h : RS w ao n cap l) (hs : ∀ a, ao = some a → 0 < n → w'.heap[a.block]? = w.heap[a.block]?) : RS w' ao n cap l :=
  ⟨h.1, h.2.1, h.2.2.1, h.2.2.2.1, fun a ha j u hu => by
    have hn : 0 < n := by
      have h1 := (List.getElem?_eq_some_iff.1 hu).1
      rw [rcl_length, h.1] at h1
      omega
    rw [World.cell?_of_block (w := w) (a := a.add j) (by rw [show (a.add j).block = a.block by unfold Addr.add; split <;> rfl]; exact hs a ha hn)]
    exact h.2.2.2.2 a ha j u hu⟩
theorem MA.own {q B : Nat} {ao : Option Addr} {n cap : Nat} {l : List Rg} {lo hi b1 b2 b3 : Nat} {W W' : World} {row : Option Nat} (h : MA q ao n cap l lo hi b1 b2 b3 W) (hr : Rw q W) (hg : W.grownBy W' row) (h1 : b1 < B) (h2 : b2 < B) (h3 : b3 < B) (ha : ∀ a, ao = some a → 0 < n → a.block < B)
    (hrow : ∀ r, row = some r → B ≤ r ∧ r ≠ q ∧ some r ≠ rowOf W q) : MA q ao n cap l lo hi b1 b2 b3 W' :=
  ⟨h.x1.own hr hg h1 hrow, h.x2.own hr hg h2 hrow, h.x3.own hr hg h3 hrow, h.rs.of (fun a e e' => (Sn.own (h.sn a e e') hr hg (ha a e e') hrow).2), fun a e e' => (Sn.own (h.sn a e e') hr hg (ha a e e') hrow).1⟩
theorem grown_set (V : World) (p : Addr) (v : Value) : V.grownBy (V.setCell p v) (some p.block) := ⟨rfl, rfl, rfl, by simp [World.setCell], fun k hk e => Below.heap_setCell V p v k (fun e' => e (by rw [e']))⟩
theorem Sn.new {q : Nat} {w : World} (hr : Rw q w) (o : Obj) : Sn q (w.alloc o) w.heap.size :=
  ⟨by simp, by have := hr.box.lt; omega, fun e => by
    rw [rowOf_same (Below.heap_alloc w _ q hr.box.lt)] at e
    have := (hr.row _ e.symm).lt
    omega⟩

set_option maxRecDepth 100000 in
set_option maxHeartbeats 4000000 in
theorem parts_gives (q : Nat) (ao : Option Addr) (n cap : Nat) (l : List Rg) (lo hi b1 b2 b3 : Nat) :
    Gives Try.prog 40 #[.pointer (some ⟨b1, 0, none⟩), .pointer (some ⟨b2, 0, none⟩), .pointer (some ⟨b3, 0, none⟩)] (fun r : Rg => #[ra r]) q (MA q ao n cap l lo hi b1 b2 b3) (RG.parts lo hi l) := by
  intro lp J Jx W hIt hJ hJx hRw hRx hY h0
  have hrw := hRw 0 W h0
  -- the box of yield
  obtain ⟨W1, hW1⟩ : ∃ W1, W.alloc (.cells #[.func (.yield lp) #[] #[]] 41) = W1 := ⟨_, rfl⟩
  have hk1 : Kp q W W1 := by rw [← hW1]; exact (Kp.refl q W).alloc hrw.box.lt _
  have hM1 := hIt.kp hk1
  have hy1 : Bx q W1 W.heap.size 41 (.func (.yield lp) #[] #[]) := by rw [← hW1]; exact Bx.new hrw _ _
  have hr1 : Rw q W1 := by rw [← hW1]; exact hrw.alloc _
  have hJ1 : J 0 W1 := by rw [← hW1]; exact hJ.alloc _ h0
  have hs1 : W1.heap.size = W.heap.size + 1 := by rw [← hW1]; simp
  -- the boxes of meeting
  have hX := hr1.alloc (.cells #[.slice ao n cap] 22)
  have hX2 := hX.alloc (.cells #[.int .u64 (lo : Int)] 23)
  obtain ⟨W2, hW2⟩ : ∃ W2, ((W1.alloc (.cells #[.slice ao n cap] 22)).alloc (.cells #[.int .u64 (lo : Int)] 23)).alloc (.cells #[.int .u64 (hi : Int)] 23) = W2 := ⟨_, rfl⟩
  have ka := (Kp.refl q W1).alloc hr1.box.lt (.cells #[.slice ao n cap] 22)
  have kb := (Kp.refl q _).alloc hX.box.lt (.cells #[.int .u64 (lo : Int)] 23)
  have kc := (Kp.refl q _).alloc hX2.box.lt (.cells #[.int .u64 (hi : Int)] 23)
  have hk2 : Kp q W1 W2 := by rw [← hW2]; exact (ka.then kb).then kc
  have hM2 : MA q ao n cap l lo hi W1.heap.size (W1.heap.size + 1) (W1.heap.size + 1 + 1) W2 := by
    have n1 := Bx.new hr1 22 (.slice ao n cap)
    have n2 := Bx.new hX 23 (.int .u64 (lo : Int))
    have n3 := Bx.new hX2 23 (.int .u64 (hi : Int))
    simp only [World.size_alloc] at n2 n3
    rw [← hW2]
    have hh := hM1.kp ((ka.then kb).then kc)
    exact ⟨(n1.kp kb).kp kc, n2.kp kc, n3, hh.rs, hh.sn⟩
  have hP2 : MA q ao n cap l lo hi b1 b2 b3 W2 := hM1.kp hk2
  have hy2 := hy1.kp hk2
  have hr2 : Rw q W2 := by rw [← hW2]; exact hX2.alloc _
  have hJ2 : J 0 W2 := by
    rw [← hW2]
    exact hJ.alloc _ (hJ.alloc _ (hJ.alloc _ hJ1))
  have hs2 : W2.heap.size = W.heap.size + 4 := by rw [← hW2]; simp; omega
  have hme := W_hid (meeting_any ao n cap lo hi W1)
  rw [hW2] at hme
  have y1 := hM1.x1.cell
  have y2 := hM1.x2.cell
  have y3 := hM1.x3.cell
  refine callsIn_of_wp_marks Try.func40 rfl trivial ?_ rfl
  simp only [Try.ntmps40, List.size_toArray, List.length_cons, List.length_nil, Nat.reduceAdd, Nat.reduceSub, Array.replicate_succ, Array.replicate_zero, List.push_toArray, List.append_toArray, List.nil_append, List.cons_append]
  gi_wp2
  refine ⟨trivial, rfl, ?_⟩
  refine (fit_wide hme.out).mono ?_
  rintro e w2 ⟨rfl, rfl⟩
  gi_wp2
  clear hme hW1 hW2 hM1 hIt y1 y2 y3 ka kb kc hX hX2
  rw [hs1] at hM2
  have hle : W.heap.size ≤ w2.heap.size := by omega
  have b1' := hP2.x1.1.lt
  have b2' := hP2.x2.1.lt
  have b3' := hP2.x3.1.lt
  have ba' := fun a e e' => (hP2.sn a e e').1
  have hget := W_hid (parts_get lo hi l)
  have hln := W_hid (parts_len lo hi l)
  refine range_gives (gf := 36) rfl enters_meet (meet_gives q ao n cap l lo hi _ _ _) hM2 (fun V V' _ hk h => h.kp hk) (fun _ => rfl)
    (fun k V => J k V ∧ MA q ao n cap l lo hi b1 b2 b3 V ∧ Bx q V W.heap.size 41 (.func (.yield lp) #[] #[]))
    (fun c k V => c = .ret ∧ Jx k V)
    (fun k V V' row h hg hr => ⟨hJ.later hle k V V' row h.1 hg hr, h.2.1.own (hRw k V h.1) hg b1' b2' b3' ba' hr, h.2.2.own (hRw k V h.1) hg (by omega) hr⟩)
    (fun c k V V' row h hg hr => ⟨h.1, hJx.later hle k V V' row h.2 hg hr⟩)
    (fun k V h => hRw k V h.1) (fun c k V h => hRx k V h.2) ⟨hJ2, hP2, hy2⟩
    (fun m x a' V => ∃ bx, m ≤ bx ∧ bx < V.heap.size ∧ RB V bx x ∧ Sn q V bx ∧ Rw q V ∧ a' = { tmps := #[.func (.yield lp) #[] #[], .pointer (some ⟨b1, 0, none⟩), .pointer (some ⟨b2, 0, none⟩), .pointer (some ⟨b3, 0, none⟩), .pointer (some ⟨W.heap.size, 0, none⟩), .pointer (some ⟨bx, 0, none⟩), .slice ao n cap, .int .u64 (lo : Int), .int .u64 (hi : Int), .func (.func 36) #[] #[.pointer (some ⟨W.heap.size + 1, 0, none⟩), .pointer (some ⟨W.heap.size + 1 + 1, 0, none⟩), .pointer (some ⟨W.heap.size + 1 + 1 + 1, 0, none⟩)], ra x, undef, undef, undef, undef, undef, undef, undef, undef, undef, undef, undef, undef, undef, undef, undef, undef], defers := [] })
    (fun m x a' _ V V' row h hg hr => by
      obtain ⟨bx, h1, h2, h3, h4, h6, h5⟩ := h
      have hfar : ∀ r, row = some r → r ≠ q ∧ some r ≠ rowOf V q := fun r e => by
        obtain ⟨_, o, ho, hc⟩ := hr r e
        exact h6.far ho hc
      obtain ⟨g1, g2⟩ := grownBy_row h6 hg hfar
      exact ⟨bx, h1, Nat.lt_of_lt_of_le h2 hg.size, Blk.own' h3 hg (fun r e => (hr r e).2), ⟨Nat.lt_of_lt_of_le h2 hg.size, h4.2.1, by rw [g1]; exact h4.2.2⟩, g2, h5⟩)
    ?assign ?body ?done ?stop
  case assign =>
    rintro lq k ⟨f, t, p, s⟩ V K hsz ⟨hJk, hP, hy⟩ hK
    have hq := (hRw k V hJk).box.lt
    have hkp := (Kp.refl q V).alloc hq (.cells #[.int .u64 (f : Int), .int .u64 (t : Int), .int .i64 p, .int .i64 s] 25)
    have hKn := hK _ _ hkp ⟨hJ.alloc _ hJk, hP.kp hkp, hy.kp hkp⟩ ⟨V.heap.size, Nat.le_refl _, by simp, Blk.new _ _ _ rfl, (Sn.new (hRw k V hJk) _), (hRw k V hJk).alloc _, rfl⟩
    simp only [ra] at hKn ⊢
    gi_wp2
    exact hKn
  case body =>
    rintro lq k ⟨f, t, p, s⟩ a' m V hx hm hmV ⟨hJk, hP, hy⟩ ⟨bx, hbx, hbl, hB, hsn, hrv, rfl⟩
    have hqb : q ≠ bx := fun e => hsn.2.1 e.symm
    simp only [ra]
    obtain ⟨u0, u1, u2, u3⟩ := hB.re
    have z2 := hP.x2.cell
    have z3 := hP.x3.cell
    have z4 := hy.cell
    have hf := fun i => hB.fz i
    have hf0 := hf 0
    have hf1 := hf 1
    have hx2 := hget.out k _ hx
    simp only [RG.trim] at hx2
    have hC := W_hid (fun w => common_any f t lo hi w)
    obtain ⟨A, hA⟩ : ∃ A, max f lo = A := ⟨_, rfl⟩
    obtain ⟨B, hB'⟩ : ∃ B, min t hi = B := ⟨_, rfl⟩
    rw [hA, hB'] at hC hx2
    have hB2 : RB ((V.setCell ⟨bx, 0, none⟩ (.int .u64 (A : Int))).setCell ⟨bx, 1, none⟩ (.int .u64 (B : Int))) bx ⟨A, B, p, s⟩ := (hB.set 0 _).set 1 _
    have hkq : Kq m q V ((V.setCell ⟨bx, 0, none⟩ (.int .u64 (A : Int))).setCell ⟨bx, 1, none⟩ (.int .u64 (B : Int))) := ((Kq.refl q hmV).set hbx hqb _).set hbx hqb _
    have hro : rowOf (V.setCell ⟨bx, 0, none⟩ (.int .u64 (A : Int))) q = rowOf V q := rowOf_same (Below.heap_setCell V ⟨bx, 0, none⟩ _ q hqb)
    have hf1' : bx ≠ q ∧ some bx ≠ rowOf V q := ⟨hsn.2.1, hsn.2.2⟩
    have hf2' : bx ≠ q ∧ some bx ≠ rowOf (V.setCell ⟨bx, 0, none⟩ (.int .u64 (A : Int))) q := by rw [hro]; exact hf1'
    have hJk2 : J k ((V.setCell ⟨bx, 0, none⟩ (.int .u64 (A : Int))).setCell ⟨bx, 1, none⟩ (.int .u64 (B : Int))) := hJ.set _ (hJ.set _ hJk (by show _ ≤ bx; omega) hf1') (by show _ ≤ bx; omega) hf2'
    have hrv1 : Rw q (V.setCell ⟨bx, 0, none⟩ (.int .u64 (A : Int))) := (grownBy_row hrv (grown_set _ _ _) (fun r e => by cases e; exact hf1')).2
    have hset : ∀ (V : World) (j : Nat) (v : Value), Rw q V → bx ≠ q ∧ some bx ≠ rowOf V q → MA q ao n cap l lo hi b1 b2 b3 V ∧ Bx q V W.heap.size 41 (.func (.yield lp) #[] #[]) → MA q ao n cap l lo hi b1 b2 b3 (V.setCell ⟨bx, j, none⟩ v) ∧ Bx q (V.setCell ⟨bx, j, none⟩ v) W.heap.size 41 (.func (.yield lp) #[] #[]) :=
      fun V j v hr hf h => ⟨h.1.own hr (grown_set _ _ _) b1' b2' b3' ba' (fun r e => by cases e; exact ⟨by show _ ≤ bx; omega, hf⟩), h.2.own (B := w2.heap.size) hr (grown_set _ _ _) (by omega) (fun r e => by cases e; exact ⟨by show _ ≤ bx; omega, hf⟩)⟩
    have hPy := W_hid (hset _ 1 (.int .u64 (B : Int)) hrv1 hf2' (hset V 0 (.int .u64 (A : Int)) hrv hf1' ⟨hP, hy⟩))
    have hz4 := hPy.out.2.cell
    obtain ⟨v0, v1, v2, v3⟩ := hB2.re
    obtain ⟨fn, tmps, assign, body, hyy, hR⟩ := hY _ _ _ hx2 hJk2
    simp only [ra] at hyy
    gi_wp2
    refine ⟨trivial, rfl, ?_⟩
    refine (CallsIn.inRound lq (fit_wide (hC.out _))).mono ?_
    rintro e w3 ⟨rfl, rfl⟩
    gi_wp2
    refine ⟨rfl, ?_⟩
    have hR' : RoundIn (Fence.wide.inRound lq) 0 Try.prog lp fn tmps assign body ((V.setCell ⟨bx, 0, none⟩ (.int .u64 (A : Int))).setCell ⟨bx, 1, none⟩ (.int .u64 (B : Int))) _ := hR
    refine hR'.mono ?_
    rintro e W3 (⟨rfl, hJ3, hk3⟩ | ⟨rfl, hJx3, hkf⟩)
    · have hfin : Kq m q V W3 ∧ J (k + 1) W3 ∧ MA q ao n cap l lo hi b1 b2 b3 W3 ∧ Bx q W3 W.heap.size 41 (.func (.yield lp) #[] #[]) := ⟨hkq.then hk3, hJ3, hPy.out.1.kp hk3, hPy.out.2.kp hk3⟩
      clear hR hR' hC hset
      gi_wp2
      exact hfin
    · have hfin : KeepsFrom w2.heap.size V W3 := (((KeepsOthers.setCell _ _ _).trans (KeepsOthers.setCell _ _ _)).from _).trans ⟨hkf.size, fun i o hi => hkf.same i o (by omega)⟩
      clear hR hR' hC hset
      gi_wp2
      exact ⟨hfin, rfl, hJx3⟩
  case done =>
    rintro D V hD ⟨hJk, -, -⟩ - hK
    have hfin : J (RG.parts lo hi l).length (V.putObj D (.deferred none)) := by
      rw [hln.out]
      exact hJ.putObj _ hJk (by omega) ((hRw _ _ hJk).far hK rfl)
    gi_wp2
    refine ⟨by simp, .inl ⟨_, _, rfl, run_takeDeferred hK, ?_⟩⟩
    exact ⟨_, results_none rfl _ _ _, ⟨_, rfl⟩, .inl hfin⟩
  case stop =>
    rintro D c k V hD hlt ⟨rfl, hJxk⟩ hK
    have hfin : Jx k (V.putObj D (.deferred none)) := hJx.putObj _ hJxk (by omega) ((hRx _ _ hJxk).far hK rfl)
    have hlt' : k < (RG.parts lo hi l).length := by rw [hln.out]; exact hlt
    gi_wp2
    refine ⟨by simp, .inl ⟨_, _, rfl, run_takeDeferred hK, ?_⟩⟩
    exact ⟨_, results_none rfl _ _ _, ⟨_, rfl⟩, .inr ⟨k, hlt', hfin⟩⟩
end Go.Proofs.Ytfbhcnamkojboaa

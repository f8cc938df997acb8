/- The program's own Add, Cut, At. -/
import Derived.Test.YtkomahekdcaiaaaGreatDoorZS03
import Derived.Test.YtkomahekdcaiaaaGreatDoorZS02
import Derived.Defers
import Derived.Deep.RegionHeld3
import Derived.OrdersIn
import Derived.Test.YtkomahekdcaiaaaGreatDoorZS01
import Derived.OrdersHeld
import Derived.WalkKit
import Derived.ProofKit
import Derived.RangeFuncLeaves
import Derived.Maps.OwnIn

/- The two iterators over regions: meeting, and parts over it. -/
namespace Go.Proofs.YtkomahekdcaiaaaGreatDoor
open Go.ChangeShapes Go.WideShapes Go.ChangeAt Go.RowKit Go.Shelf
open SQ
set_option linter.unusedVariables false
set_option linter.unusedSimpArgs false
attribute [local go_sem] Oper.semAt_some
open RG (Rg)

theorem fit_wide {f : FuncId} {args : Array Value} {w : World} {R : Ending → World → Prop} (h : Calls Tryz.prog f args w R) : CallsIn Fence.wide 0 Tryz.prog f args w R := callsIn_wide.2 h
theorem wide_fit {f : FuncId} {args : Array Value} {w : World} {R : Ending → World → Prop} (h : CallsIn Fence.wide 0 Tryz.prog f args w R) : Calls Tryz.prog f args w R := callsIn_wide.1 h

theorem RS.kp {q : Nat} {w w' : World} {ao : Option Addr} {n cap : Nat} {l : List Rg} (h : RS w ao n cap l) (hs : ∀ a, ao = some a → 0 < n → Sn q w a.block) (hk : Kp q w w') : RS w' ao n cap l ∧ ∀ a, ao = some a → 0 < n → Sn q w' a.block := by
  refine ⟨⟨h.1, h.2.1, h.2.2.1, h.2.2.2.1, fun a ha j u hu => ?_⟩, fun a ha hn => ((hs a ha hn).kp hk).1⟩
  have hn : 0 < n := by
    have h1 := (List.getElem?_eq_some_iff.1 hu).1
    rw [rcl_length, h.1] at h1
    omega
  rw [World.cell?_of_block (w := w) (a := a.add j) (by rw [show (a.add j).block = a.block by unfold Addr.add; split <;> rfl]; exact ((hs a ha hn).kp hk).2)]
  exact h.2.2.2.2 a ha j u hu
/-- A box that is neither cell q nor its row. -/
def Bx (q : Nat) (w : World) (b : Nat) (t : TypeId) (v : Value) : Prop := Blk w b t [v] ∧ Sn q w b
theorem Bx.kp {q : Nat} {w w' : World} {b : Nat} {t : TypeId} {v : Value} (h : Bx q w b t v) (hk : Kp q w w') : Bx q w' b t v := ⟨(h.2.kp hk).2.trans h.1, (h.2.kp hk).1⟩
theorem Bx.cell {q : Nat} {w : World} {b : Nat} {t : TypeId} {v : Value} (h : Bx q w b t v) : w.cell? ⟨b, 0, none⟩ = some v := h.1.cell (j := 0) rfl

/-- What meeting's function has captured. -/
structure MA (q : Nat) (ao : Option Addr) (n cap : Nat) (l : List Rg) (lo hi b1 b2 b3 : Nat) (w : World) : Prop where
  x1 : Bx q w b1 41 (.slice ao n cap)
  x2 : Bx q w b2 36 (.int .u64 (lo : Int))
  x3 : Bx q w b3 36 (.int .u64 (hi : Int))
  rs : RS w ao n cap l
  sn : ∀ a, ao = some a → 0 < n → Sn q w a.block
theorem MA.kp {q : Nat} {ao : Option Addr} {n cap : Nat} {l : List Rg} {lo hi b1 b2 b3 : Nat} {w w' : World} (h : MA q ao n cap l lo hi b1 b2 b3 w) (hk : Kp q w w') : MA q ao n cap l lo hi b1 b2 b3 w' :=
  ⟨h.x1.kp hk, h.x2.kp hk, h.x3.kp hk, (h.rs.kp h.sn hk).1, (h.rs.kp h.sn hk).2⟩

theorem meeting_snoc (lo hi : Nat) (l : List Rg) (k : Nat) (hk : k < l.length) : RG.meeting lo hi (l.take (k + 1)) = RG.meeting lo hi (l.take k) ++ if RG.meets lo hi l[k] then [l[k]] else [] := by
  rw [List.take_succ_eq_append_getElem hk]
  unfold RG.meeting
  rw [List.filter_append]
  by_cases h : RG.meets lo hi l[k] <;> simp [List.filter_cons, h]
theorem meeting_at (lo hi : Nat) (l : List Rg) (k : Nat) (hk : k < l.length) (h : RG.meets lo hi l[k]) : (RG.meeting lo hi l)[(RG.meeting lo hi (l.take k)).length]? = some l[k] := by
  have e : RG.meeting lo hi l = RG.meeting lo hi (l.take k) ++ RG.meeting lo hi (l.drop k) := by
    unfold RG.meeting
    rw [← List.filter_append, List.take_append_drop]
  rw [e, List.getElem?_append_right (Nat.le_refl _), Nat.sub_self, List.drop_eq_getElem_cons hk, RG.meeting_cons, if_pos h]
  rfl

set_option maxRecDepth 100000 in
set_option maxHeartbeats 1000000 in
theorem meeting_any (ao : Option Addr) (n cap lo hi : Nat) (w : World) :
    Calls Tryz.prog 91 #[.slice ao n cap, .int .u64 (lo : Int), .int .u64 (hi : Int)] w fun e w' => e = .returned (.func (.func 135) #[] #[.pointer (some ⟨w.heap.size, 0, none⟩), .pointer (some ⟨w.heap.size + 1, 0, none⟩), .pointer (some ⟨w.heap.size + 1 + 1, 0, none⟩)]) ∧
      w' = ((w.alloc (.cells #[.slice ao n cap] 41)).alloc (.cells #[.int .u64 (lo : Int)] 36)).alloc (.cells #[.int .u64 (hi : Int)] 36) := by
  go_enter Tryz.func91, Tryz.ntmps91
  go_wp2
  go_ret
  exact ⟨rfl, rfl⟩
set_option maxRecDepth 100000 in
set_option maxHeartbeats 1000000 in
theorem parts_any (ao : Option Addr) (n cap lo hi : Nat) (w : World) :
    Calls Tryz.prog 102 #[.slice ao n cap, .int .u64 (lo : Int), .int .u64 (hi : Int)] w fun e w' => e = .returned (.func (.func 139) #[] #[.pointer (some ⟨w.heap.size, 0, none⟩), .pointer (some ⟨w.heap.size + 1, 0, none⟩), .pointer (some ⟨w.heap.size + 1 + 1, 0, none⟩)]) ∧
      w' = ((w.alloc (.cells #[.slice ao n cap] 41)).alloc (.cells #[.int .u64 (lo : Int)] 36)).alloc (.cells #[.int .u64 (hi : Int)] 36) := by
  go_enter Tryz.func102, Tryz.ntmps102
  go_wp2
  go_ret
  exact ⟨rfl, rfl⟩

set_option maxRecDepth 100000 in
set_option maxHeartbeats 4000000 in
theorem meet_gives (q : Nat) (ao : Option Addr) (n cap : Nat) (l : List Rg) (lo hi b1 b2 b3 : Nat) :
    Gives Tryz.prog 135 #[.pointer (some ⟨b1, 0, none⟩), .pointer (some ⟨b2, 0, none⟩), .pointer (some ⟨b3, 0, none⟩)] (fun r : Rg => #[ra r]) q (MA q ao n cap l lo hi b1 b2 b3) (RG.meeting lo hi l) := by
  intro lp J Jx W hIt hJ hJx hRw hRx hY h0
  have hn : n ≤ 9223372036854775807 := by have := hIt.rs.2.1; have := hIt.rs.2.2.1; unfold maxLen at *; omega
  have L := W_hid hIt.rs.1
  have hS := W_hid (meeting_snoc lo hi l)
  have hT := W_hid (meeting_at lo hi l)
  have hI := W_hid hIt
  have y1 := hIt.x1.cell
  clear hIt
  refine callsIn_of_wp Tryz.func135 rfl trivial ?_ rfl
  simp only [Tryz.ntmps135, List.size_toArray, List.length_cons, List.length_nil, Nat.reduceAdd, Nat.reduceSub, Array.replicate_succ, Array.replicate_zero, List.push_toArray, List.append_toArray, List.nil_append, List.cons_append]
  gi_wp2
  gi_loopw [11] (fun i wr => ∃ k : Nat, k ≤ n ∧ i = .int .i64 k ∧ W.heap.size ≤ wr.heap.size ∧ Hid (MA q ao n cap l lo hi b1 b2 b3 wr) ∧ J (RG.meeting lo hi (l.take k)).length wr)
    (fun i _ => n - (intOf i).toNat)
  case atStart => exact ⟨0, Nat.zero_le _, rfl, Nat.le_refl _, hI, h0⟩
  case round =>
    obtain ⟨k, hk, rfl, hsz, hM, hJs⟩ := hrel
    by_cases hlt : k < n
    · have k1 : k < l.length := by rw [L.out]; exact hlt
      obtain ⟨bb, oo, rfl, hb1, g1⟩ := hM.out.rs.at_ (by omega)
      obtain ⟨e1, e2, e3, e4⟩ := g1 k hlt
      have hnx := W_hid (hS.out k k1)
      have hat := W_hid (hT.out k k1)
      obtain ⟨⟨f, t, p, s⟩, hx⟩ : ∃ x, l[k] = x := ⟨_, rfl⟩
      simp only [hx] at e1 e2 e3 e4 hnx hat
      have hq := (hRw _ _ hJs).box.lt
      have hkp : Kp q wr (wr.alloc (.cells #[.int .u64 (f : Int), .int .u64 (t : Int), .int .i64 p, .int .i64 s] 55)) := (Kp.refl q wr).alloc hq _
      have hM2 := W_hid (hM.out.kp hkp)
      have hJ2 : J (RG.meeting lo hi (l.take k)).length (wr.alloc (.cells #[.int .u64 (f : Int), .int .u64 (t : Int), .int .i64 p, .int .i64 s] 55)) := hJ.alloc _ hJs
      have z2 := hM2.out.x2.cell
      have z3 := hM2.out.x3.cell
      have hr0 : RB (wr.alloc (.cells #[.int .u64 (f : Int), .int .u64 (t : Int), .int .i64 p, .int .i64 s] 55)) wr.heap.size ⟨f, t, p, s⟩ := Blk.new _ _ _ rfl
      obtain ⟨u0, u1, u2, u3⟩ := hr0.re
      have hC := W_hid (fun w => common_any f t lo hi w)
      by_cases hm : RG.meets lo hi ⟨f, t, p, s⟩
      · have hx2 := hat.out hm
        rw [if_pos hm] at hnx
        have hlen : Hid ((RG.meeting lo hi (l.take (k + 1))).length = (RG.meeting lo hi (l.take k)).length + 1) := by show _ = _; rw [hnx.out]; simp
        have hlt2 := W_hid (List.getElem?_eq_some_iff.1 hx2).1
        obtain ⟨fn, tmps, assign, body, hy, hR⟩ := hY _ _ _ hx2 hJ2
        simp only [ra] at hy
        obtain ⟨A, hA⟩ : ∃ A, max f lo = A := ⟨_, rfl⟩
        obtain ⟨B, hB⟩ : ∃ B, min t hi = B := ⟨_, rfl⟩
        have hAB : A < B := by unfold RG.meets at hm; simp only at hm; rw [hA, hB] at hm; exact hm
        rw [hA, hB] at hC
        clear hx hat hnx hx2 hm hA hB g1 hr0
        gi_wp2
        refine ⟨trivial, rfl, ?_⟩
        refine (fit_wide (hC.out _)).mono ?_
        rintro e w2 ⟨rfl, rfl⟩
        gi_wp2
        refine ⟨rfl, ?_⟩
        refine hR.mono ?_
        rintro e W3 (⟨rfl, hJ3, hk3⟩ | ⟨rfl, hJx3, -⟩)
        · have hM3 := W_hid (hM2.out.kp hk3)
          have hs3 := hk3.size
          rw [World.size_alloc] at hs3
          rw [← hlen.out] at hJ3
          clear hk3 hR hC
          gi_wp2
          go_roundw
          case rel => exact ⟨k + 1, by omega, by go_num, by omega, hM3, hJ3⟩
          case measure => simp [intOf]; omega
        · have hc : (RG.meeting lo hi (l.take k)).length < (RG.meeting lo hi l).length := hlt2.out
          clear hR hC
          gi_wp2
          refine bodyPost_ret (results_none rfl _ _ _) rfl ?_
          exact ⟨⟨_, rfl⟩, .inr ⟨_, hc, hJx3⟩⟩
      · have hlen : Hid ((RG.meeting lo hi (l.take (k + 1))).length = (RG.meeting lo hi (l.take k)).length) := by show _ = _; rw [hnx.out, if_neg hm]; simp
        obtain ⟨A, hA⟩ : ∃ A, max f lo = A := ⟨_, rfl⟩
        obtain ⟨B, hB⟩ : ∃ B, min t hi = B := ⟨_, rfl⟩
        have hAB : decide (A < B) = false := by apply decide_eq_false; unfold RG.meets at hm; simp only at hm; rw [hA, hB] at hm; exact hm
        rw [hA, hB] at hC
        clear hx hat hnx hm hA hB g1 hr0
        gi_wp2
        refine ⟨trivial, rfl, ?_⟩
        refine (fit_wide (hC.out _)).mono ?_
        rintro e w2 ⟨rfl, rfl⟩
        gi_wp2
        refine ⟨fun _ h => (by cases h), ?_⟩
        rw [← hlen.out] at hJ2
        gi_wp2
        go_roundw
        case rel => exact ⟨k + 1, by omega, by go_num, by rw [World.size_alloc]; omega, hM2, hJ2⟩
        case measure => simp [intOf]; omega
    · obtain rfl : k = n := by omega
      have hl : l.take k = l := List.take_of_length_le (by rw [L.out]; exact Nat.le_refl _)
      rw [hl] at hJs
      gi_wp2
      go_end0
      exact ⟨⟨_, rfl⟩, .inl hJs⟩
end Go.Proofs.YtkomahekdcaiaaaGreatDoor

/- The iterator parts over meeting. -/
namespace Go.Proofs.YtkomahekdcaiaaaGreatDoor
open Go.ChangeShapes Go.WideShapes Go.ChangeAt Go.RowKit Go.Shelf
open SQ
set_option linter.unusedVariables false
set_option linter.unusedSimpArgs false
attribute [local go_sem] Oper.semAt_some
open RG (Rg)

/-- What parts' function has captured. -/
theorem parts_len (lo hi : Nat) (l : List Rg) : (RG.parts lo hi l).length = (RG.meeting lo hi l).length := by simp [RG.parts]
theorem parts_get (lo hi : Nat) (l : List Rg) (k : Nat) (x : Rg) (h : (RG.meeting lo hi l)[k]? = some x) : (RG.parts lo hi l)[k]? = some (RG.trim lo hi x) := by simp [RG.parts, h]
theorem enters_meet : ∀ args w, (callFunc 135 args).run Tryz.prog w = .ok (.enter 135 args) w :=
  enters_of Tryz.func135 (by kernel_rfl) rfl
theorem enters_parts : ∀ args w, (callFunc 139 args).run Tryz.prog w = .ok (.enter 139 args) w :=
  enters_of Tryz.func139 (by kernel_rfl) rfl
theorem Bx.new {q : Nat} {w : World} (hr : Rw q w) (t : TypeId) (v : Value) : Bx q (w.alloc (.cells #[v] t)) w.heap.size t v :=
  ⟨heap_alloc_new w _, by simp, by have := hr.box.lt; omega, fun e => by
    rw [rowOf_same (Below.heap_alloc w _ q hr.box.lt)] at e
    have := (hr.row _ e.symm).lt
    omega⟩
theorem Blk.own' {W W' : World} {row : Option Nat} {b : Nat} {t : TypeId} {l : List Value} (h : Blk W b t l) (hg : W.grownBy W' row) (hrow : ∀ r, row = some r → ∃ o : Obj, W.heap[r]? = some o ∧ o.isCells = false) : Blk W' b t l :=
  (hg.block b h.lt (fun e => by
    obtain ⟨o, ho, hc⟩ := hrow b e.symm
    rw [show W.heap[b]? = _ from h] at ho
    cases ho
    cases hc)).trans h
/-- Below B nothing is turned. -/
theorem Sn.own {q B : Nat} {W W' : World} {row : Option Nat} {k : Nat} (h : Sn q W k) (hr : Rw q W) (hg : W.grownBy W' row) (hk : k < B) (hrow : ∀ r, row = some r → B ≤ r ∧ r ≠ q ∧ some r ≠ rowOf W q) : Sn q W' k ∧ W'.heap[k]? = W.heap[k]? :=
  ⟨⟨Nat.lt_of_lt_of_le h.1 hg.size, h.2.1, by rw [(grownBy_row hr hg (fun r e => (hrow r e).2)).1]; exact h.2.2⟩, hg.block k h.1 (fun e => by have := (hrow k e.symm).1; omega)⟩
theorem Bx.own {q B : Nat} {W W' : World} {row : Option Nat} {b : Nat} {t : TypeId} {v : Value} (h : Bx q W b t v) (hr : Rw q W) (hg : W.grownBy W' row) (hb : b < B) (hrow : ∀ r, row = some r → B ≤ r ∧ r ≠ q ∧ some r ≠ rowOf W q) : Bx q W' b t v :=
  ⟨(Sn.own h.2 hr hg hb hrow).2.trans h.1, (Sn.own h.2 hr hg hb hrow).1⟩
theorem RS.of {w w' : World} {ao : Option Addr} {n cap : Nat} {l : List Rg} (h : RS w ao n cap l) (hs : ∀ a, ao = some a → 0 < n → w'.heap[a.block]? = w.heap[a.block]?) : RS w' ao n cap l :=
  ⟨h.1, h.2.1, h.2.2.1, h.2.2.2.1, fun a ha j u hu => by
    have hn : 0 < n := by
      have h1 := (List.getElem?_eq_some_iff.1 hu).1
      rw [rcl_length, h.1] at h1
      omega
    rw [World.cell?_of_block (w := w) (a := a.add j) (by rw [show (a.add j).block = a.block by unfold Addr.add; split <;> rfl]; exact hs a ha hn)]
    exact h.2.2.2.2 a ha j u hu⟩
theorem MA.own {q B : Nat} {ao : Option Addr} {n cap : Nat} {l : List Rg} {lo hi b1 b2 b3 : Nat} {W W' : World} {row : Option Nat} (h : MA q ao n cap l lo hi b1 b2 b3 W) (hr : Rw q W) (hg : W.grownBy W' row) (h1 : b1 < B) (h2 : b2 < B) (h3 : b3 < B) (ha : ∀ a, ao = some a → 0 < n → a.block < B)
    (hrow : ∀ r, row = some r → B ≤ r ∧ r ≠ q ∧ some r ≠ rowOf W q) : MA q ao n cap l lo hi b1 b2 b3 W' :=
  ⟨h.x1.own hr hg h1 hrow, h.x2.own hr hg h2 hrow, h.x3.own hr hg h3 hrow, h.rs.of (fun a e e' => (Sn.own (h.sn a e e') hr hg (ha a e e') hrow).2), fun a e e' => (Sn.own (h.sn a e e') hr hg (ha a e e') hrow).1⟩
theorem grown_set (V : World) (p : Addr) (v : Value) : V.grownBy (V.setCell p v) (some p.block) := ⟨rfl, rfl, rfl, by simp [World.setCell], fun k hk e => Below.heap_setCell V p v k (fun e' => e (by rw [e']))⟩
theorem Sn.new {q : Nat} {w : World} (hr : Rw q w) (o : Obj) : Sn q (w.alloc o) w.heap.size :=
  ⟨by simp, by have := hr.box.lt; omega, fun e => by
    rw [rowOf_same (Below.heap_alloc w _ q hr.box.lt)] at e
    have := (hr.row _ e.symm).lt
    omega⟩

set_option maxRecDepth 100000 in
set_option maxHeartbeats 4000000 in
theorem parts_gives (q : Nat) (ao : Option Addr) (n cap : Nat) (l : List Rg) (lo hi b1 b2 b3 : Nat) :
    Gives Tryz.prog 139 #[.pointer (some ⟨b1, 0, none⟩), .pointer (some ⟨b2, 0, none⟩), .pointer (some ⟨b3, 0, none⟩)] (fun r : Rg => #[ra r]) q (MA q ao n cap l lo hi b1 b2 b3) (RG.parts lo hi l) := by
  intro lp J Jx W hIt hJ hJx hRw hRx hY h0
  have hrw := hRw 0 W h0
  -- the box of yield
  obtain ⟨W1, hW1⟩ : ∃ W1, W.alloc (.cells #[.func (.yield lp) #[] #[]] 127) = W1 := ⟨_, rfl⟩
  have hk1 : Kp q W W1 := by rw [← hW1]; exact (Kp.refl q W).alloc hrw.box.lt _
  have hM1 := hIt.kp hk1
  have hy1 : Bx q W1 W.heap.size 127 (.func (.yield lp) #[] #[]) := by rw [← hW1]; exact Bx.new hrw _ _
  have hr1 : Rw q W1 := by rw [← hW1]; exact hrw.alloc _
  have hJ1 : J 0 W1 := by rw [← hW1]; exact hJ.alloc _ h0
  have hs1 : W1.heap.size = W.heap.size + 1 := by rw [← hW1]; simp
  -- the boxes of meeting
  have hX := hr1.alloc (.cells #[.slice ao n cap] 41)
  have hX2 := hX.alloc (.cells #[.int .u64 (lo : Int)] 36)
  obtain ⟨W2, hW2⟩ : ∃ W2, ((W1.alloc (.cells #[.slice ao n cap] 41)).alloc (.cells #[.int .u64 (lo : Int)] 36)).alloc (.cells #[.int .u64 (hi : Int)] 36) = W2 := ⟨_, rfl⟩
  have ka := (Kp.refl q W1).alloc hr1.box.lt (.cells #[.slice ao n cap] 41)
  have kb := (Kp.refl q _).alloc hX.box.lt (.cells #[.int .u64 (lo : Int)] 36)
  have kc := (Kp.refl q _).alloc hX2.box.lt (.cells #[.int .u64 (hi : Int)] 36)
  have hk2 : Kp q W1 W2 := by rw [← hW2]; exact (ka.then kb).then kc
  have hM2 : MA q ao n cap l lo hi W1.heap.size (W1.heap.size + 1) (W1.heap.size + 1 + 1) W2 := by
    have n1 := Bx.new hr1 41 (.slice ao n cap)
    have n2 := Bx.new hX 36 (.int .u64 (lo : Int))
    have n3 := Bx.new hX2 36 (.int .u64 (hi : Int))
    simp only [World.size_alloc] at n2 n3
    rw [← hW2]
    have hh := hM1.kp ((ka.then kb).then kc)
    exact ⟨(n1.kp kb).kp kc, n2.kp kc, n3, hh.rs, hh.sn⟩
  have hP2 : MA q ao n cap l lo hi b1 b2 b3 W2 := hM1.kp hk2
  have hy2 := hy1.kp hk2
  have hr2 : Rw q W2 := by rw [← hW2]; exact hX2.alloc _
  have hJ2 : J 0 W2 := by
    rw [← hW2]
    exact hJ.alloc _ (hJ.alloc _ (hJ.alloc _ hJ1))
  have hs2 : W2.heap.size = W.heap.size + 4 := by rw [← hW2]; simp; omega
  have hme := W_hid (meeting_any ao n cap lo hi W1)
  rw [hW2] at hme
  have y1 := hM1.x1.cell
  have y2 := hM1.x2.cell
  have y3 := hM1.x3.cell
  refine callsIn_of_wp_marks Tryz.func139 rfl trivial ?_ rfl
  simp only [Tryz.ntmps139, List.size_toArray, List.length_cons, List.length_nil, Nat.reduceAdd, Nat.reduceSub, Array.replicate_succ, Array.replicate_zero, List.push_toArray, List.append_toArray, List.nil_append, List.cons_append]
  gi_wp2
  refine ⟨trivial, rfl, ?_⟩
  refine (fit_wide hme.out).mono ?_
  rintro e w2 ⟨rfl, rfl⟩
  gi_wp2
  clear hme hW1 hW2 hM1 hIt y1 y2 y3 ka kb kc hX hX2
  rw [hs1] at hM2
  have hle : W.heap.size ≤ w2.heap.size := by omega
  have b1' := hP2.x1.1.lt
  have b2' := hP2.x2.1.lt
  have b3' := hP2.x3.1.lt
  have ba' := fun a e e' => (hP2.sn a e e').1
  have hget := W_hid (parts_get lo hi l)
  have hln := W_hid (parts_len lo hi l)
  refine range_gives (gf := 135) rfl enters_meet (meet_gives q ao n cap l lo hi _ _ _) hM2 (fun V V' _ hk h => h.kp hk) (fun _ => rfl)
    (fun k V => J k V ∧ MA q ao n cap l lo hi b1 b2 b3 V ∧ Bx q V W.heap.size 127 (.func (.yield lp) #[] #[]))
    (fun c k V => c = .ret ∧ Jx k V)
    (fun k V V' row h hg hr => ⟨hJ.later hle k V V' row h.1 hg hr, h.2.1.own (hRw k V h.1) hg b1' b2' b3' ba' hr, h.2.2.own (hRw k V h.1) hg (by omega) hr⟩)
    (fun c k V V' row h hg hr => ⟨h.1, hJx.later hle k V V' row h.2 hg hr⟩)
    (fun k V h => hRw k V h.1) (fun c k V h => hRx k V h.2) ⟨hJ2, hP2, hy2⟩
    (fun m x a' V => ∃ bx, m ≤ bx ∧ bx < V.heap.size ∧ RB V bx x ∧ Sn q V bx ∧ Rw q V ∧ a' = { tmps := #[.func (.yield lp) #[] #[], .pointer (some ⟨b1, 0, none⟩), .pointer (some ⟨b2, 0, none⟩), .pointer (some ⟨b3, 0, none⟩), .pointer (some ⟨W.heap.size, 0, none⟩), .pointer (some ⟨bx, 0, none⟩), .slice ao n cap, .int .u64 (lo : Int), .int .u64 (hi : Int), .func (.func 135) #[] #[.pointer (some ⟨W.heap.size + 1, 0, none⟩), .pointer (some ⟨W.heap.size + 1 + 1, 0, none⟩), .pointer (some ⟨W.heap.size + 1 + 1 + 1, 0, none⟩)], ra x, undef, undef, undef, undef, undef, undef, undef, undef, undef, undef, undef, undef, undef, undef, undef, undef], defers := [] })
    (fun m x a' _ V V' row h hg hr => by
      obtain ⟨bx, h1, h2, h3, h4, h6, h5⟩ := h
      have hfar : ∀ r, row = some r → r ≠ q ∧ some r ≠ rowOf V q := fun r e => by
        obtain ⟨_, o, ho, hc⟩ := hr r e
        exact h6.far ho hc
      obtain ⟨g1, g2⟩ := grownBy_row h6 hg hfar
      exact ⟨bx, h1, Nat.lt_of_lt_of_le h2 hg.size, Blk.own' h3 hg (fun r e => (hr r e).2), ⟨Nat.lt_of_lt_of_le h2 hg.size, h4.2.1, by rw [g1]; exact h4.2.2⟩, g2, h5⟩)
    ?assign ?body ?done ?stop
  case assign =>
    rintro lq k ⟨f, t, p, s⟩ V K hsz ⟨hJk, hP, hy⟩ hK
    have hq := (hRw k V hJk).box.lt
    have hkp := (Kp.refl q V).alloc hq (.cells #[.int .u64 (f : Int), .int .u64 (t : Int), .int .i64 p, .int .i64 s] 55)
    have hKn := hK _ _ hkp ⟨hJ.alloc _ hJk, hP.kp hkp, hy.kp hkp⟩ ⟨V.heap.size, Nat.le_refl _, by simp, Blk.new _ _ _ rfl, (Sn.new (hRw k V hJk) _), (hRw k V hJk).alloc _, rfl⟩
    simp only [ra] at hKn ⊢
    gi_wp2
    exact hKn
  case body =>
    rintro lq k ⟨f, t, p, s⟩ a' m V hx hm hmV ⟨hJk, hP, hy⟩ ⟨bx, hbx, hbl, hB, hsn, hrv, rfl⟩
    have hqb : q ≠ bx := fun e => hsn.2.1 e.symm
    simp only [ra]
    obtain ⟨u0, u1, u2, u3⟩ := hB.re
    have z2 := hP.x2.cell
    have z3 := hP.x3.cell
    have z4 := hy.cell
    have hf := fun i => hB.fz i
    have hf0 := hf 0
    have hf1 := hf 1
    have hx2 := hget.out k _ hx
    simp only [RG.trim] at hx2
    have hC := W_hid (fun w => common_any f t lo hi w)
    obtain ⟨A, hA⟩ : ∃ A, max f lo = A := ⟨_, rfl⟩
    obtain ⟨B, hB'⟩ : ∃ B, min t hi = B := ⟨_, rfl⟩
    rw [hA, hB'] at hC hx2
    have hB2 : RB ((V.setCell ⟨bx, 0, none⟩ (.int .u64 (A : Int))).setCell ⟨bx, 1, none⟩ (.int .u64 (B : Int))) bx ⟨A, B, p, s⟩ := (hB.set 0 _).set 1 _
    have hkq : Kq m q V ((V.setCell ⟨bx, 0, none⟩ (.int .u64 (A : Int))).setCell ⟨bx, 1, none⟩ (.int .u64 (B : Int))) := ((Kq.refl q hmV).set hbx hqb _).set hbx hqb _
    have hro : rowOf (V.setCell ⟨bx, 0, none⟩ (.int .u64 (A : Int))) q = rowOf V q := rowOf_same (Below.heap_setCell V ⟨bx, 0, none⟩ _ q hqb)
    have hf1' : bx ≠ q ∧ some bx ≠ rowOf V q := ⟨hsn.2.1, hsn.2.2⟩
    have hf2' : bx ≠ q ∧ some bx ≠ rowOf (V.setCell ⟨bx, 0, none⟩ (.int .u64 (A : Int))) q := by rw [hro]; exact hf1'
    have hJk2 : J k ((V.setCell ⟨bx, 0, none⟩ (.int .u64 (A : Int))).setCell ⟨bx, 1, none⟩ (.int .u64 (B : Int))) := hJ.set _ (hJ.set _ hJk (by show _ ≤ bx; omega) hf1') (by show _ ≤ bx; omega) hf2'
    have hrv1 : Rw q (V.setCell ⟨bx, 0, none⟩ (.int .u64 (A : Int))) := (grownBy_row hrv (grown_set _ _ _) (fun r e => by cases e; exact hf1')).2
    have hset : ∀ (V : World) (j : Nat) (v : Value), Rw q V → bx ≠ q ∧ some bx ≠ rowOf V q → MA q ao n cap l lo hi b1 b2 b3 V ∧ Bx q V W.heap.size 127 (.func (.yield lp) #[] #[]) → MA q ao n cap l lo hi b1 b2 b3 (V.setCell ⟨bx, j, none⟩ v) ∧ Bx q (V.setCell ⟨bx, j, none⟩ v) W.heap.size 127 (.func (.yield lp) #[] #[]) :=
      fun V j v hr hf h => ⟨h.1.own hr (grown_set _ _ _) b1' b2' b3' ba' (fun r e => by cases e; exact ⟨by show _ ≤ bx; omega, hf⟩), h.2.own (B := w2.heap.size) hr (grown_set _ _ _) (by omega) (fun r e => by cases e; exact ⟨by show _ ≤ bx; omega, hf⟩)⟩
    have hPy := W_hid (hset _ 1 (.int .u64 (B : Int)) hrv1 hf2' (hset V 0 (.int .u64 (A : Int)) hrv hf1' ⟨hP, hy⟩))
    have hz4 := hPy.out.2.cell
    obtain ⟨v0, v1, v2, v3⟩ := hB2.re
    obtain ⟨fn, tmps, assign, body, hyy, hR⟩ := hY _ _ _ hx2 hJk2
    simp only [ra] at hyy
    gi_wp2
    refine ⟨trivial, rfl, ?_⟩
    refine (CallsIn.inRound lq (fit_wide (hC.out _))).mono ?_
    rintro e w3 ⟨rfl, rfl⟩
    gi_wp2
    refine ⟨rfl, ?_⟩
    have hR' : RoundIn (Fence.wide.inRound lq) 0 Tryz.prog lp fn tmps assign body ((V.setCell ⟨bx, 0, none⟩ (.int .u64 (A : Int))).setCell ⟨bx, 1, none⟩ (.int .u64 (B : Int))) _ := hR
    refine hR'.mono ?_
    rintro e W3 (⟨rfl, hJ3, hk3⟩ | ⟨rfl, hJx3, hkf⟩)
    · have hfin : Kq m q V W3 ∧ J (k + 1) W3 ∧ MA q ao n cap l lo hi b1 b2 b3 W3 ∧ Bx q W3 W.heap.size 127 (.func (.yield lp) #[] #[]) := ⟨hkq.then hk3, hJ3, hPy.out.1.kp hk3, hPy.out.2.kp hk3⟩
      clear hR hR' hC hset
      gi_wp2
      exact hfin
    · have hfin : KeepsFrom w2.heap.size V W3 := (((KeepsOthers.setCell _ _ _).trans (KeepsOthers.setCell _ _ _)).from _).trans ⟨hkf.size, fun i o hi => hkf.same i o (by omega)⟩
      clear hR hR' hC hset
      gi_wp2
      exact ⟨hfin, rfl, hJx3⟩
  case done =>
    rintro D V hD ⟨hJk, -, -⟩ - hK
    have hfin : J (RG.parts lo hi l).length (V.putObj D (.deferred none)) := by
      rw [hln.out]
      exact hJ.putObj _ hJk (by omega) ((hRw _ _ hJk).far hK rfl)
    gi_wp2
    refine ⟨by simp, .inl ⟨_, _, rfl, run_takeDeferred hK, ?_⟩⟩
    exact ⟨_, results_none rfl _ _ _, ⟨_, rfl⟩, .inl hfin⟩
  case stop =>
    rintro D c k V hD hlt ⟨rfl, hJxk⟩ hK
    have hfin : Jx k (V.putObj D (.deferred none)) := hJx.putObj _ hJxk (by omega) ((hRx _ _ hJxk).far hK rfl)
    have hlt' : k < (RG.parts lo hi l).length := by rw [hln.out]; exact hlt
    gi_wp2
    refine ⟨by simp, .inl ⟨_, _, rfl, run_takeDeferred hK, ?_⟩⟩
    exact ⟨_, results_none rfl _ _ _, ⟨_, rfl⟩, .inr ⟨k, hlt', hfin⟩⟩
end Go.Proofs.YtkomahekdcaiaaaGreatDoor

/- Contracts of package space: step, isPerm, heapEnd, none. -/
namespace Go.Proofs.YtkomahekdcaiaaaGreatDoor
open Go.ChangeShapes Go.WideShapes Go.ChangeAt Go.RowKit
set_option linter.unusedVariables false
set_option linter.unusedSimpArgs false

/-- How large the pages of a kind of regions are. -/
def stp (kind : Int) : Nat := if kind = 1 then 2097152 else 4096
theorem stp_pos (kind : Int) : 0 < stp kind := by unfold stp; split <;> omega
theorem stp_le (kind : Int) : stp kind ≤ 2097152 := by unfold stp; split <;> omega

set_option maxRecDepth 100000 in
set_option maxHeartbeats 1000000 in
theorem step_any (kind : Int) (w : World) : Calls Tryz.prog 52 #[.int .i64 kind] w fun e w' => e = .returned (.int .u64 (stp kind : Int)) ∧ w = w' := by
  by_cases h : kind = 1
  · have e1 : stp kind = 2097152 := by unfold stp; rw [if_pos h]
    rw [e1]
    subst h
    go_enter Tryz.func52, Tryz.ntmps52
    go_wp2
    go_ret
    exact ⟨rfl, rfl⟩
  · have e1 : stp kind = 4096 := by unfold stp; rw [if_neg h]
    rw [e1]
    have d1 : decide (kind = 1) = false := decide_eq_false h
    go_enter Tryz.func52, Tryz.ntmps52
    go_wp2
    go_ret
    exact ⟨rfl, rfl⟩

set_option maxRecDepth 100000 in
set_option maxHeartbeats 1000000 in
theorem spPerm_any (p : Int) (h1 : -9223372036854775808 ≤ p) (h2 : p ≤ 9223372036854775807) (w : World) : Calls Tryz.prog 50 #[.int .i64 p] w fun e w' => e = .returned (.bool (decide (EN.perms p))) ∧ w = w' := by
  have hd := perms_test p h1 h2
  cases hp : decide (EN.perms p)
  · rw [hp] at hd
    rcases Bool.and_eq_false_iff.1 hd with d1 | d1
    · go_enter Tryz.func50, Tryz.ntmps50
      go_wp2
      go_ret
      exact ⟨rfl, rfl⟩
    · by_cases d0 : (bits BinOp.and IntKind.i64 p 1 != 0) = true
      · go_enter Tryz.func50, Tryz.ntmps50
        go_wp2
        go_ret
        exact ⟨rfl, rfl⟩
      · replace d0 : (bits BinOp.and IntKind.i64 p 1 != 0) = false := by simpa using d0
        go_enter Tryz.func50, Tryz.ntmps50
        go_wp2
        go_ret
        exact ⟨rfl, rfl⟩
  · rw [hp, Bool.and_eq_true] at hd
    obtain ⟨d1, d2⟩ := hd
    go_enter Tryz.func50, Tryz.ntmps50
    go_wp2
    go_ret
    exact ⟨rfl, rfl⟩

set_option maxRecDepth 100000 in
set_option maxHeartbeats 1000000 in
theorem heapEnd_any (k : Nat) (hk : k ≤ 9223372036854775807) (w : World) : Calls Tryz.prog 62 #[.int .i64 (k : Int)] w fun e w' => (∃ z : Int, e = .returned (.int .u64 z)) ∧ w = w' := by
  go_enter Tryz.func62, Tryz.ntmps62
  go_wp2
  go_ret
  exact ⟨⟨_, rfl⟩, rfl⟩
end Go.Proofs.YtkomahekdcaiaaaGreatDoor

/- A range over an iterator that gives a list known ahead, with a body that turns some blocks that were there ahead of the loop (a list S of them). Free of any program's numbers but for its import. -/
namespace Go.Proofs.YtkomahekdcaiaaaGreatDoor
open Go.RowKit Go.Shelf
set_option linter.unusedVariables false
set_option linter.unusedSimpArgs false
namespace SB

/-- All that lay below n is there, but for the blocks S. -/
structure BN (n : Nat) (S : List Nat) (W W' : World) : Prop where
  le : n ≤ W.heap.size
  size : W.heap.size ≤ W'.heap.size
  block : ∀ k, k < n → k ∉ S → W'.heap[k]? = W.heap[k]?
  os : W'.os = W.os
  tape : W'.tape = W.tape
  output : W'.output = W.output
section
variable {n : Nat} {S : List Nat} {A B C : World}
theorem BN.refl (S : List Nat) {n : Nat} {W : World} (h : n ≤ W.heap.size) : BN n S W W := ⟨h, Nat.le_refl _, fun _ _ _ => rfl, rfl, rfl, rfl⟩
theorem BN.then (h : BN n S A B) (k : But S B C) : BN n S A C :=
  ⟨h.le, Nat.le_trans h.size k.size, fun i hi hS => (k.block i (Nat.lt_of_lt_of_le hi (Nat.le_trans h.le h.size)) hS).trans (h.block i hi hS), k.os.trans h.os, k.tape.trans h.tape, k.output.trans h.output⟩
theorem BN.below (h : BN n S A B) (k : Below n B C) : BN n S A C :=
  ⟨h.le, Nat.le_trans h.size k.size, fun i hi hS => (k.block i hi).trans (h.block i hi hS), k.os.trans h.os, k.tape.trans h.tape, k.output.trans h.output⟩
theorem BN.set (h : BN n S A B) {p : Addr} (hp : p.block ∈ S ∨ n ≤ p.block) (u : Value) : BN n S A (B.setCell p u) :=
  ⟨h.le, by simpa [World.setCell] using h.size, fun k hk hS => (Below.heap_setCell B p u k (fun e => by
    rcases hp with hp | hp
    · exact hS (e ▸ hp)
    · omega)).trans (h.block k hk hS), h.os, h.tape, h.output⟩
theorem BN.drew (h : BN n S A B) (m : Nat) : BN n S A (B.drewN m) := ⟨h.le, h.size, h.block, h.os, h.tape, h.output⟩
theorem But.bn (h : But S A B) : BN A.heap.size S A B := ⟨Nat.le_refl _, h.size, h.block, h.os, h.tape, h.output⟩
end

/-- What is said abides whatever happens at B and beyond. -/
def AbB (B : Nat) (I : Nat → World → Prop) : Prop := ∀ k V V', I k V → Below B V V' → I k V'
theorem below_put {B : Nat} {V : World} {l : Nat} (o : Obj) (hB : B ≤ l) : Below B V (V.putObj l o) :=
  ⟨rfl, rfl, rfl, by simp [World.putObj], fun k hk => World.putObj_heap_other (by omega)⟩
theorem AbB.putObj {B : Nat} {I : Nat → World → Prop} (h : AbB B I) {k : Nat} {V : World} {l : Nat} (o : Obj) (hi : I k V) (hB : B ≤ l) : I k (V.putObj l o) := h k V _ hi (below_put o hB)
theorem AbB.alloc {B : Nat} {I : Nat → World → Prop} (h : AbB B I) {k : Nat} {V : World} (o : Obj) (hi : I k V) (hB : B ≤ V.heap.size) : I k (V.alloc o) := h k V _ hi ((Below.refl _ _).alloc hB o)

variable {P : Program}
/-- The iterator g of what it has captured gives the list xs, as long as more is wanted; what it is given to turns no more than S. -/
def GivesB {α : Type} (P : Program) (g : Nat) (lb : Array Value) (encs : α → Array Value) (S : List Nat) (It : World → Prop) (xs : List α) : Prop :=
  ∀ (l : Nat) (J Jx : Nat → World → Prop) (W : World), It W → AbB W.heap.size J → AbB W.heap.size Jx →
    (∀ k x V, xs[k]? = some x → J k V → W.heap.size ≤ V.heap.size → YieldAt Fence.wide 0 P l (encs x) V fun e V' =>
      (e = .returned (.bool true) ∧ J (k + 1) V' ∧ But S V V') ∨ (e = .returned (.bool false) ∧ Jx k V' ∧ KeepsFrom W.heap.size V V')) →
    J 0 W →
    CallsIn Fence.wide 0 P g (#[.func (.yield l) #[] #[]] ++ lb) W fun e W' => (∃ v, e = .returned v) ∧ (J xs.length W' ∨ ∃ k, k < xs.length ∧ Jx k W')

/-- How a round's body may be left. -/
def bodyB (B n : Nat) (S : List Nat) (I : Nat → World → Prop) (Ix : Code → Nat → World → Prop) (k : Nat) (W : World) : Exit → Act → World → Prop
  | .normal, _, W' => BN n S W W' ∧ I (k + 1) W'
  | .ret, _, W' => KeepsFrom B W W' ∧ Ix .ret k W'
  | .exit id, _, W' => KeepsFrom B W W' ∧ Ix (.exit id) k W'
  | .goto t, _, W' => KeepsFrom B W W' ∧ Ix (.goto t) k W'
  | .panic _, _, _ => False
  | .outgrown, _, _ => False

theorem range_givesB {α : Type} {g : Operand} {ps : Array Tmp} {assign body : Code} {Q : Exit → Act → World → Prop} {a : Act} {w : World}
    {gf : Nat} {lb : Array Value} (hg : a.eval g = .func (.func gf) #[] lb) (eg : ∀ args w, (callFunc gf args).run P w = .ok (.enter gf args) w)
    {encs : α → Array Value} {S : List Nat} {It : World → Prop} {xs : List α} (hseq : GivesB P gf lb encs S It xs) (hIt : ∀ W', Below w.heap.size w W' → It W') (hS : ∀ x ∈ S, x < w.heap.size) (hps : ∀ x, (encs x).size = ps.size)
    (I : Nat → World → Prop) (Ix : Code → Nat → World → Prop) (hI : AbB w.heap.size I) (hIx : ∀ c, AbB w.heap.size (Ix c)) (h0 : I 0 w)
    (Ax : Nat → α → Act → World → Prop) (hAx : ∀ n x a', OwnFrom w.heap.size (fun (_ : Unit) W => Ax n x a' W))
    (hassign : ∀ (l k : Nat) (x : α) (W : World) (K : Act → World → Prop), w.heap.size ≤ W.heap.size → I k W → (∀ a' W', But S W W' → I k W' → Ax W.heap.size x a' W' → K a' W') →
      assign.wpIn (Fence.wide.inRound l) 0 P (Exit.then K (fun _ _ _ => False)) { tmps := (ps.zip (encs x)).foldl (fun t (p, v) => t.setIfInBounds p v) a.tmps, defers := [] } W)
    (hbody : ∀ (l k : Nat) (x : α) (a' : Act) (n : Nat) (W : World), xs[k]? = some x → w.heap.size ≤ n → n ≤ W.heap.size → I k W → Ax n x a' W → body.wpIn (Fence.wide.inRound l) 0 P (bodyB w.heap.size n S I Ix k W) a' W)
    (hdone : ∀ (D : Nat) (W : World), w.heap.size ≤ D → I xs.length W → But S w W → W.heap[D]? = some (.deferred (some [])) → Q .normal { a with defers := { target := .collected D, args := #[] } :: a.defers } W)
    (hstop : ∀ (D : Nat) (c : Code) (k : Nat) (W : World), w.heap.size ≤ D → k < xs.length → Ix c k W → W.heap[D]? = some (.deferred (some [])) → c.wpIn Fence.wide 0 P Q { a with defers := { target := .collected D, args := #[] } :: a.defers } W) :
    (Code.rangeFunc g ps assign body).wpIn Fence.wide 0 P Q a w := by
  refine wpIn_rangeFunc (F := Fence.wide) (n := 0) ?_
  intro fn _
  obtain ⟨rec, hrec⟩ : ∃ rec : LoopState → Option Code → Loop, rec = fun st pe => { state := st, pending := pe, fn, tmps := a.tmps, params := ps, assign, body, defers := w.heap.size } := ⟨_, rfl⟩
  obtain ⟨W1, hW1⟩ : ∃ W1, (w.alloc (.deferred (some []))).alloc (.loop (rec .ready none)) = W1 := ⟨_, rfl⟩
  have hbel : Below w.heap.size w W1 := by rw [← hW1]; exact ((Below.refl _ w).alloc (Nat.le_refl _) _).alloc (by simp) _
  have hsz : W1.heap.size = w.heap.size + 2 := by rw [← hW1]; simp
  have hL1 : W1.heap[w.heap.size + 1]? = some (.loop (rec .ready none)) := by
    rw [← hW1]; have := World.alloc_heap_new (w.alloc (.deferred (some []))) (.loop (rec .ready none)); rwa [World.size_alloc] at this
  have hK1 : W1.heap[w.heap.size]? = some (.deferred (some [])) := by
    rw [← hW1]; exact (Below.heap_alloc _ _ _ (by simp)).trans (World.alloc_heap_new w _)
  have hkp1 : But S w W1 := But.of hbel
  have hI1 : I 0 W1 := hI 0 w W1 h0 hbel
  have nS : ∀ {b : Nat}, w.heap.size ≤ b → b ∉ S := fun {b} hb hm => by have := hS b hm; omega
  -- What the iterator's contract is told of
  let J : Nat → World → Prop := fun k V => I k V ∧ But S w V ∧ V.heap[w.heap.size + 1]? = some (.loop (rec .ready none)) ∧ V.heap[w.heap.size]? = some (.deferred (some []))
  let Jx : Nat → World → Prop := fun k V => ∃ c, Ix c k V ∧ V.heap[w.heap.size + 1]? = some (.loop (rec .done (some c))) ∧ V.heap[w.heap.size]? = some (.deferred (some []))
  have lowB : ∀ {V V' : World}, Below W1.heap.size V V' → Below w.heap.size V V' := fun h => ⟨h.os, h.tape, h.output, h.size, fun k hk => h.block k (by omega)⟩
  have keepN : ∀ {V V' : World} {b : Nat} {o : Obj}, V.heap[b]? = some o → b < w.heap.size + 2 → Below W1.heap.size V V' → V'.heap[b]? = some o := fun {V V' b o} hb hlt h => (h.block b (by omega)).trans hb
  have hJ : AbB W1.heap.size J := fun k V V' hs h => by
    obtain ⟨h1, h2, h3, h4⟩ := hs
    exact ⟨hI k V V' h1 (lowB h), h2.low (lowB h), keepN h3 (by omega) h, keepN h4 (by omega) h⟩
  have hJx : AbB W1.heap.size Jx := fun k V V' hs h => by
    obtain ⟨c, h1, h3, h4⟩ := hs
    exact ⟨c, hIx c k V V' h1 (lowB h), keepN h3 (by omega) h, keepN h4 (by omega) h⟩
  refine ⟨w.heap.size + 1, [{ target := .collected w.heap.size, args := #[] }], W1, { target := .fn (.func gf) lb, args := #[.func (.yield (w.heap.size + 1)) #[] #[]] }, W1, gf,
    #[.func (.yield (w.heap.size + 1)) #[] #[]] ++ lb, W1, ?_, ?_, fun _ _ => trivial, ?_, fun h => by simp [Fence.wide] at h, ?_⟩
  · rw [← hW1, hrec]; exact run_enterLoop_outer _ _ _ _ _
  · simp only [resolve, hg]
    simp [go_sem]
  · simp [invoke, go_sem, eg]
  · refine (hseq (w.heap.size + 1) J Jx W1 (hIt W1 hbel) hJ hJx ?_ ⟨hI1, hkp1, hL1, hK1⟩).mono ?_
    · rintro k x V hx ⟨hi, hkw, hl, hd⟩ hWV
      have hlt : w.heap.size + 1 < V.heap.size := (Array.getElem?_eq_some_iff.1 hl).1
      have hy := run_yield (P := P) (args := encs x) hl (by rw [hrec]; exact hps x)
      rw [hrec] at hy
      refine ⟨fn, _, assign, body, hy, roundIn_of_wpIn trivial (hassign _ k x V _ (by omega) hi ?_)⟩
      clear hy
      intro a' Va hkp hia hax
      -- the assignment may have laid a block
      have hla := (hkp.block _ hlt (nS (by omega))).trans hl
      have hda := (hkp.block _ (by omega) (nS (Nat.le_refl _))).trans hd
      have hlta : w.heap.size + 1 < Va.heap.size := (Array.getElem?_eq_some_iff.1 hla).1
      refine ⟨_, run_beginRound hla (by rw [hrec]), ?_⟩
      obtain ⟨V2, hV2⟩ : ∃ V2, Va.putObj (w.heap.size + 1) (.loop { rec .ready none with state := .busy }) = V2 := ⟨_, rfl⟩
      have hl2 : V2.heap[w.heap.size + 1]? = some (.loop { rec .ready none with state := .busy }) := by rw [← hV2]; exact World.putObj_heap_same hlta
      have hd2 : V2.heap[w.heap.size]? = some (.deferred (some [])) := by rw [← hV2]; exact (World.putObj_heap_other (by omega)).trans hda
      have hi2 : I k V2 := by rw [← hV2]; exact hI.putObj _ hia (by omega)
      have hax2 : Ax V.heap.size x a' V2 := by rw [← hV2]; exact (hAx _ x a').putObj (s := ()) _ hax (by omega) hla rfl
      have hother : ∀ b, b ≠ w.heap.size + 1 → V2.heap[b]? = Va.heap[b]? := fun b hb => by rw [← hV2]; exact World.putObj_heap_other hb
      have hsz2 : V2.heap.size = Va.heap.size := by rw [← hV2]; simp [World.putObj]
      have e2 : V2.os = Va.os ∧ V2.tape = Va.tape ∧ V2.output = Va.output := by rw [← hV2]; exact ⟨rfl, rfl, rfl⟩
      rw [show Va.putObj (w.heap.size + 1) (.loop { rec .ready none with state := .busy }) = V2 from hV2]
      clear hV2
      refine wpIn_mono (hbody _ k x a' V.heap.size V2 hx (by omega) (by have := hkp.size; omega) hi2 hax2) ?_
      -- how a round ends
      have fin : ∀ (jump : Option Code) (V3 : World), V3.heap[w.heap.size + 1]? = some (.loop { rec .ready none with state := .busy }) → V3.heap[w.heap.size]? = some (.deferred (some [])) →
          (Instr.endRound (w.heap.size + 1) jump).run P V3 = .ok (.bool jump.isNone) (V3.putObj (w.heap.size + 1) (.loop (rec (if jump.isNone then .ready else .done) jump))) ∧
          (V3.heap[w.heap.size + 1]? = some (.loop { rec .ready none with state := .busy })) ∧
          (V3.putObj (w.heap.size + 1) (.loop (rec (if jump.isNone then .ready else .done) jump))).heap[w.heap.size + 1]? = some (.loop (rec (if jump.isNone then .ready else .done) jump)) ∧
          (V3.putObj (w.heap.size + 1) (.loop (rec (if jump.isNone then .ready else .done) jump))).heap[w.heap.size]? = some (.deferred (some [])) := fun jump V3 hl3 hd3 => by
        have := run_endRound (P := P) jump hl3
        rw [hrec] at this ⊢
        exact ⟨this, by rw [hrec] at hl3; exact hl3, World.putObj_heap_same (Array.getElem?_eq_some_iff.1 hl3).1, (World.putObj_heap_other (by omega)).trans hd3⟩
      -- what a round that has left keeps
      have left : ∀ (V3 : World) (o' : Obj), KeepsFrom w.heap.size V2 V3 → KeepsFrom W1.heap.size V (V3.putObj (w.heap.size + 1) o') := fun V3 o' hk3 =>
        ⟨by have h1 := hk3.size; have h2 := hkp.size; simp only [World.putObj, Array.size_setIfInBounds]; omega, fun b o hb hV ho => by
          have h1 := (hkp.block b (Array.getElem?_eq_some_iff.1 hV).1 (nS (by omega))).trans hV
          have h2 : V2.heap[b]? = some o := (hother b (by omega)).trans h1
          exact (World.putObj_heap_other (by omega)).trans (hk3.same b o (by omega) h2 ho)⟩
      -- what a whole round keeps
      have whole : ∀ (V3 : World), BN V.heap.size S V2 V3 → V3.heap[w.heap.size + 1]? = some (.loop { rec .ready none with state := .busy }) → But S V (V3.putObj (w.heap.size + 1) (.loop (rec .ready none))) := fun V3 hk3 hl3 => by
        have hs3 : (V3.putObj (w.heap.size + 1) (.loop (rec .ready none))).heap.size = V3.heap.size := by simp [World.putObj]
        refine ⟨hk3.os.trans (e2.1.trans hkp.os), hk3.tape.trans (e2.2.1.trans hkp.tape), hk3.output.trans (e2.2.2.trans hkp.output), by have h1 := hk3.size; have h2 := hkp.size; omega, fun b hb hbS => ?_⟩
        by_cases e : b = w.heap.size + 1
        · subst e
          rw [hl]
          exact World.putObj_heap_same (Array.getElem?_eq_some_iff.1 hl3).1
        · rw [World.putObj_heap_other e, hk3.block b hb hbS, hother b e, hkp.block b hb hbS]
      rintro e a3 V3 hp
      cases e with
      | normal =>
        obtain ⟨hk3, hi3⟩ := hp
        have hl3 := (hk3.block _ hlt (nS (by omega))).trans hl2
        have hd3 := (hk3.block _ (by omega) (nS (Nat.le_refl _))).trans hd2
        obtain ⟨hr, hl3, hl4, hd4⟩ := fin none V3 hl3 hd3
        have hw := whole V3 hk3 hl3
        exact ⟨_, _, hr, .inl ⟨rfl, ⟨hI.putObj _ hi3 (by omega), hkw.trans hw, hl4, hd4⟩, hw⟩⟩
      | ret =>
        obtain ⟨hk3, hi3⟩ := hp
        obtain ⟨hr, hl3, hl4, hd4⟩ := fin (some .ret) V3 (hk3.same _ _ (by omega) hl2 rfl) (hk3.same _ _ (Nat.le_refl _) hd2 rfl)
        exact ⟨_, _, hr, .inr ⟨rfl, ⟨.ret, (hIx _).putObj _ hi3 (by omega), hl4, hd4⟩, left V3 _ hk3⟩⟩
      | exit id =>
        obtain ⟨hk3, hi3⟩ := hp
        obtain ⟨hr, hl3, hl4, hd4⟩ := fin (some (.exit id)) V3 (hk3.same _ _ (by omega) hl2 rfl) (hk3.same _ _ (Nat.le_refl _) hd2 rfl)
        exact ⟨_, _, hr, .inr ⟨rfl, ⟨.exit id, (hIx _).putObj _ hi3 (by omega), hl4, hd4⟩, left V3 _ hk3⟩⟩
      | goto t =>
        obtain ⟨hk3, hi3⟩ := hp
        obtain ⟨hr, hl3, hl4, hd4⟩ := fin (some (.goto t)) V3 (hk3.same _ _ (by omega) hl2 rfl) (hk3.same _ _ (Nat.le_refl _) hd2 rfl)
        exact ⟨_, _, hr, .inr ⟨rfl, ⟨.goto t, (hIx _).putObj _ hi3 (by omega), hl4, hd4⟩, left V3 _ hk3⟩⟩
      | panic ch => exact hp.elim
      | outgrown => exact hp.elim
    · -- behind the iterator
      rintro e V2 ⟨⟨v, rfl⟩, (⟨hi, hkw, hl, hd⟩ | ⟨k, hk, c, hi, hl, hd⟩)⟩
      · exact ⟨none, _, by have := run_endLoop (P := P) hl (by rw [hrec]; simp); rw [hrec] at this; exact this, hdone _ _ (Nat.le_refl _) (hI.putObj _ hi (by omega)) (hkw.low (below_put _ (by omega))) ((World.putObj_heap_other (by omega)).trans hd)⟩
      · exact ⟨some c, _, by have := run_endLoop (P := P) hl (by rw [hrec]; simp); rw [hrec] at this; exact this, hstop _ c k _ (Nat.le_refl _) hk ((hIx c).putObj _ hi (by omega)) ((World.putObj_heap_other (by omega)).trans hd)⟩
end SB
end Go.Proofs.YtkomahekdcaiaaaGreatDoor

/- The iterator over the pages of a region: starts. -/
namespace Go.Proofs.YtkomahekdcaiaaaGreatDoor
open Go.ChangeShapes Go.WideShapes Go.ChangeAt Go.RowKit Go.Shelf
open SQ SB
set_option linter.unusedVariables false
set_option linter.unusedSimpArgs false
attribute [local go_sem] Oper.semAt_some
open RG (Rg)

/-- The first addresses of the pages from f to t, which are p large. -/
def stF (f t p : Nat) : List Nat := (List.range ((t - f + p - 1) / p)).map fun i => f + i * p
def sts (r : Rg) : List Nat := stF r.f r.t (stp r.k)
theorem stF_len (f t p : Nat) : (stF f t p).length = (t - f + p - 1) / p := by simp [stF]
theorem stF_lt (f t p k : Nat) (hp : 0 < p) : k < (stF f t p).length ↔ f + k * p < t := by
  rw [stF_len, ← Nat.succ_le_iff, Nat.le_div_iff_mul_le hp, Nat.succ_mul]
  omega
theorem stF_at (f t p k : Nat) (h : k < (stF f t p).length) : (stF f t p)[k]? = some (f + k * p) := by
  rw [stF_len] at h
  simp [stF, h]

set_option maxRecDepth 100000 in
set_option maxHeartbeats 1000000 in
theorem starts_any (r : Rg) (w : World) :
    Calls Tryz.prog 59 #[ra r] w fun e w' => e = .returned (.func (.func 104) #[] #[.pointer (some ⟨w.heap.size, 0, none⟩)]) ∧ w' = w.alloc (.cells #[.int .u64 (r.f : Int), .int .u64 (r.t : Int), .int .i64 r.p, .int .i64 r.k] 55) := by
  simp only [ra]
  go_enter Tryz.func59, Tryz.ntmps59
  go_wp2
  go_ret
  exact ⟨rfl, rfl⟩

set_option maxRecDepth 100000 in
set_option maxHeartbeats 4000000 in
theorem starts_gives (S : List Nat) (f t b1 : Nat) (p s : Int) (ht : t < 281474976710656) (hb : b1 ∉ S) :
    GivesB Tryz.prog 104 #[.pointer (some ⟨b1, 0, none⟩)] (fun va : Nat => #[.int .u64 (va : Int)]) S (fun W => RB W b1 ⟨f, t, p, s⟩) (stF f t (stp s)) := by
  intro lp J Jx W hIt hJ hJx hY h0
  have hL := W_hid (stF_lt f t (stp s))
  have hA := W_hid (stF_at f t (stp s))
  obtain ⟨P, hP⟩ : ∃ P, stp s = P := ⟨_, rfl⟩
  have hp0 : 0 < P := by rw [← hP]; exact stp_pos s
  have hp1 : P ≤ 2097152 := by rw [← hP]; exact stp_le s
  have hSt := W_hid (fun w => step_any s w)
  rw [hP] at hL hA hSt hY ⊢
  obtain ⟨xs, hxs⟩ : ∃ xs, stF f t P = xs := ⟨_, rfl⟩
  rw [hxs] at hL hA hY ⊢
  have hI := W_hid hIt
  obtain ⟨y0, y1, y2, y3⟩ := hIt.re
  clear hIt hP hxs
  refine callsIn_of_wp Tryz.func104 rfl trivial ?_ rfl
  simp only [Tryz.ntmps104, List.size_toArray, List.length_cons, List.length_nil, Nat.reduceAdd, Nat.reduceSub, Array.replicate_succ, Array.replicate_zero, List.push_toArray, List.append_toArray, List.nil_append, List.cons_append]
  gi_wp2
  gi_loopw [3] (fun i wr => ∃ k : Nat, k ≤ xs.length ∧ i = .int .u64 ((f + k * P : Nat) : Int) ∧ W.heap.size ≤ wr.heap.size ∧ Hid (RB wr b1 ⟨f, t, p, s⟩) ∧ J k wr)
    (fun i _ => t + P - (intOf i).toNat)
  case atStart => exact ⟨0, Nat.zero_le _, by rw [Nat.zero_mul, Nat.add_zero], Nat.le_refl _, hI, h0⟩
  case round =>
    obtain ⟨k, hk, rfl, hsz, hM, hJs⟩ := hrel
    obtain ⟨u0, u1, u2, u3⟩ := hM.out.re
    have hlk := W_hid (hL.out k hp0)
    obtain ⟨va, hva⟩ : ∃ va, f + k * P = va := ⟨_, rfl⟩
    rw [hva] at hlk ⊢
    by_cases hlt : va < t
    · have k1 : k < xs.length := hlk.out.2 hlt
      have hx := hA.out k k1
      rw [hva] at hx
      obtain ⟨fn, tmps, assign, body, hy, hR⟩ := hY k va wr hx hJs hsz
      have hnx : Hid (f + (k + 1) * P = va + P) := by show _ = _; rw [Nat.succ_mul, ← Nat.add_assoc, hva]
      clear hx hva
      gi_wp2
      refine ⟨rfl, ?_⟩
      refine hR.mono ?_
      rintro e W3 (⟨rfl, hJ3, hk3⟩ | ⟨rfl, hJx3, -⟩)
      · have hs3 := hk3.size
        have hM3 : Hid (RB W3 b1 ⟨f, t, p, s⟩) := W_hid (Blk.but hM.out hk3 hb)
        obtain ⟨v0, v1, v2, v3⟩ := hM3.out.re
        clear hk3 hR u0 u1 u2 u3
        gi_wp2
        refine ⟨trivial, rfl, ?_⟩
        refine (fit_wide (hSt.out _)).mono ?_
        rintro e w2 ⟨rfl, rfl⟩
        gi_wp2
        go_roundw
        case rel => exact ⟨k + 1, k1, by rw [hnx.out]; go_num, by omega, hM3, hJ3⟩
        case measure => simp [intOf]; omega
      · clear hR
        gi_wp2
        refine bodyPost_ret (results_none rfl _ _ _) rfl ?_
        exact ⟨⟨_, rfl⟩, .inr ⟨_, k1, hJx3⟩⟩
    · obtain rfl : k = xs.length := by
        have hge : ¬ k < xs.length := fun h => hlt (hlk.out.1 h)
        omega
      clear hva
      gi_wp2
      go_end0
      exact ⟨⟨_, rfl⟩, .inl hJs⟩
end Go.Proofs.YtkomahekdcaiaaaGreatDoor

/- Contracts of package space's tree: lift. -/
namespace Go.Proofs.YtkomahekdcaiaaaGreatDoor
open Go.ChangeShapes Go.WideShapes Go.ChangeAt Go.RowKit
set_option linter.unusedVariables false
set_option linter.unusedSimpArgs false

/-- How many frames a page of a kind of regions has. -/
def stq (kind : Int) : Nat := if kind = 1 then 512 else 1
theorem stp_stq (kind : Int) : (stp kind = 2097152 ∧ stq kind = 512) ∨ (stp kind = 4096 ∧ stq kind = 1) := by
  unfold stp stq
  by_cases h : kind = 1
  · left; rw [if_pos h, if_pos h]; exact ⟨rfl, rfl⟩
  · right; rw [if_neg h, if_neg h]; exact ⟨rfl, rfl⟩
/-- A space's tree as a value. -/
def trv (g pg : Nat) : Value := .agg #[.pointer (some ⟨g, 0, none⟩), .pointer (some ⟨pg, 0, none⟩)]

def Lift1 (g pg pb n m r b : Nat) (F' : RX.Tabs) (G' : RX.Pags) (T2 : Nat → Bool) (w : World) (e : Ending) (w' : World) : Prop :=
  e = .returned (.tuple #[]) ∧ (∃ M', Full w' g pg pb n m T2 r b M' F' G') ∧ But [pg, pb, b] w w'

set_option maxRecDepth 100000 in
set_option maxHeartbeats 2000000 in
theorem lift_any (g pg pb n m r b va x f : Nat) (p kind : Int) (hu : Bool) (e : Nat) (T T' T2 : Nat → Bool) (M : Nat → Option (Nat → Nat)) (F F' : RX.Tabs) (G G' : RX.Pags) (w : World) (h : Full w g pg pb n m T r b M F G) (hva : va < 140737488355328)
    (hR : UnmapR F G T va 0 (mapL x f p hu) F' G' T') (hf : f < 18446744073709551616) (hP : FR.Puts T' n f (stq kind : Int) e T2) (htk : Tk F' T2) :
    Calls Tryz.prog 85 #[trv g pg, .int .u64 (va : Int), .int .i64 kind] w fun e w' => Lift1 g pg pb n m r b F' G' T2 w e w' := by
  simp only [trv]
  obtain ⟨P, hPP⟩ : ∃ P, stp kind = P := ⟨_, rfl⟩
  obtain ⟨Q, hQQ⟩ : ∃ Q, stq kind = Q := ⟨_, rfl⟩
  have hpq := stp_stq kind
  have hSt := W_hid (fun w => step_any kind w)
  rw [hPP, hQQ] at hpq
  rw [hPP] at hSt
  rw [hQQ] at hP
  have H := W_hid h
  have hlts := W_hid h.lts
  have hUn := W_hid (fun w h => Unmap_yes g pg pb n m r b va 0 (mapL x f p hu) T T' M F F' G G' w h hva hR)
  have hFr := W_hid (fun w h => Free_any pg pb n m f T' T2 (Q : Int) e w h hf hP)
  have htk := W_hid htk
  simp only [mapL] at hUn
  clear h hR hP hPP hQQ
  go_enter Tryz.func85, Tryz.ntmps85
  go_wp2_with fail
  have hb1 : Below w.heap.size w (w.alloc (.cells #[.pointer (some ⟨g, 0, none⟩), .pointer (some ⟨pg, 0, none⟩)] 92)) := (Below.refl _ _).alloc (Nat.le_refl _) _
  refine (hUn.out _ (H.out.keep hb1)).mono ?_
  rintro e w1 ⟨rfl, ⟨M1, hF1⟩, hB1⟩
  have hl := hlts.out
  have hT1 : Blk w1 w.heap.size 92 [.pointer (some ⟨g, 0, none⟩), .pointer (some ⟨pg, 0, none⟩)] := (Blk.new w _ [.pointer (some ⟨g, 0, none⟩), .pointer (some ⟨pg, 0, none⟩)] rfl).but hB1 (by simp; omega)
  have hs1 := hB1.size
  rw [World.size_alloc] at hs1
  have hBw : Hid (But [pg, pb, b] w w1) := W_hid ((But.of hb1).trans hB1)
  replace hF1 := W_hid hF1
  have t0 := hT1.cell (j := 0) rfl
  have t1 := hT1.cell (j := 1) rfl
  clear hB1 hb1 hUn
  go_wp2_with fail
  obtain ⟨W, hW⟩ : ∃ W, w1.alloc (.cells #[.int .u64 (x : Int), .int .u64 (f : Int), .int .i64 p, .bool hu] 59) = W := ⟨_, rfl⟩
  have hFW : Hid (Full W g pg pb n m T' r b M1 F' G') := W_hid (by rw [← hW]; exact hF1.out.keep ((Below.refl _ _).alloc (Nat.le_refl _) _))
  have hTW : Blk W w.heap.size 92 [.pointer (some ⟨g, 0, none⟩), .pointer (some ⟨pg, 0, none⟩)] := by rw [← hW]; exact hT1.alloc _
  have hMW : Blk W w1.heap.size 59 [.int .u64 (x : Int), .int .u64 (f : Int), .int .i64 p, .bool hu] := by rw [← hW]; exact Blk.new _ _ [.int .u64 (x : Int), .int .u64 (f : Int), .int .i64 p, .bool hu] rfl
  have hBW : Hid (But [pg, pb, b] w W) := W_hid (by rw [← hW]; exact hBw.out.alloc _)
  rw [hW]
  have hC : Hid (∀ w', Two pg pb W.drew w' → w'.cell? ⟨w.heap.size, 1, none⟩ = some (.pointer (some ⟨pg, 0, none⟩)) ∧ w'.cell? ⟨w1.heap.size, 1, none⟩ = some (.int .u64 (f : Int))) := W_hid (fun w' t =>
    ⟨(hTW.two (Two.undrew t) (by omega) (by omega)).cell (j := 1) rfl, (hMW.two (Two.undrew t) (by omega) (by omega)).cell (j := 1) rfl⟩)
  have hC0 := hC.out _ (Two.refl pg pb _)
  have hCW : W.cell? ⟨w.heap.size, 1, none⟩ = some (.pointer (some ⟨pg, 0, none⟩)) ∧ W.cell? ⟨w1.heap.size, 1, none⟩ = some (.int .u64 (f : Int)) := hC0
  have hFr2 := W_hid (hFr.out W.drew (hFW.out.keep (w' := W.drew) ⟨rfl, rfl, rfl, Nat.le_refl _, fun _ _ => rfl⟩).tt.pl)
  have hres : Hid (∀ w', PL w' pg pb n m T2 → Two pg pb W.drew w' → (∃ M', Full w' g pg pb n m T2 r b M' F' G') ∧ But [pg, pb, b] w w') := W_hid (fun w' hp t =>
    ⟨⟨M1, hFW.out.tt.pool hp (Two.undrew t), hFW.out.inv, hFW.out.rep, htk.out⟩, hBW.out.trans (But.two (Two.undrew t) (by simp) (by simp))⟩)
  clear hW hF1 hBw hFW hTW hMW hBW t0 t1 hT1 hs1 hl hlts H hFr htk
  rcases hpq with ⟨rfl, rfl⟩ | ⟨rfl, rfl⟩
  · go_region_held3 (fun w' => w'.cell? ⟨w.heap.size, 1, none⟩ = some (.pointer (some ⟨pg, 0, none⟩)) ∧ w'.cell? ⟨w1.heap.size, 1, none⟩ = some (.int .u64 (f : Int)))
      (first | (with_reducible exact hC0) | (with_reducible exact hCW) | (with_reducible exact hC4))
      (first
        | (go_at_call 52; refine (hSt.out _).mono ?_; rintro e w3 ⟨rfl, rfl⟩)
        | (go_at_call 129; refine hFr2.out.mono ?_; rintro e w4 ⟨rfl, hP4, t4⟩; have hC4 := hC.out _ t4; have hR4 := W_hid (hres.out _ hP4 t4); clear hP4 t4))
    go_end0
    exact ⟨rfl, hR4.out⟩
  · go_region_held3 (fun w' => w'.cell? ⟨w.heap.size, 1, none⟩ = some (.pointer (some ⟨pg, 0, none⟩)) ∧ w'.cell? ⟨w1.heap.size, 1, none⟩ = some (.int .u64 (f : Int)))
      (first | (with_reducible exact hC0) | (with_reducible exact hCW) | (with_reducible exact hC4))
      (first
        | (go_at_call 52; refine (hSt.out _).mono ?_; rintro e w3 ⟨rfl, rfl⟩)
        | (go_at_call 129; refine hFr2.out.mono ?_; rintro e w4 ⟨rfl, hP4, t4⟩; have hC4 := hC.out _ t4; have hR4 := W_hid (hres.out _ hP4 t4); clear hP4 t4))
    go_end0
    exact ⟨rfl, hR4.out⟩
end Go.Proofs.YtkomahekdcaiaaaGreatDoor

/- Contracts of package space's tree: the function that lay defers. -/
namespace Go.Proofs.YtkomahekdcaiaaaGreatDoor
open Go.ChangeShapes Go.WideShapes Go.ChangeAt Go.RowKit
set_option linter.unusedVariables false
set_option linter.unusedSimpArgs false

set_option maxRecDepth 100000 in
set_option maxHeartbeats 1000000 in
theorem layd_none (be bt bf bn : Nat) (w : World) (hc : w.cell? ⟨be, 0, none⟩ = some (.int .i64 0)) :
    CallsD Tryz.prog 137 #[.pointer (some ⟨be, 0, none⟩), .pointer (some ⟨bt, 0, none⟩), .pointer (some ⟨bf, 0, none⟩), .pointer (some ⟨bn, 0, none⟩)] .returning w fun e u' w' => u' = .returning ∧ e = .returned (.tuple #[]) ∧ w' = w := by
  go_enter_d Tryz.func137, Tryz.ntmps137
  go_wp2
  go_end0
  exact ⟨rfl, rfl⟩

set_option maxRecDepth 100000 in
set_option maxHeartbeats 1000000 in
theorem layd_some (be bt bf bn g pg pb n m a : Nat) (c q : Int) (e0 : Nat) (T T' : Nat → Bool) (w : World) (hc : w.cell? ⟨be, 0, none⟩ = some (.int .i64 c)) (hn : c ≠ 0) (ht : w.cell? ⟨bt, 1, none⟩ = some (.pointer (some ⟨pg, 0, none⟩)))
    (hf : w.cell? ⟨bf, 0, none⟩ = some (.int .u64 (a : Int))) (hq : w.cell? ⟨bn, 0, none⟩ = some (.int .i64 q)) (hp : PL w pg pb n m T) (ha : a < 18446744073709551616) (hP : FR.Puts T n a q e0 T') :
    CallsD Tryz.prog 137 #[.pointer (some ⟨be, 0, none⟩), .pointer (some ⟨bt, 0, none⟩), .pointer (some ⟨bf, 0, none⟩), .pointer (some ⟨bn, 0, none⟩)] .returning w fun e u' w' => u' = .returning ∧ e = .returned (.tuple #[]) ∧ PL w' pg pb n m T' ∧ Two pg pb w w' := by
  have hFr := W_hid (Free_any pg pb n m a T T' q e0 w hp ha hP)
  have d1 : decide (c = 0) = false := decide_eq_false hn
  clear hp hP
  go_enter_d Tryz.func137, Tryz.ntmps137
  go_wp2_with fail
  refine hFr.out.mono ?_
  rintro e w' ⟨rfl, hP4, t4⟩
  replace hP4 := W_hid hP4
  replace t4 := W_hid t4
  go_wp2
  go_end0
  exact ⟨rfl, hP4.out, t4.out⟩
end Go.Proofs.YtkomahekdcaiaaaGreatDoor

/- Contracts of package space's tree: lay. -/
namespace Go.Proofs.YtkomahekdcaiaaaGreatDoor
open Go.ChangeShapes Go.WideShapes Go.ChangeAt Go.RowKit
set_option linter.unusedVariables false
set_option linter.unusedSimpArgs false

theorem stq_run (kind : Int) : FR.Run (stq kind) := by
  rcases stp_stq kind with ⟨-, h⟩ | ⟨-, h⟩
  · rw [h]; exact ⟨9, by omega, rfl⟩
  · rw [h]; exact ⟨0, by omega, rfl⟩
theorem puts_back {T : Nat → Bool} {n q a : Nat} (hq : FR.Run q) (h : FR.Low T n q a) : FR.Puts (FR.st T a q true) n a (q : Int) 0 T :=
  .inr (.inr (.inr ⟨rfl, q, rfl, hq, h.1, h.2.1, FR.st_in T a q true, (FR.st_back T a q true false h.2.2.1).symm⟩))
theorem tk_st {F : RX.Tabs} {T : Nat → Bool} (h : Tk F T) (a q : Nat) : Tk F (FR.st T a q true) := fun l j f hf => by
  unfold FR.st
  split
  · rfl
  · exact h l j f hf

/-- What lay leaves. -/
def Lay1 (g pg pb n m r b : Nat) (c : Int) (T1 : Nat → Bool) (F1 : RX.Tabs) (G1 : RX.Pags) (w : World) (e : Ending) (w' : World) : Prop :=
  e = .returned (.int .i64 c) ∧ (∃ M', Full w' g pg pb n m T1 r b M' F1 G1) ∧ But [pg, pb, b] w w'

set_option maxRecDepth 100000 in
set_option maxHeartbeats 2000000 in
/-- There are no frames. -/
theorem lay_no (g pg pb n m r b va : Nat) (p kind : Int) (T : Nat → Bool) (M : Nat → Option (Nat → Nat)) (F : RX.Tabs) (G : RX.Pags) (w : World) (h : Full w g pg pb n m T r b M F G) (hno : FR.NoLow T n (stq kind)) :
    Calls Tryz.prog 95 #[trv g pg, .int .u64 (va : Int), .int .i64 p, .int .i64 kind] w fun e w' => Lay1 g pg pb n m r b 24 T F G w e w' := by
  simp only [trv]
  have hrun := stq_run kind
  obtain ⟨P, hPP⟩ : ∃ P, stp kind = P := ⟨_, rfl⟩
  obtain ⟨Q, hQQ⟩ : ∃ Q, stq kind = Q := ⟨_, rfl⟩
  have hpq := stp_stq kind
  have hSt := W_hid (fun w => step_any kind w)
  rw [hPP, hQQ] at hpq
  rw [hPP] at hSt
  rw [hQQ] at hno hrun
  have H := W_hid h
  have hlts := W_hid h.lts
  have hAl := W_hid (fun w h => Alloc_any pg pb n m T T (Q : Int) 0 24 w h (.inr (.inl ⟨rfl, rfl, rfl, Q, rfl, hrun, hno⟩)))
  clear h hPP hQQ hno hrun
  rcases hpq with ⟨rfl, rfl⟩ | ⟨rfl, rfl⟩ <;> (
    go_enter_defers Tryz.func95, Tryz.ntmps95
    go_wp2_with (go_at_call 52; refine (hSt.out _).mono ?_; rintro e w3 ⟨rfl, rfl⟩)
    refine calls_world (fun W => Full W g pg pb n m T r b M F G ∧ Blk W (w.heap.size + 1) 29 [.int .i64 0] ∧ Below w.heap.size w W)
      ⟨H.out.keep ((((Below.refl _ _).alloc (Nat.le_refl _) _).alloc (by simp) _).alloc (by simp; omega) _), (Blk.new (w.alloc _) _ [.int .i64 0] (by simp)).alloc _, (((Below.refl _ _).alloc (Nat.le_refl _) _).alloc (by simp) _).alloc (by simp; omega) _⟩ ?_
    rintro W ⟨hF, hE, hbel⟩
    refine (hAl.out _ hF.tt.pl).mono ?_
    rintro e w1 ⟨rfl, hP1, t1⟩
    have hl := hlts.out
    have hs1 := t1.size
    have hE1 := hE.two t1 (by omega) (by omega)
    have hF1 : Hid (Full w1 g pg pb n m T r b M F G ∧ But [pg, pb, b] w w1) := W_hid ⟨⟨hF.tt.pool hP1 t1, hF.inv, hF.rep, hF.tk⟩, (But.of hbel).trans (But.two t1 (by simp) (by simp))⟩
    have hlt := hE.lt
    have hlt1 := hE1.lt
    have c1 := hE1.cell (j := 0) rfl
    have f1 := hE1.fz
    replace hE1 := W_hid hE1
    clear hF hE hbel hP1 t1 H hAl
    go_wp2_with fail
    have hZ := ((hE1.out.set 0 (.int .i64 24)).set 0 (.int .i64 24)).alloc (.cells #[.int .u64 0] 36)
    have hcell := hZ.cell (j := 0) rfl
    have hfin := W_hid (show (∃ M', Full (((w1.setCell ⟨w.heap.size + 1, 0, none⟩ (.int .i64 24)).setCell ⟨w.heap.size + 1, 0, none⟩ (.int .i64 24)).alloc (.cells #[.int .u64 0] 36)) g pg pb n m T r b M' F G) ∧
        But [pg, pb, b] w (((w1.setCell ⟨w.heap.size + 1, 0, none⟩ (.int .i64 24)).setCell ⟨w.heap.size + 1, 0, none⟩ (.int .i64 24)).alloc (.cells #[.int .u64 0] 36)) from
      ⟨⟨M, ((hF1.out.1.far (y := w.heap.size + 1) (j := 0) _ (by omega) (by omega) (by omega) (by omega) (by omega)).far (y := w.heap.size + 1) (j := 0) _ (by omega) (by omega) (by omega) (by omega) (by omega)).keep ((Below.refl _ _).alloc (Nat.le_refl _) _)⟩,
        ((hF1.out.2.set (.inr (by show _ ≤ w.heap.size + 1; omega)) _).set (.inr (by show _ ≤ w.heap.size + 1; omega)) _).alloc _⟩)
    clear hZ hE1 hF1
    simp [bodyPostD, Leaves, settle, results, Tryz.results95, go_sem, hcell]
    exact ⟨rfl, hfin.out⟩)

set_option maxRecDepth 100000 in
set_option maxHeartbeats 4000000 in
/-- There are frames. -/
theorem lay_yes (g pg pb n m r b va a : Nat) (p kind c : Int) (T T1 : Nat → Bool) (M : Nat → Option (Nat → Nat)) (F F1 : RX.Tabs) (G G1 : RX.Pags) (w : World) (h : Full w g pg pb n m T r b M F G) (hlow : FR.Low T n (stq kind) a)
    (hMap : ∀ w, Full w g pg pb n m (FR.st T a (stq kind) true) r b M F G →
      Calls Tryz.prog 138 #[.pointer (some ⟨g, 0, none⟩), .agg #[.int .u64 (va : Int), .int .u64 (a : Int), .int .i64 p, .bool (kind == 1)]] w (fun e w' => e = .returned (.int .i64 c) ∧ (∃ M', Full w' g pg pb n m T1 r b M' F1 G1) ∧ But [pg, pb, b] w w'))
    (T2 : Nat → Bool) (htk : Tk F1 T2) (hc : (c = 0 ∧ T2 = T1) ∨ (c ≠ 0 ∧ FR.Puts T1 n a (stq kind : Int) 0 T2)) :
    Calls Tryz.prog 95 #[trv g pg, .int .u64 (va : Int), .int .i64 p, .int .i64 kind] w fun e w' => Lay1 g pg pb n m r b c T2 F1 G1 w e w' := by
  simp only [trv]
  have hrun := stq_run kind
  have hmf : ∀ (fn : Fn) (first cap : Array Value) (w : World), (Instr.makeFunc fn first cap).run Tryz.prog w = .ok (.func fn first cap) w := fun _ _ _ _ => rfl
  obtain ⟨P, hPP⟩ : ∃ P, stp kind = P := ⟨_, rfl⟩
  obtain ⟨Q, hQQ⟩ : ∃ Q, stq kind = Q := ⟨_, rfl⟩
  have hpq := stp_stq kind
  have hSt := W_hid (fun w => step_any kind w)
  rw [hPP, hQQ] at hpq
  rw [hPP] at hSt
  rw [hQQ] at hlow hrun hMap hc
  obtain ⟨z, hz⟩ : ∃ z : Int, z = (Q : Int) := ⟨_, rfl⟩
  rw [← hz] at hc
  have H := W_hid h
  have hlts := W_hid h.lts
  have hn2 := h.tt.pl.n2
  have ha : a < 18446744073709551616 := by have := hlow.2.1; omega
  have hAl := W_hid (fun w h => Alloc_any pg pb n m T (FR.st T a Q true) (Q : Int) a 0 w h (.inr (.inr ⟨rfl, Q, rfl, hrun, hlow, rfl⟩)))
  have htk1 := W_hid (tk_st h.tk a Q)
  replace hMap := W_hid hMap
  replace htk := W_hid htk
  replace hc := W_hid hc
  clear h hPP hQQ hlow hrun hn2
  rcases hpq with ⟨rfl, rfl⟩ | ⟨rfl, rfl⟩ <;> (
    go_enter_defers Tryz.func95, Tryz.ntmps95
    go_wp2_with (go_at_call 52; refine (hSt.out _).mono ?_; rintro e w3 ⟨rfl, rfl⟩)
    refine calls_world (fun W => Full W g pg pb n m T r b M F G ∧ (Blk W w.heap.size 92 [.pointer (some ⟨g, 0, none⟩), .pointer (some ⟨pg, 0, none⟩)] ∧ Blk W (w.heap.size + 1) 29 [.int .i64 0] ∧ Blk W (w.heap.size + 1 + 1) 3 [.int .i64 z]) ∧ Below w.heap.size w W)
      ⟨H.out.keep ((((Below.refl _ _).alloc (Nat.le_refl _) _).alloc (by simp) _).alloc (by simp; omega) _),
        ⟨((Blk.new w _ [.pointer (some ⟨g, 0, none⟩), .pointer (some ⟨pg, 0, none⟩)] rfl).alloc _).alloc _, (Blk.new (w.alloc _) _ [.int .i64 0] (by simp)).alloc _, by rw [hz]; exact Blk.new ((w.alloc _).alloc _) _ _ (by simp)⟩,
        (((Below.refl _ _).alloc (Nat.le_refl _) _).alloc (by simp) _).alloc (by simp; omega) _⟩ ?_
    rintro W ⟨hF, ⟨hT, hE, hN⟩, hbel⟩
    refine (hAl.out _ hF.tt.pl).mono ?_
    rintro e w1 ⟨rfl, hP1, t1⟩
    have hl := hlts.out
    have hs1 := t1.size
    have hlt := hN.lt
    have hT1 := hT.two t1 (by omega) (by omega)
    have hE1 := hE.two t1 (by omega) (by omega)
    have hN1 := hN.two t1 (by omega) (by omega)
    have hlt1 := hN1.lt
    have hltE := hE1.lt
    have hltT := hT1.lt
    have hF1 : Hid (Full w1 g pg pb n m (FR.st T a _ true) r b M F G ∧ But [pg, pb, b] w w1) := W_hid ⟨⟨hF.tt.pool hP1 t1, hF.inv, hF.rep, htk1.out⟩, (But.of hbel).trans (But.two t1 (by simp) (by simp))⟩
    have c1 := hE1.cell (j := 0) rfl
    have f1 := hE1.fz
    have u0 := hT1.cell (j := 0) rfl
    replace hE1 := W_hid hE1
    replace hT1 := W_hid hT1
    replace hN1 := W_hid hN1
    clear hF hE hT hN hbel hP1 t1 H hAl htk1
    go_wp2_with fail
    refine calls_world (fun W2 => Full W2 g pg pb n m (FR.st T a _ true) r b M F G ∧ (Blk W2 w.heap.size 92 [.pointer (some ⟨g, 0, none⟩), .pointer (some ⟨pg, 0, none⟩)] ∧ Blk W2 (w.heap.size + 1) 29 [.int .i64 0] ∧ Blk W2 (w.heap.size + 1 + 1) 3 [.int .i64 z] ∧ Blk W2 w1.heap.size 36 [.int .u64 (a : Int)]) ∧ But [pg, pb, b] w W2)
      ⟨(hF1.out.1.far (y := w.heap.size + 1) (j := 0) _ (by omega) (by omega) (by omega) (by omega) (by omega)).keep ((Below.refl _ _).alloc (Nat.le_refl _) _),
        ⟨(hT1.out.far (by show _ ≠ w.heap.size + 1; omega) _).alloc _, (hE1.out.set 0 (.int .i64 0)).alloc _, (hN1.out.far (by show _ ≠ w.heap.size + 1; omega) _).alloc _, Blk.new _ _ [.int .u64 (a : Int)] (by simp [World.setCell])⟩,
        (hF1.out.2.set (.inr (by show _ ≤ w.heap.size + 1; omega)) _).alloc _⟩ ?_
    clear hF1 hT1 hE1 hN1 c1 f1 u0
    rintro W2 ⟨hF2, ⟨hT2, hE2, hN2, hA2⟩, hB2⟩
    refine (hMap.out _ hF2).mono ?_
    rintro e w3 ⟨rfl, hF3, hB3⟩
    have hlA := hA2.lt
    have hT3 := hT2.but hB3 (by simp; omega)
    have hE3 := hE2.but hB3 (by simp; omega)
    have hN3 := hN2.but hB3 (by simp; omega)
    have hA3 := hA2.but hB3 (by simp; omega)
    have hltE3 := hE3.lt
    have e3 := hE3.cell (j := 0) rfl
    have f3 := hE3.fz
    have hF3 := W_hid hF3
    have hB3 := W_hid (hB2.trans hB3)
    replace hE3 := W_hid hE3
    replace hT3 := W_hid hT3
    replace hN3 := W_hid hN3
    replace hA3 := W_hid hA3
    clear hF2 hT2 hE2 hN2 hA2 hB2 hMap
    go_wp2
    have hT4 := hT3.out.far (p := ⟨w.heap.size + 1, 0, none⟩) (by show _ ≠ w.heap.size + 1; omega) (.int .i64 c)
    have hE4 := hE3.out.set 0 (.int .i64 c)
    have hN4 := hN3.out.far (p := ⟨w.heap.size + 1, 0, none⟩) (by show _ ≠ w.heap.size + 1; omega) (.int .i64 c)
    have hA4 := hA3.out.far (p := ⟨w.heap.size + 1, 0, none⟩) (by show _ ≠ w.heap.size + 1; omega) (.int .i64 c)
    obtain ⟨M3, hF3'⟩ := hF3.out
    have hF4 := hF3'.far (y := w.heap.size + 1) (j := 0) (.int .i64 c) (by omega) (by omega) (by omega) (by omega) (by omega)
    have hB4 := hB3.out.set (p := ⟨w.heap.size + 1, 0, none⟩) (.inr (by show _ ≤ w.heap.size + 1; omega)) (.int .i64 c)
    refine leaves_cons (f := 137) (args := #[.pointer (some ⟨w.heap.size + 1, 0, none⟩), .pointer (some ⟨w.heap.size, 0, none⟩), .pointer (some ⟨w1.heap.size, 0, none⟩), .pointer (some ⟨w.heap.size + 1 + 1, 0, none⟩)]) (by simp) (by simp [go_sem]) ?_
    rcases hc.out with ⟨rfl, rfl⟩ | ⟨hc0, hPt⟩
    · refine (layd_none (w.heap.size + 1) w.heap.size w1.heap.size (w.heap.size + 1 + 1) _ (hE4.cell (j := 0) rfl)).mono ?_
      rintro e u' w'' ⟨rfl, rfl, rfl⟩
      have hcell := hE4.cell (j := 0) rfl
      have hfin := W_hid (show (∃ M', Full (w3.setCell ⟨w.heap.size + 1, 0, none⟩ (.int .i64 0)) g pg pb n m T2 r b M' F1 G1) ∧ But [pg, pb, b] w (w3.setCell ⟨w.heap.size + 1, 0, none⟩ (.int .i64 0)) from ⟨⟨M3, hF4⟩, hB4⟩)
      clear hT4 hE4 hN4 hA4 hF4 hB4 hF3 hF3' hB3
      simp [Leaves, settle, results, Tryz.results95, go_sem, hcell]
      exact ⟨rfl, hfin.out⟩
    · refine (layd_some (w.heap.size + 1) w.heap.size w1.heap.size (w.heap.size + 1 + 1) g pg pb n m a c z 0 T1 T2 _ (hE4.cell (j := 0) rfl) hc0 (hT4.cell (j := 1) rfl) (hA4.cell (j := 0) rfl) (hN4.cell (j := 0) rfl) hF4.tt.pl ha hPt).mono ?_
      rintro e u' w'' ⟨rfl, rfl, hP5, t5⟩
      have hcell := (hE4.two t5 (by omega) (by omega)).cell (j := 0) rfl
      have hfin := W_hid (show (∃ M', Full w'' g pg pb n m T2 r b M' F1 G1) ∧ But [pg, pb, b] w w'' from ⟨⟨M3, hF4.tt.pool hP5 t5, hF4.inv, hF4.rep, htk.out⟩, hB4.trans (But.two t5 (by simp) (by simp))⟩)
      clear hT4 hE4 hN4 hA4 hF4 hB4 hF3 hF3' hB3 hP5 t5
      simp [Leaves, settle, results, Tryz.results95, go_sem, hcell]
      exact ⟨rfl, hfin.out⟩)
end Go.Proofs.YtkomahekdcaiaaaGreatDoor

/- lay, whatever its arguments. -/
namespace Go.Proofs.YtkomahekdcaiaaaGreatDoor
open Go.ChangeShapes Go.WideShapes Go.ChangeAt Go.RowKit
set_option linter.unusedVariables false
set_option linter.unusedSimpArgs false

/-- What becomes of a tree where a page is laid: nothing, or frames of its own and a page. -/
def LayR (n : Nat) (T : Nat → Bool) (F : RX.Tabs) (G : RX.Pags) (va : Nat) (p kind c : Int) (T1 : Nat → Bool) (F1 : RX.Tabs) (G1 : RX.Pags) : Prop :=
  (c ≠ 0 ∧ T1 = T ∧ F1 = F ∧ G1 = G) ∨
  (c = 0 ∧ ∃ a, FR.Low T n (stq kind) a ∧ EN.right false (kind == 1) p a (lv (kind == 1) : Nat) ∧ MapR F G (FR.st T a (stq kind) true) n va (lv (kind == 1)) a p 0 F1 G1 T1 ∧ va % EN.sz (lv (kind == 1) - 1) = 0 ∧ va < 140737488355328)

theorem spMapR_cases {F F' : RX.Tabs} {G G' : RX.Pags} {T T' : Nat → Bool} {n va l f : Nat} {p c : Int} (h : MapR F G T n va l f p c F' G' T') : c = 0 ∨ (c ≠ 0 ∧ F' = F ∧ G' = G ∧ T' = T) := by
  cases h with
  | busy L fr hd hp => exact .inr ⟨by decide, rfl, rfl, rfl⟩
  | full L fr hd hp fs hl ht hn => exact .inr ⟨by decide, rfl, rfl, rfl⟩
  | done L fr hd hp fs hl ht => exact .inl rfl

theorem lay_all (g pg pb n m r b va : Nat) (p kind : Int) (T : Nat → Bool) (M : Nat → Option (Nat → Nat)) (F : RX.Tabs) (G : RX.Pags) (w : World) (h : Full w g pg pb n m T r b M F G) (hva : va < 18446744073709551616) :
    ∃ (c : Int) (T1 : Nat → Bool) (F1 : RX.Tabs) (G1 : RX.Pags),
      Calls Tryz.prog 95 #[trv g pg, .int .u64 (va : Int), .int .i64 p, .int .i64 kind] w (fun e w' => Lay1 g pg pb n m r b c T1 F1 G1 w e w') ∧ LayR n T F G va p kind c T1 F1 G1 := by
  rcases FR.low_or T n (stq kind) with ⟨a, hlow⟩ | hno
  · have hn2 := h.tt.pl.n2
    have ha : a < 18446744073709551616 := by have := hlow.2.1; omega
    have hlv := lv_le (kind == 1)
    by_cases hok : EN.right false (kind == 1) p a (lv (kind == 1) : Nat) ∧ va % EN.sz (lv (kind == 1) - 1) = 0 ∧ va < 140737488355328
    · obtain ⟨hr, hs, hv⟩ := hok
      obtain ⟨c, F1, G1, T1, hR⟩ := mapR_some h.inv (FR.st T a (stq kind) true) va (lv (kind == 1)) a p hv (by omega) (by omega)
      have hM := fun w hF => Map_yes g pg pb n m r b va a (kind == 1) p c (FR.st T a (stq kind) true) T1 M F F1 G G1 w hF hv hr hs hR
      rcases spMapR_cases hR with rfl | ⟨h1, h2, h3, h4⟩
      · have htk : Tk F1 T1 := by
          cases hR with
          | done L fr hd hp fs hl ht => exact tk_add fs (tk_st h.tk a (stq kind))
        exact ⟨0, T1, F1, G1, lay_yes g pg pb n m r b va a p kind 0 T T1 M F F1 G G1 w h hlow hM T1 htk (.inl ⟨rfl, rfl⟩), .inr ⟨rfl, a, hlow, hr, hR, hs, hv⟩⟩
      · subst h2 h3 h4
        exact ⟨c, T, _, _, lay_yes g pg pb n m r b va a p kind c T _ M _ _ _ _ w h hlow hM T h.tk (.inr ⟨h1, puts_back (stq_run kind) hlow⟩), .inl ⟨h1, rfl, rfl, rfl⟩⟩
    · have hM := fun w (hF : Full w g pg pb n m (FR.st T a (stq kind) true) r b M F G) => (Map_arg g pg r b va a (kind == 1) p M w hF.tt.tm ha hva hok).mono (fun e w' hh =>
        show e = .returned (.int .i64 2) ∧ (∃ M', Full w' g pg pb n m (FR.st T a (stq kind) true) r b M' F G) ∧ But [pg, pb, b] w w' from ⟨hh.1, ⟨M, hF.keep hh.2⟩, But.of hh.2⟩)
      exact ⟨2, T, F, G, lay_yes g pg pb n m r b va a p kind 2 T _ M F F G G w h hlow hM T h.tk (.inr ⟨by decide, puts_back (stq_run kind) hlow⟩), .inl ⟨by decide, rfl, rfl, rfl⟩⟩
  · exact ⟨24, T, F, G, lay_no g pg pb n m r b va p kind T M F G w h hno, .inl ⟨by decide, rfl, rfl, rfl⟩⟩
end Go.Proofs.YtkomahekdcaiaaaGreatDoor

/- Contracts of package space: none, and the calls of a space that is none. -/
namespace Go.Proofs.YtkomahekdcaiaaaGreatDoor
open Go.ChangeShapes Go.WideShapes Go.ChangeAt Go.RowKit Go.Shelf
set_option linter.unusedVariables false
set_option linter.unusedSimpArgs false
attribute [local go_sem] Oper.semAt_some

/-- A space's own block. -/
abbrev SpB (w : World) (s : Nat) (tp pp rs : Value) : Prop := Blk w s 94 [tp, pp, rs]

theorem spNone_nil (w : World) : Calls Tryz.prog 42 #[.pointer none] w fun e w' => e = .returned (.bool true) ∧ w = w' := by
  go_enter Tryz.func42, Tryz.ntmps42
  go_wp2
  go_ret
  exact ⟨rfl, rfl⟩
theorem spNone_gone (s : Nat) (pp rs : Value) (w : World) (h : SpB w s (.pointer none) pp rs) : Calls Tryz.prog 42 #[.pointer (some ⟨s, 0, none⟩)] w fun e w' => e = .returned (.bool true) ∧ w = w' := by
  have c0 := h.cell (j := 0) rfl
  clear h
  go_enter Tryz.func42, Tryz.ntmps42
  go_wp2
  go_ret
  exact ⟨rfl, rfl⟩
theorem spNone_no (s g : Nat) (pp rs : Value) (w : World) (h : SpB w s (.pointer (some ⟨g, 0, none⟩)) pp rs) : Calls Tryz.prog 42 #[.pointer (some ⟨s, 0, none⟩)] w fun e w' => e = .returned (.bool false) ∧ w = w' := by
  have c0 := h.cell (j := 0) rfl
  clear h
  go_enter Tryz.func42, Tryz.ntmps42
  go_wp2
  go_ret
  exact ⟨rfl, rfl⟩

/-- A space that is none. -/
def Gone (v : Value) (w : World) : Prop := Calls Tryz.prog 42 #[v] w fun e w' => e = .returned (.bool true) ∧ w = w'

theorem Mmap_none (v : Value) (size : Nat) (perm : Int) (huge : Bool) (w : World) (h : Gone v w) :
    Calls Tryz.prog 28 #[v, .int .u64 (size : Int), .int .i64 perm, .bool huge] w fun e w' => e = .returned (.tuple #[.int .u64 0, .int .i64 1]) ∧ w = w' := by
  have hN := W_hid h
  clear h
  go_enter Tryz.func28, Tryz.ntmps28
  go_wp2_with fail
  refine (show Calls _ _ _ _ _ from hN.out).mono ?_
  rintro e w1 ⟨rfl, rfl⟩
  go_wp2
  go_ret2
  exact ⟨rfl, rfl⟩
theorem Munmap_none (v : Value) (va size : Nat) (w : World) (h : Gone v w) :
    Calls Tryz.prog 29 #[v, .int .u64 (va : Int), .int .u64 (size : Int)] w fun e w' => e = .returned (.int .i64 1) ∧ w = w' := by
  have hN := W_hid h
  clear h
  go_enter Tryz.func29, Tryz.ntmps29
  go_wp2_with fail
  refine (show Calls _ _ _ _ _ from hN.out).mono ?_
  rintro e w1 ⟨rfl, rfl⟩
  go_wp2
  go_ret
  exact ⟨rfl, rfl⟩
theorem Brk_none (v : Value) (pages : Int) (w : World) (h : Gone v w) :
    Calls Tryz.prog 31 #[v, .int .i64 pages] w fun e w' => e = .returned (.tuple #[.int .i64 0, .int .i64 1]) ∧ w = w' := by
  have hN := W_hid h
  clear h
  go_enter Tryz.func31, Tryz.ntmps31
  go_wp2_with fail
  refine (show Calls _ _ _ _ _ from hN.out).mono ?_
  rintro e w1 ⟨rfl, rfl⟩
  go_wp2
  go_ret2
  exact ⟨rfl, rfl⟩
theorem Walk_none (v : Value) (va : Nat) (want : Int) (w : World) (h : Gone v w) :
    Calls Tryz.prog 24 #[v, .int .u64 (va : Int), .int .i64 want] w fun e w' => e = .returned (.tuple #[.int .u64 0, .int .i64 1]) ∧ w = w' := by
  have hN := W_hid h
  clear h
  go_enter Tryz.func24, Tryz.ntmps24
  go_wp2_with fail
  refine (show Calls _ _ _ _ _ from hN.out).mono ?_
  rintro e w1 ⟨rfl, rfl⟩
  go_wp2
  go_ret2
  exact ⟨rfl, rfl⟩
theorem Regions_none (v : Value) (w : World) (h : Gone v w) :
    Calls Tryz.prog 17 #[v] w fun e w' => e = .returned (.slice none 0 0) ∧ w = w' := by
  have hN := W_hid h
  clear h
  go_enter Tryz.func17, Tryz.ntmps17
  go_wp2_with fail
  refine (show Calls _ _ _ _ _ from hN.out).mono ?_
  rintro e w1 ⟨rfl, rfl⟩
  go_wp2
  go_ret
  exact ⟨rfl, rfl⟩
theorem Pages_none (v : Value) (w : World) (h : Gone v w) :
    Calls Tryz.prog 19 #[v] w fun e w' => e = .returned (.slice none 0 0) ∧ w = w' := by
  have hN := W_hid h
  clear h
  go_enter Tryz.func19, Tryz.ntmps19
  go_wp2_with fail
  refine (show Calls _ _ _ _ _ from hN.out).mono ?_
  rintro e w1 ⟨rfl, rfl⟩
  go_wp2
  go_ret
  exact ⟨rfl, rfl⟩
theorem Drop_none (v : Value) (w : World) (h : Gone v w) :
    Calls Tryz.prog 26 #[v] w fun e w' => e = .returned (.int .i64 1) ∧ w = w' := by
  have hN := W_hid h
  clear h
  go_enter Tryz.func26, Tryz.ntmps26
  go_wp2_with fail
  refine (show Calls _ _ _ _ _ from hN.out).mono ?_
  rintro e w1 ⟨rfl, rfl⟩
  go_wp2
  go_ret
  exact ⟨rfl, rfl⟩
end Go.Proofs.YtkomahekdcaiaaaGreatDoor

/- A region that draws its order, within a round of a range over a function: it is walked as anywhere. Free of any program's numbers. -/
namespace Go.Proofs.YtkomahekdcaiaaaGreatDoor
open Go.RowKit Go.Shelf
set_option linter.unusedVariables false
set_option linter.unusedSimpArgs false
namespace SQ
variable {P : Program} {ops : Array Oper} {Q : Exit → Act → World → Prop} {md : Region.Mode} {l : Nat}

def noDefer (ops : Array Oper) : Bool := ops.all fun o => match o.op with | .defer _ => false | _ => true
theorem noDefer_at (h : noDefer ops = true) {i : Nat} {o : Oper} (ho : ops[i]? = some o) : ∀ c, o.op ≠ .defer c := fun c e => by
  have h1 := (Array.all_eq_true_iff_forall_mem.1 h) o (Array.mem_of_getElem? ho)
  rw [e] at h1
  cases h1

theorem op_round (hd : noDefer ops = true) (hQ : ¬ LetsOut Q) {i : Nat} {K : Act → World → Prop} {a : Act} {w : World} (h : wpOp P ops Q i K a w) : wpOpIn (Fence.wide.inRound l) 0 P ops Q i K a w := by
  unfold wpOp at h
  unfold wpOpIn
  cases ho : ops[i]? with
  | none => simpa [ho] using h
  | some o =>
    simp only [ho] at h ⊢
    by_cases hw : Region.wanted o (yielded ops a.tmps) = true
    · rw [if_pos hw] at h ⊢
      rcases h with h | ⟨_, h⟩
      · refine ⟨fun _ _ => trivial, ?_⟩
        rw [Oper.semAt_eq _ _ _ (noDefer_at hd ho)]
        unfold Oper.wp at h
        generalize (execOp a.eval o).run P w = r at h ⊢
        cases r with
        | ok x w' =>
          cases x with
          | value v => exact h
          | skip => exact h
          | defer d => exact h
          | enter f args => exact ⟨fun e => (by cases e), callsIn_wide.2 h⟩
          | row row args => exact ⟨fun e => (by cases e), fun c cs _ => let ⟨v, w2, r, s⟩ := h c cs; ⟨v, w2, r, stepsIn_wide.2 s⟩⟩
          | _ => exact h.elim
        | halt x w' => cases x <;> exact h
      · exact absurd h hQ
    · rw [if_neg hw] at h ⊢
      exact ⟨fun _ _ => trivial, h⟩
theorem any_round (hd : noDefer ops = true) (hQ : ¬ LetsOut Q) : ∀ (fuel : Nat) (ls : Array Bool) (a : Act) (w : World), wpAny P md ops Q fuel ls a w → wpAnyIn (Fence.wide.inRound l) 0 P md ops Q fuel ls a w
  | 0, _, _, _, h => h
  | fuel + 1, _, _, _, h => ⟨h.1, fun i hi => op_round hd hQ (wpOp_mono (fun a' w' h' => any_round hd hQ fuel _ a' w' h') (h.2 i hi))⟩
/-- The region, in a round: from its walk over the operations. -/
theorem region_round {S : World → Prop} {id : Nat} {a : Act} {w : World} (hm : P.follows .mixedOrders = true) (hd : noDefer ops = true) (hQ : ¬ LetsOut Q) (hS : S w.drew)
    (h : S w.drew → wpAnyH P .any ops Q S ops.size (Array.replicate ops.size false) a w.drew) : (Code.region id ops true).wpIn (Fence.wide.inRound l) 0 P Q a w :=
  wpIn_region_any hm (any_round hd hQ _ _ _ _ (wpAny_of_held _ _ _ _ (h hS)))
end SQ
end Go.Proofs.YtkomahekdcaiaaaGreatDoor

/- The steps of a walk over a region that draws, with what is always asked left to tactics. Free of any program. -/
namespace Go.Proofs.YtkomahekdcaiaaaGreatDoor
open Go.ChangeShapes Go.WideShapes Go.ChangeAt Go.RowKit
set_option linter.unusedVariables false

section
variable {P : Program} {ops : Array Oper} {Q : Exit → Act → World → Prop} {md : Region.Mode} {S : World → Prop}
/-- An operation that is wanted, taken first. -/
theorem wt {i : Nat} {v : Value} {oi : Oper} {fuel : Nat} {listed ls : Array Bool} {a a' : Act} {w : World} (hS : S w) (h : wpAnyH P md ops Q S fuel ls a' w)
    (hi : ops[i]? = some oi := by rfl) (hs : Region.noSelect ops = true := by kernel_rfl) (hf : Region.free md ops listed i = true := by kernel_rfl) (hr : (Region.ready md ops listed).contains i = true := by kernel_rfl)
    (hQ : ∀ c a w, Q (.panic c) (a.put oi.dst v) w → Q (.panic c) a w := by exact fun _ _ _ h => h)
    (hw : Region.wanted oi (yielded ops a.tmps) = true := by rfl)
    (hv : ∀ w, S w → (execOp a.eval oi).run P w = .ok (.value v) w := by (intro w0 hs; repeat (obtain ⟨hq, hs⟩ := hs)); go_simp)
    (hl : listed.setIfInBounds i true = ls := by (first | (simp only [List.setIfInBounds_toArray, List.set_cons_zero, List.set_cons_succ]; try rfl) | rfl))
    (ha : a.put oi.dst v = a' := by (first | (simp only [Act.put, List.setIfInBounds_toArray, List.set_cons_zero, List.set_cons_succ, List.getElem_toArray, List.getElem_cons_zero, List.getElem_cons_succ]; try rfl) | rfl)) : wpAnyH P md ops Q S (fuel + 1) listed a w :=
  wpAnyH_take hi hs hf hr hQ (.inl ⟨hw, hv⟩) hS (by rw [hl, ha]; exact h)
end
end Go.Proofs.YtkomahekdcaiaaaGreatDoor

/- Contracts of package space: a tree's pages lifted one behind the other; what ranges leave behind them. -/
namespace Go.Proofs.YtkomahekdcaiaaaGreatDoor
open Go.ChangeShapes Go.WideShapes Go.ChangeAt Go.RowKit Go.Shelf
open SQ SB
set_option linter.unusedVariables false
set_option linter.unusedSimpArgs false
open RG (Rg)

/-- Pool, tables, pages. -/
structure TS where
  T : Nat → Bool
  F : RX.Tabs
  G : RX.Pags
/-- A space's tree in memory. -/
def FS (g pg pb n m r b : Nat) (S : TS) (w : World) : Prop := ∃ M, Full w g pg pb n m S.T r b M S.F S.G
section
variable {g pg pb n m r b B : Nat} {S S' : TS} {w w' : World}
theorem Full.low {M : Nat → Option (Nat → Nat)} {T : Nat → Bool} {F : RX.Tabs} {G : RX.Pags} (h : Full w g pg pb n m T r b M F G) (hb : Below B w w') (hB : g < B ∧ pg < B ∧ pb < B ∧ b < B ∧ 0 < B) : Full w' g pg pb n m T r b M F G :=
  ⟨⟨⟨h.tt.tm.box.below hb hB.1, h.tt.tm.mb.heap (hb.block b hB.2.2.2.1), h.tt.tm.kt.below hb hB.2.2.2.2⟩, h.tt.pl.below hb hB.2.1 hB.2.2.1, h.tt.g1, h.tt.g2, h.tt.g3, h.tt.b1, h.tt.b2, h.tt.k0, h.tt.k1, h.tt.k2, h.tt.k3⟩, h.inv, h.rep, h.tk⟩
theorem FS.low (h : FS g pg pb n m r b S w) (hb : Below B w w') (hB : g < B ∧ pg < B ∧ pb < B ∧ b < B ∧ 0 < B) : FS g pg pb n m r b S w' := h.elim fun M h => ⟨M, h.low hb hB⟩
theorem FS.lts (h : FS g pg pb n m r b S w) : g < w.heap.size ∧ pg < w.heap.size ∧ pb < w.heap.size ∧ b < w.heap.size ∧ 0 < w.heap.size := h.elim fun M h => h.lts
theorem FS.keep (h : FS g pg pb n m r b S w) (hb : Below w.heap.size w w') : FS g pg pb n m r b S w' := h.low hb h.lts
theorem FS.drewN (h : FS g pg pb n m r b S w) (k : Nat) : FS g pg pb n m r b S (w.drewN k) := h.keep ⟨rfl, rfl, rfl, Nat.le_refl _, fun _ _ => rfl⟩
theorem FS.drew (h : FS g pg pb n m r b S w) : FS g pg pb n m r b S w.drew := h.keep ⟨rfl, rfl, rfl, Nat.le_refl _, fun _ _ => rfl⟩

/-- A page is lifted. -/
def LiftR (n : Nat) (kind : Int) (va : Nat) (S S' : TS) : Prop :=
  va < 140737488355328 ∧ ∃ (x f : Nat) (p : Int) (hu : Bool) (e : Nat) (T' : Nat → Bool), UnmapR S.F S.G S.T va 0 (mapL x f p hu) S'.F S'.G T' ∧ f < 18446744073709551616 ∧ FR.Puts T' n f (stq kind : Int) e S'.T ∧ Tk S'.F S'.T
theorem lift_S {kind : Int} {va : Nat} (h : FS g pg pb n m r b S w) (hR : LiftR n kind va S S') :
    Calls Tryz.prog 85 #[trv g pg, .int .u64 (va : Int), .int .i64 kind] w fun e w' => e = .returned (.tuple #[]) ∧ FS g pg pb n m r b S' w' ∧ But [pg, pb, b] w w' := by
  obtain ⟨M, h⟩ := h
  obtain ⟨hva, x, f, p, hu, e, T', h1, h2, h3, h4⟩ := hR
  exact lift_any g pg pb n m r b va x f p kind hu e S.T T' S'.T M S.F S'.F S.G S'.G w h hva h1 h2 h3 h4
/-- Pages, one behind the other. -/
def LiftsR (n : Nat) (kind : Int) (xs : List Nat) (S S' : TS) : Prop := ∃ Z : Nat → TS, Z 0 = S ∧ Z xs.length = S' ∧ ∀ i va, xs[i]? = some va → LiftR n kind va (Z i) (Z (i + 1))
/-- Parts of regions, one behind the other. -/
def VacR (n : Nat) (X : List Rg) (S S' : TS) : Prop := ∃ Z : Nat → TS, Z 0 = S ∧ Z X.length = S' ∧ ∀ i x, X[i]? = some x → x.t < 281474976710656 ∧ LiftsR n x.k (sts x) (Z i) (Z (i + 1))
end

/-- What a range leaves in a frame. -/
def mkD (D : Nat) : Deferred := { target := .collected D, args := #[] }
theorem leaves_marks {P : Program} {fn : Func} {tmps : Array Value} {R : Ending → World → Prop} : ∀ (Ds : List Nat) (B : Nat) (w : World), (∀ D ∈ Ds, B ≤ D ∧ w.heap[D]? = some (.deferred (some []))) → Ds.Nodup →
    (∀ w', Below B w w' → ∃ v, (results fn tmps).run P w' = .ok v w' ∧ R (.returned v) w') → LeavesInM Fence.wide 0 P fn tmps R (Ds.map mkD) .returning w
  | [], B, w, h, hn, hR => hR w (Below.refl _ _)
  | D :: Ds, B, w, h, hn, hR => by
    have h0 := h D (List.mem_cons_self ..)
    refine ⟨by simp, .inl ⟨D, _, rfl, run_takeDeferred h0.2, ?_⟩⟩
    refine leaves_marks Ds B _ (fun D' hD' => ?_) (List.nodup_cons.1 hn).2 (fun w' hb => hR w' ((below_put _ h0.1).trans hb))
    have hne : D' ≠ D := fun e => (List.nodup_cons.1 hn).1 (e ▸ hD')
    exact ⟨(h D' (List.mem_cons_of_mem _ hD')).1, (World.putObj_heap_other hne).trans (h D' (List.mem_cons_of_mem _ hD')).2⟩

theorem enters_starts : ∀ args w, (callFunc 104 args).run Tryz.prog w = .ok (.enter 104 args) w :=
  enters_of Tryz.func104 (by kernel_rfl) rfl
theorem RS.but {w w' : World} {ao : Option Addr} {n cap : Nat} {l : List Rg} {S : List Nat} (h : RS w ao n cap l) (hb : But S w w') (hS : ∀ a, ao = some a → a.block ∉ S) : RS w' ao n cap l := by
  refine ⟨h.1, h.2.1, h.2.2.1, h.2.2.2.1, fun a ha j u hu => ?_⟩
  have hc := h.2.2.2.2 a ha j u hu
  rw [World.cell?_of_block (w := w) (a := a.add j) (hb.block _ (World.block_lt_of_cell? w _ hc) (by cases j <;> exact hS a ha))]
  exact hc
end Go.Proofs.YtkomahekdcaiaaaGreatDoor

/- Contracts of package space: vacate. -/
namespace Go.Proofs.YtkomahekdcaiaaaGreatDoor
open Go.ChangeShapes Go.WideShapes Go.ChangeAt Go.RowKit Go.Shelf
open SQ SB
set_option linter.unusedVariables false
set_option linter.unusedSimpArgs false
attribute [local go_sem] Oper.semAt_some
open RG (Rg)

/-- What stands between two regions. -/
structure VI (g pg pb n m r b s : Nat) (w : World) (Zk : TS) (Ds : List Nat) (wr : World) : Prop where
  fs : FS g pg pb n m r b Zk wr
  bt : But [pg, pb, b] w wr
  bx : Blk wr w.heap.size 25 [.pointer (some ⟨s, 0, none⟩)]
  ds : ∀ D ∈ Ds, w.heap.size + 1 ≤ D ∧ wr.heap[D]? = some (.deferred (some []))
  nd : Ds.Nodup
theorem VI.on {g pg pb n m r b s : Nat} {w wr w2 : World} {Z1 Z2 : TS} {Ds : List Nat} (h : VI g pg pb n m r b s w Z1 Ds wr) (hl : pg < w.heap.size ∧ pb < w.heap.size ∧ b < w.heap.size) (hb : But [pg, pb, b] wr w2) (hf : FS g pg pb n m r b Z2 w2) : VI g pg pb n m r b s w Z2 Ds w2 :=
  ⟨hf, h.bt.trans hb, h.bx.but hb (by simp; omega), fun D hD => ⟨(h.ds D hD).1, (hb.block D (Array.getElem?_eq_some_iff.1 (h.ds D hD).2).1 (by have := (h.ds D hD).1; simp; omega)).trans (h.ds D hD).2⟩, h.nd⟩
/-- In a range over a part's pages. -/
def RI (g pg pb n m r b : Nat) (Y : Nat → TS) (W : World) (j : Nat) (V : World) : Prop := FS g pg pb n m r b (Y j) V ∧ But [pg, pb, b] W V

set_option maxRecDepth 100000 in
set_option maxHeartbeats 4000000 in
theorem vacate_any (g pg pb n m r b s nn cap : Nat) (ao : Option Addr) (rows : Value) (X : List Rg) (S S' : TS) (w : World) (h : FS g pg pb n m r b S w) (hs : SpB w s (.pointer (some ⟨g, 0, none⟩)) (.pointer (some ⟨pg, 0, none⟩)) rows) (hsn : s ≠ pg ∧ s ≠ pb ∧ s ≠ b)
    (hX : RS w ao nn cap X) (ha : ∀ a, ao = some a → a.block ≠ pg ∧ a.block ≠ pb ∧ a.block ≠ b) (hV : VacR n X S S') :
    Calls Tryz.prog 48 #[.pointer (some ⟨s, 0, none⟩), .slice ao nn cap] w fun e w' => e = .returned (.tuple #[]) ∧ FS g pg pb n m r b S' w' ∧ But [pg, pb, b] w w' := by
  obtain ⟨Z, hZ0, hZ1, hZ⟩ := hV
  have hlts := h.lts
  have hsl := hs.lt
  have hlen := hX.1
  refine wide_fit ?_
  refine callsIn_of_wp_marks Tryz.func48 rfl trivial ?_ rfl
  simp only [Tryz.ntmps48, List.size_toArray, List.length_cons, List.length_nil, Nat.reduceAdd, Nat.reduceSub, Array.replicate_succ, Array.replicate_zero, List.push_toArray, List.append_toArray, List.nil_append, List.cons_append]
  gi_wp2
  refine wpIn_loop (fun a' wr => ∃ (k : Nat) (Ds : List Nat) (u5 u6 u10 u11 u12 u13 u14 u15 u16 u17 u18 u19 u20 u21 u22 u23 u24 : Value), a' = { tmps := #[.pointer (some ⟨s, 0, none⟩), .slice ao nn cap, .pointer (some ⟨w.heap.size, 0, none⟩), undef, undef, u5, u6, .slice ao nn cap, .int .i64 (nn : Int), .int .i64 (k : Int), u10, u11, u12, u13, u14, u15, u16, u17, u18, u19, u20, u21, u22, u23, u24], defers := Ds.map mkD } ∧ k ≤ nn ∧ Hid (VI g pg pb n m r b s w (Z k) Ds wr))
    (fun a' _ => nn + 1 - (intOf (a'.tmps.getD 9 undef)).toNat) ?start ?round
  case start =>
    refine ⟨0, [], undef, undef, undef, undef, undef, undef, undef, undef, undef, undef, undef, undef, undef, undef, undef, undef, undef, rfl, Nat.zero_le _, W_hid ?_⟩
    have hb := (Below.refl w.heap.size w).alloc (Nat.le_refl _) (.cells #[.pointer (some ⟨s, 0, none⟩)] 25)
    exact ⟨hZ0 ▸ h.keep hb, But.of hb, Blk.new w _ [.pointer (some ⟨s, 0, none⟩)] rfl, fun D hD => absurd hD (List.not_mem_nil), List.nodup_nil⟩
  case round =>
    rintro a' wr ⟨k, Ds, u5, u6, u10, u11, u12, u13, u14, u15, u16, u17, u18, u19, u20, u21, u22, u23, u24, rfl, hk, hV⟩
    by_cases hlt : k < nn
    · have hXr : RS wr ao nn cap X := hX.but hV.out.bt (fun a e => by have := ha a e; simp [this])
      obtain ⟨blk, off, hao, hblk, hat⟩ := hXr.at_ (by omega)
      subst hao
      have hat := hat k hlt
      obtain ⟨⟨f, t, p, kd⟩, hx⟩ : ∃ x, X[k]'(by omega) = x := ⟨_, rfl⟩
      rw [hx] at hat
      obtain ⟨x0, x1, x2, x3⟩ := hat
      obtain ⟨ht, Y, hY0, hY1, hY⟩ := hZ k ⟨f, t, p, kd⟩ (by rw [← hx]; exact List.getElem?_eq_getElem (by omega))
      simp only at ht hY
      replace hY := W_hid hY
      have hSt := W_hid (fun w => starts_any ⟨f, t, p, kd⟩ w)
      simp only [ra] at hSt
      replace hX := W_hid hX
      replace hXr := W_hid hXr
      gi_wp2
      refine ⟨trivial, rfl, ?_⟩
      refine (fit_wide (hSt.out _)).mono ?_
      rintro e w2 ⟨rfl, rfl⟩
      gi_wp2
      obtain ⟨W, hW⟩ : ∃ W, (wr.alloc (.cells #[.int .u64 (f : Int), .int .u64 (t : Int), .int .i64 p, .int .i64 kd] 55)).alloc (.cells #[.int .u64 (f : Int), .int .u64 (t : Int), .int .i64 p, .int .i64 kd] 55) = W := ⟨_, rfl⟩
      have hWs : W.heap.size = wr.heap.size + 2 := by rw [← hW]; simp
      have hWb : Below wr.heap.size wr W := by rw [← hW]; exact ((Below.refl _ _).alloc (Nat.le_refl _) _).alloc (by simp) _
      have hW1 : RB W wr.heap.size ⟨f, t, p, kd⟩ := by rw [← hW]; exact (Blk.new wr _ [.int .u64 (f : Int), .int .u64 (t : Int), .int .i64 p, .int .i64 kd] rfl).alloc _
      have hW2 : RB W (wr.heap.size + 1) ⟨f, t, p, kd⟩ := by rw [← hW]; exact Blk.new _ _ [.int .u64 (f : Int), .int .u64 (t : Int), .int .i64 p, .int .i64 kd] (by simp)
      have hVW : VI g pg pb n m r b s w (Z k) Ds W := hV.out.on ⟨hlts.2.1, hlts.2.2.1, hlts.2.2.2.1⟩ (But.of hWb) (hV.out.fs.keep hWb)
      have hws := hV.out.bt.size
      have hltw := hV.out.fs.lts
      have hsW : SpB W s (.pointer (some ⟨g, 0, none⟩)) (.pointer (some ⟨pg, 0, none⟩)) rows := hs.but hVW.bt (by simp [hsn])
      rw [hW]
      clear hW x0 x1 x2 x3 hSt hXr hX hV
      replace hVW := W_hid hVW
      refine range_givesB (gf := 104) rfl enters_starts (starts_gives [pg, pb, b] f t (wr.heap.size + 1) p kd ht (by simp; omega)) (fun W' hb => Blk.keep hW2 hb) (fun x hx => by simp at hx; omega) (fun _ => rfl)
        (RI g pg pb n m r b Y W) (fun c j V => False)
        (fun j V V' hI hb => ⟨hI.1.low hb (by omega), hI.2.low hb⟩) (fun c j V V' hI hb => hI) ⟨by rw [hY0]; exact hVW.out.fs, But.refl _ _⟩
        (fun mm va a' V => a' = { tmps := #[.pointer (some ⟨s, 0, none⟩), .slice (some ⟨blk, off, none⟩) nn cap, .pointer (some ⟨w.heap.size, 0, none⟩), undef, undef, .pointer (some ⟨wr.heap.size, 0, none⟩), .int .u64 (va : Int), .slice (some ⟨blk, off, none⟩) nn cap, .int .i64 (nn : Int), .int .i64 (k : Int), .bool true, .pointer (some ⟨blk, off + k * 4, none⟩), .agg #[.int .u64 (f : Int), .int .u64 (t : Int), .int .i64 p, .int .i64 kd], .agg #[.int .u64 (f : Int), .int .u64 (t : Int), .int .i64 p, .int .i64 kd], .func (.func 104) #[] #[.pointer (some ⟨wr.heap.size + 1, 0, none⟩)], .int .u64 (va : Int), u16, u17, u18, u19, u20, u21, u22, u23, u24], defers := [] })
        (fun mm va a' => fun _ _ _ _ hh _ _ => hh)
        ?assign ?body ?done ?stop
      case assign =>
        rintro lq j va V K hsz hI hK
        have hKn := hK _ _ (But.refl _ _) hI rfl
        gi_wp2
        exact hKn
      case body =>
        rintro lq j va a' mm V hxj hm hmV hI rfl
        have hL := W_hid (fun w' h => lift_S (g := g) (pg := pg) (pb := pb) (m := m) (r := r) (b := b) (w := w') h (hY.out j va hxj))
        simp only [trv] at hL
        have hvV := hVW.out.bx.but hI.2 (by simp; omega)
        have c0 := hvV.cell (j := 0) rfl
        have hsV := hsW.but hI.2 (by simp [hsn])
        have s0 := hsV.cell (j := 0) rfl
        have s1 := hsV.cell (j := 1) rfl
        have rV := Blk.but hW1 hI.2 (by simp; omega)
        have r3 := rV.cell (j := 3) rfl
        replace hI := W_hid hI
        have hst := W_hid (fun w3 (hb4 : But [pg, pb, b] V w3) => show w3.cell? ⟨w.heap.size, 0, none⟩ = some (.pointer (some ⟨s, 0, none⟩)) ∧ w3.cell? ⟨s, 0, none⟩ = some (.pointer (some ⟨g, 0, none⟩)) ∧ w3.cell? ⟨s, 1, none⟩ = some (.pointer (some ⟨pg, 0, none⟩)) ∧ w3.cell? ⟨wr.heap.size, 3, none⟩ = some (.int .i64 kd) from
          ⟨(hvV.but hb4 (by simp; omega)).cell (j := 0) rfl, (hsV.but hb4 (by simp [hsn])).cell (j := 0) rfl, (hsV.but hb4 (by simp [hsn])).cell (j := 1) rfl, (Blk.but rV hb4 (by simp; omega)).cell (j := 3) rfl⟩)
        clear hvV hsV rV hW1 hW2 hxj hY ha hat hx hs h hsW hZ
        gi_wp2
        refine SQ.region_round (S := fun w' => w'.cell? ⟨w.heap.size, 0, none⟩ = some (.pointer (some ⟨s, 0, none⟩)) ∧ w'.cell? ⟨s, 0, none⟩ = some (.pointer (some ⟨g, 0, none⟩)) ∧ w'.cell? ⟨s, 1, none⟩ = some (.pointer (some ⟨pg, 0, none⟩)) ∧ w'.cell? ⟨wr.heap.size, 3, none⟩ = some (.int .i64 kd))
          (by kernel_rfl) (by kernel_rfl) (by rintro ⟨_, _, h⟩; exact h) ⟨c0, s0, s1, r3⟩ (fun hHeld => ?_)
        refine wt (i := 0) (v := .pointer (some ⟨s, 0, none⟩)) hHeld ?_
        refine wt (i := 1) (v := .pointer (some ⟨s, 0, none⟩)) hHeld ?_
        refine wt (i := 2) (v := .pointer (some ⟨s, 0, none⟩)) hHeld ?_
        refine wt (i := 3) (v := .agg #[.pointer (some ⟨g, 0, none⟩), .pointer (some ⟨pg, 0, none⟩)]) hHeld ?_
        refine wt (i := 4) (v := .int .u64 (va : Int)) hHeld ?_
        refine wt (i := 5) (v := .pointer (some ⟨wr.heap.size, 3, none⟩)) hHeld ?_
        refine wt (i := 6) (v := .int .i64 kd) hHeld ?_
        refine wpAnyH_ready (rs := [7]) (by kernel_rfl) (by simp) (AllReadyH.cons rfl (fun K' hK => ?_) AllReadyH.nil)
        go_simp
        refine (hL.out _ (hI.out.1.drew)).mono ?_
        rintro e w3 ⟨rfl, hf3, hb3⟩
        have hb4 : But [pg, pb, b] V w3 := hb3.undrew (n := 1)
        refine hK.out _ _ ?_ (fun _ => wpAnyH_done (by kernel_rfl) ?_ _)
        · exact hst.out _ hb4
        · gi_wp2
          exact ⟨(BN.refl _ hmV).then hb4, hf3, hI.out.2.trans hb4⟩
      case done =>
        rintro D V hD hI hkp hK
        have hkm : k < 9223372036854775807 := by
          have h1 := hXr.2.1
          have h2 := hXr.2.2.1
          unfold maxLen at h2
          omega
        have hFS : FS g pg pb n m r b (Z (k + 1)) V := by rw [← hY1]; exact hI.1
        have hVD := hVW.out.on ⟨hlts.2.1, hlts.2.2.1, hlts.2.2.2.1⟩ hkp hFS
        have hV2 : VI g pg pb n m r b s w (Z (k + 1)) (D :: Ds) V := ⟨hVD.fs, hVD.bt, hVD.bx, fun D' hD' => by
          rcases List.mem_cons.1 hD' with rfl | hm
          · exact ⟨by omega, hK⟩
          · exact hVD.ds D' hm, List.nodup_cons.2 ⟨fun hm => by
            have := (Array.getElem?_eq_some_iff.1 (hVW.out.ds D hm).2).1
            omega, hVD.nd⟩⟩
        clear hVD hFS hI hkp hVW hW1 hW2 hsW hat hx ha hY hs h hZ
        gi_wp2
        have hwr : (k : Int) + 1 = ((k + 1 : Nat) : Int) := by omega
        rw [hwr]
        refine ⟨⟨k + 1, D :: Ds, _, _, _, _, _, _, _, _, _, _, _, _, _, _, _, _, _, rfl, by omega, W_hid hV2⟩, ?_⟩
        simp [intOf]
        omega
      case stop =>
        rintro D c j V hD hj hI hK
        exact hI.elim
    · have hkk : k = nn := by omega
      subst hkk
      gi_wp2
      refine leaves_marks Ds (w.heap.size + 1) _ hV.out.ds hV.out.nd (fun w' hb => ⟨_, results_none rfl _ _ _, rfl, ?_, hV.out.bt.low ⟨hb.os, hb.tape, hb.output, hb.size, fun j hj => hb.block j (by omega)⟩⟩)
      rw [← hZ1, hlen]
      exact hV.out.fs.low hb (by omega)
end Go.Proofs.YtkomahekdcaiaaaGreatDoor

/- Mprotect of a space that is none. -/
namespace Go.Proofs.YtkomahekdcaiaaaGreatDoor
open Go.ChangeShapes Go.WideShapes Go.ChangeAt Go.RowKit Go.Shelf
set_option linter.unusedVariables false
set_option linter.unusedSimpArgs false
attribute [local go_sem] Oper.semAt_some

set_option maxRecDepth 100000 in
set_option maxHeartbeats 1000000 in
theorem Mprotect_none (po : Option Addr) (va size : Nat) (perm : Int) (w : World) (h : ∀ w', Below w.heap.size w w' → Gone (.pointer po) w') :
    Calls Tryz.prog 30 #[.pointer po, .int .u64 (va : Int), .int .u64 (size : Int), .int .i64 perm] w fun e w' => e = .returned (.int .i64 1) ∧ Below w.heap.size w w' := by
  have hb1 : Below w.heap.size w ((w.alloc (.cells #[.pointer po] 25)).alloc (.cells #[.int .i64 perm] 3)) := ((Below.refl _ _).alloc (Nat.le_refl _) _).alloc (by simp) _
  have hN := W_hid (h _ hb1)
  have hb1 := W_hid hb1
  clear h
  refine wide_fit ?_
  refine callsIn_of_wp_marks Tryz.func30 rfl trivial ?_ rfl
  simp only [Tryz.ntmps30, List.size_toArray, List.length_cons, List.length_nil, Nat.reduceAdd, Nat.reduceSub, Array.replicate_succ, Array.replicate_zero, List.push_toArray, List.append_toArray, List.nil_append, List.cons_append]
  gi_wp2
  refine ⟨trivial, rfl, ?_⟩
  refine (fit_wide (show Calls _ _ _ _ _ from hN.out)).mono ?_
  rintro e w1 ⟨rfl, rfl⟩
  gi_wp2
  exact ⟨_, results_tmp rfl _ _ _, rfl, hb1.out⟩
end Go.Proofs.YtkomahekdcaiaaaGreatDoor

/- What goes over the iterators: first, gather. -/
namespace Go.Proofs.YtkomahekdcaiaaaGreatDoor
open Go.ChangeShapes Go.WideShapes Go.ChangeAt Go.RowKit Go.Shelf
open SQ
set_option linter.unusedVariables false
set_option linter.unusedSimpArgs false
attribute [local go_sem] Oper.semAt_some
open RG (Rg)

/-- What an iterator has captured lies there. -/
structure ML (ao : Option Addr) (n cap : Nat) (l : List Rg) (lo hi b1 b2 b3 : Nat) (w : World) : Prop where
  x1 : Blk w b1 41 [.slice ao n cap]
  x2 : Blk w b2 36 [.int .u64 (lo : Int)]
  x3 : Blk w b3 36 [.int .u64 (hi : Int)]
  rs : RS w ao n cap l
  sn : ∀ a, ao = some a → 0 < n → a.block < w.heap.size
theorem ML.keep {ao : Option Addr} {n cap : Nat} {l : List Rg} {lo hi b1 b2 b3 : Nat} {w w' : World} (h : ML ao n cap l lo hi b1 b2 b3 w) (hb : Below w.heap.size w w') : ML ao n cap l lo hi b1 b2 b3 w' :=
  ⟨h.x1.keep hb, h.x2.keep hb, h.x3.keep hb, h.rs.below hb (Nat.le_refl _), fun a e e' => Nat.lt_of_lt_of_le (h.sn a e e') hb.size⟩
theorem ML.ma {ao : Option Addr} {n cap : Nat} {l : List Rg} {lo hi b1 b2 b3 q : Nat} {w : World} (h : ML ao n cap l lo hi b1 b2 b3 w) (h1 : b1 ≠ q) (h2 : b2 ≠ q) (h3 : b3 ≠ q) (ha : ∀ a, ao = some a → 0 < n → a.block ≠ q) (hr : rowOf w q = none) : MA q ao n cap l lo hi b1 b2 b3 w :=
  ⟨⟨h.x1, h.x1.lt, h1, by rw [hr]; simp⟩, ⟨h.x2, h.x2.lt, h2, by rw [hr]; simp⟩, ⟨h.x3, h.x3.lt, h3, by rw [hr]; simp⟩, h.rs, fun a e e' => ⟨h.sn a e e', ha a e e', by rw [hr]; simp⟩⟩
theorem rowOf_blk {w : World} {q : Nat} {t : TypeId} {v : Value} (h : Blk w q t [v]) : rowOf w q = v.ownBlock := by
  unfold rowOf
  rw [h.cell (j := 0) rfl]; rfl
theorem cells_blk {w : World} {q : Nat} {t : TypeId} {l : List Value} (h : Blk w q t l) : Cells w q := ⟨_, h, rfl⟩
theorem rw_blk {w : World} {q : Nat} {t : TypeId} {v : Value} (h : Blk w q t [v]) (hv : v.ownBlock = none) : Rw q w := ⟨cells_blk h, fun g hg => by rw [rowOf_blk h, hv] at hg; cases hg⟩

theorem Blk.own2 {q B b : Nat} {W W' : World} {row : Option Nat} {t : TypeId} {l : List Value} (h : Blk W b t l) (hg : W.grownBy W' row) (hb : b < B) (hrow : ∀ r, row = some r → B ≤ r ∧ r ≠ q ∧ some r ≠ rowOf W q) : Blk W' b t l :=
  (hg.block b h.lt (fun e => by have := (hrow b e.symm).1; omega)).trans h
theorem Below.own2 {q B n : Nat} {w W W' : World} {row : Option Nat} (h : Below n w W) (hg : W.grownBy W' row) (hn : n ≤ w.heap.size) (hb : n ≤ B) (hrow : ∀ r, row = some r → B ≤ r ∧ r ≠ q ∧ some r ≠ rowOf W q) : Below n w W' :=
  h.grown hg (by have := h.size; omega) (fun k e => by have := (hrow k e).1; omega)
theorem Blk.putD {V : World} {b D : Nat} {t : TypeId} {l : List Value} {o : Obj} (h : Blk V b t l) (hD : V.heap[D]? = some (.deferred (some []))) : Blk (V.putObj D o) b t l :=
  (World.putObj_heap_other (fun e => by subst e; rw [show V.heap[b]? = _ from h] at hD; cases hD)).trans h
theorem Below.putD {n D : Nat} {w V : World} {o : Obj} (h : Below n w V) (hn : n ≤ D) (hD : V.heap[D]? = some (.deferred (some []))) : Below n w (V.putObj D o) :=
  h.grown (grownBy_putObj' V D o) (by have := (Array.getElem?_eq_some_iff.1 hD).1; omega) (fun k e => by cases e; exact hn)
theorem res_reg2 {fn : Func} {r b : Tmp} (hres : fn.results = #[.cell r 55, .cell b 4]) (tmps : Array Value) (w : World) {g h : Nat} {x : Rg} {z : Bool} (hr : tmps.getD r undef = .pointer (some ⟨g, 0, none⟩)) (hb : tmps.getD b undef = .pointer (some ⟨h, 0, none⟩))
    (hp : RB w g x) (hq : Blk w h 4 [.bool z]) : (results fn tmps).run Tryz.prog w = .ok (.tuple #[ra x, .bool z]) w := by
  obtain ⟨c0, c1, c2, c3⟩ := hp.re
  have c4 := hq.cell (j := 0) rfl
  rw [Array.getD_eq_getD_getElem?] at hr hb
  simp [results, hres, go_sem, hr, hb, c0, c1, c2, c3, c4, ra]
theorem res_reg1 {fn : Func} {r b : Tmp} (hres : fn.results = #[.cell r 55, .tmp b]) (tmps : Array Value) (w : World) {g : Nat} {x : Rg} (hr : tmps.getD r undef = .pointer (some ⟨g, 0, none⟩))
    (hp : RB w g x) : (results fn tmps).run Tryz.prog w = .ok (.tuple #[ra x, tmps.getD b undef]) w := by
  obtain ⟨c0, c1, c2, c3⟩ := hp.re
  rw [Array.getD_eq_getD_getElem?] at hr
  simp [results, hres, go_sem, hr, c0, c1, c2, c3, ra]
theorem res_bool1 {fn : Func} {b : Tmp} (hres : fn.results = #[.cell b 4]) (tmps : Array Value) (w : World) {h : Nat} {z : Bool} (hb : tmps.getD b undef = .pointer (some ⟨h, 0, none⟩)) (hq : Blk w h 4 [.bool z]) : (results fn tmps).run Tryz.prog w = .ok (.bool z) w := by
  have c4 := hq.cell (j := 0) rfl
  rw [Array.getD_eq_getD_getElem?] at hb
  simp [results, hres, go_sem, hb, c4]

/-- What first gives. -/
def fstV (xs : List Rg) : Value := match xs with
  | [] => .tuple #[ra ⟨0, 0, 0, 0⟩, .bool false]
  | r :: _ => .tuple #[ra r, .bool true]

set_option maxRecDepth 100000 in
set_option maxHeartbeats 4000000 in
theorem first_meet (ao : Option Addr) (n cap : Nat) (l : List Rg) (lo hi b1 b2 b3 : Nat) (w : World) (h : ML ao n cap l lo hi b1 b2 b3 w) :
    Gv 108 #[.func (.func 135) #[] #[.pointer (some ⟨b1, 0, none⟩), .pointer (some ⟨b2, 0, none⟩), .pointer (some ⟨b3, 0, none⟩)]] (fstV (RG.meeting lo hi l)) w := by
  refine wide_fit ?_
  obtain ⟨w1, hw1⟩ : ∃ w1, (w.alloc (.cells #[.int .u64 0, .int .u64 0, .int .i64 0, .int .i64 0] 55)).alloc (.cells #[.bool false] 4) = w1 := ⟨_, rfl⟩
  have hb1 : Below w.heap.size w w1 := by rw [← hw1]; exact ((Below.refl _ _).alloc (Nat.le_refl _) _).alloc (by simp) _
  have hs1 : w1.heap.size = w.heap.size + 2 := by rw [← hw1]; simp
  have hR : Blk w1 w.heap.size 55 [.int .u64 0, .int .u64 0, .int .i64 0, .int .i64 0] := by rw [← hw1]; exact (Blk.new _ _ [.int .u64 0, .int .u64 0, .int .i64 0, .int .i64 0] rfl).alloc _
  have hQ : Blk w1 (w.heap.size + 1) 4 [.bool false] := by rw [← hw1]; exact Blk.new _ _ [.bool false] (by simp)
  have hM : MA (w.heap.size + 1) ao n cap l lo hi b1 b2 b3 w1 := (h.keep hb1).ma (by have := h.x1.lt; omega) (by have := h.x2.lt; omega) (by have := h.x3.lt; omega) (fun a e e' => by have := h.sn a e e'; omega) (rowOf_blk hQ)
  obtain ⟨xs, hxs⟩ : ∃ xs, RG.meeting lo hi l = xs := ⟨_, rfl⟩
  have hG := meet_gives (w.heap.size + 1) ao n cap l lo hi b1 b2 b3
  rw [hxs] at hG ⊢
  refine callsIn_of_wp_marks Tryz.func108 rfl trivial ?_ rfl
  simp only [Tryz.ntmps108, List.size_toArray, List.length_cons, List.length_nil, Nat.reduceAdd, Nat.reduceSub, Array.replicate_succ, Array.replicate_zero, List.push_toArray, List.append_toArray, List.nil_append, List.cons_append]
  gi_wp2
  clear hw1
  refine range_gives (gf := 135) rfl enters_meet hG hM (fun V V' _ hk h => h.kp hk) (fun _ => rfl)
    (fun k V => (k = 0 ∧ Blk V w.heap.size 55 [.int .u64 0, .int .u64 0, .int .i64 0, .int .i64 0]) ∧ Blk V (w.heap.size + 1) 4 [.bool false] ∧ Below w.heap.size w V)
    (fun c k V => (c = .ret ∧ k = 0) ∧ (∃ x, xs[0]? = some x ∧ RB V w.heap.size x) ∧ Blk V (w.heap.size + 1) 4 [.bool true] ∧ Below w.heap.size w V)
    (fun k V V' row h hg hr => ⟨⟨h.1.1, h.1.2.own2 hg (by omega) hr⟩, h.2.1.own2 hg (by omega) hr, Below.own2 h.2.2 hg (Nat.le_refl _) (by omega) hr⟩)
    (fun c k V V' row h hg hr => ⟨h.1, (by obtain ⟨x, hx, hX⟩ := h.2.1; exact ⟨x, hx, Blk.own2 hX hg (by omega) hr⟩), h.2.2.1.own2 hg (by omega) hr, Below.own2 h.2.2.2 hg (Nat.le_refl _) (by omega) hr⟩)
    (fun k V h => rw_blk h.2.1 rfl) (fun c k V h => rw_blk h.2.2.1 rfl) ⟨⟨rfl, hR⟩, hQ, hb1⟩
    (fun m x a' V => ∃ bx, m ≤ bx ∧ RB V bx x ∧ a' = { tmps := #[.func (.func 135) #[] #[.pointer (some ⟨b1, 0, none⟩), .pointer (some ⟨b2, 0, none⟩), .pointer (some ⟨b3, 0, none⟩)], undef, .pointer (some ⟨w.heap.size, 0, none⟩), .pointer (some ⟨w.heap.size + 1, 0, none⟩), .pointer (some ⟨bx, 0, none⟩), .func (.func 135) #[] #[.pointer (some ⟨b1, 0, none⟩), .pointer (some ⟨b2, 0, none⟩), .pointer (some ⟨b3, 0, none⟩)], ra x, undef, undef], defers := [] })
    (fun m x a' _ V V' row h hg hr => by
      obtain ⟨bx, h1, h3, h5⟩ := h
      exact ⟨bx, h1, Blk.own' h3 hg (fun r e => (hr r e).2), h5⟩)
    ?assign ?body ?done ?stop
  case assign =>
    rintro lq k ⟨f, t, p, s⟩ V K hsz ⟨⟨rfl, hR⟩, hQ, hB⟩ hK
    have hkp := (Kp.refl (w.heap.size + 1) V).alloc hQ.lt (.cells #[.int .u64 (f : Int), .int .u64 (t : Int), .int .i64 p, .int .i64 s] 55)
    have hKn := hK _ _ hkp ⟨⟨rfl, hR.alloc _⟩, hQ.alloc _, hB.alloc hB.size _⟩ ⟨V.heap.size, Nat.le_refl _, Blk.new _ _ _ rfl, rfl⟩
    simp only [ra] at hKn ⊢
    gi_wp2
    exact hKn
  case body =>
    rintro lq k ⟨f, t, p, s⟩ a' m V hx hm hmV ⟨⟨rfl, hR⟩, hQ, hB⟩ ⟨bx, hbx, hX, rfl⟩
    obtain ⟨u0, u1, u2, u3⟩ := hX.re
    have c0 := hR.cell (j := 0) rfl
    have c1 := hR.cell (j := 1) rfl
    have c2 := hR.cell (j := 2) rfl
    have c3 := hR.cell (j := 3) rfl
    have f0 := hR.fz 0
    have f1 := hR.fz 1
    have f2 := hR.fz 2
    have f3 := hR.fz 3
    have cQ := hQ.cell (j := 0) rfl
    have fQ := hQ.fz 0
    have hS : RB (((((V.setCell ⟨w.heap.size, 0, none⟩ (.int .u64 (f : Int))).setCell ⟨w.heap.size, 1, none⟩ (.int .u64 (t : Int))).setCell ⟨w.heap.size, 2, none⟩ (.int .i64 p)).setCell ⟨w.heap.size, 3, none⟩ (.int .i64 s)).setCell ⟨w.heap.size + 1, 0, none⟩ (.bool true)) w.heap.size ⟨f, t, p, s⟩ :=
      ((((hR.set 0 _).set 1 _).set 2 _).set 3 _).far (by show _ ≠ w.heap.size + 1; omega) _
    have hS2 : Blk (((((V.setCell ⟨w.heap.size, 0, none⟩ (.int .u64 (f : Int))).setCell ⟨w.heap.size, 1, none⟩ (.int .u64 (t : Int))).setCell ⟨w.heap.size, 2, none⟩ (.int .i64 p)).setCell ⟨w.heap.size, 3, none⟩ (.int .i64 s)).setCell ⟨w.heap.size + 1, 0, none⟩ (.bool true)) (w.heap.size + 1) 4 [.bool true] :=
      ((((hQ.far (by show w.heap.size + 1 ≠ w.heap.size; omega) _).far (by show w.heap.size + 1 ≠ w.heap.size; omega) _).far (by show w.heap.size + 1 ≠ w.heap.size; omega) _).far (by show w.heap.size + 1 ≠ w.heap.size; omega) _).set 0 _
    have hS3 : Below w.heap.size w (((((V.setCell ⟨w.heap.size, 0, none⟩ (.int .u64 (f : Int))).setCell ⟨w.heap.size, 1, none⟩ (.int .u64 (t : Int))).setCell ⟨w.heap.size, 2, none⟩ (.int .i64 p)).setCell ⟨w.heap.size, 3, none⟩ (.int .i64 s)).setCell ⟨w.heap.size + 1, 0, none⟩ (.bool true)) :=
      ((((hB.setCell (Nat.le_refl _) _).setCell (Nat.le_refl _) _).setCell (Nat.le_refl _) _).setCell (Nat.le_refl _) _).setCell (by show _ ≤ w.heap.size + 1; omega) _
    have hkf : KeepsOthers V (((((V.setCell ⟨w.heap.size, 0, none⟩ (.int .u64 (f : Int))).setCell ⟨w.heap.size, 1, none⟩ (.int .u64 (t : Int))).setCell ⟨w.heap.size, 2, none⟩ (.int .i64 p)).setCell ⟨w.heap.size, 3, none⟩ (.int .i64 s)).setCell ⟨w.heap.size + 1, 0, none⟩ (.bool true)) :=
      ((((KeepsOthers.setCell _ _ _).trans (KeepsOthers.setCell _ _ _)).trans (KeepsOthers.setCell _ _ _)).trans (KeepsOthers.setCell _ _ _)).trans (KeepsOthers.setCell _ _ _)
    have hS := W_hid hS
    have hS2 := W_hid hS2
    have hx := W_hid hx
    simp only [ra]
    gi_wp2
    refine ⟨hkf.from _, ?_⟩
    first | exact ⟨⟨rfl, rfl⟩, ⟨_, hx.out, hS.out⟩, hS2.out, hS3⟩ | exact ⟨⟨rfl, rfl⟩, hS.out, hS2.out, hS3⟩
  case done =>
    rintro D V hD ⟨⟨hk, hR⟩, hQ, hB⟩ hkp hK
    obtain rfl : xs = [] := List.eq_nil_of_length_eq_zero hk
    have c0 := hR.cell (j := 0) rfl
    have c1 := hR.cell (j := 1) rfl
    have c2 := hR.cell (j := 2) rfl
    have c3 := hR.cell (j := 3) rfl
    have f0 := hR.fz 0
    have f1 := hR.fz 1
    have f2 := hR.fz 2
    have f3 := hR.fz 3
    have cQ := hQ.cell (j := 0) rfl
    have fQ := hQ.fz 0
    obtain ⟨V5, hV5⟩ : ∃ V5, ((((V.setCell ⟨w.heap.size, 0, none⟩ (.int .u64 0)).setCell ⟨w.heap.size, 1, none⟩ (.int .u64 0)).setCell ⟨w.heap.size, 2, none⟩ (.int .i64 0)).setCell ⟨w.heap.size, 3, none⟩ (.int .i64 0)).setCell ⟨w.heap.size + 1, 0, none⟩ (.bool false) = V5 := ⟨_, rfl⟩
    have hS : RB V5 w.heap.size ⟨0, 0, 0, 0⟩ := by
      rw [← hV5]
      exact ((((hR.set 0 _).set 1 _).set 2 _).set 3 _).far (by show _ ≠ w.heap.size + 1; omega) _
    have hS2 : Blk V5 (w.heap.size + 1) 4 [.bool false] := by
      rw [← hV5]
      exact ((((hQ.far (by show w.heap.size + 1 ≠ w.heap.size; omega) _).far (by show w.heap.size + 1 ≠ w.heap.size; omega) _).far (by show w.heap.size + 1 ≠ w.heap.size; omega) _).far (by show w.heap.size + 1 ≠ w.heap.size; omega) _).set 0 _
    have hS3 : Below w.heap.size w V5 := by
      rw [← hV5]
      exact ((((hB.setCell (Nat.le_refl _) _).setCell (Nat.le_refl _) _).setCell (Nat.le_refl _) _).setCell (Nat.le_refl _) _).setCell (by show _ ≤ w.heap.size + 1; omega) _
    have hK5 : V5.heap[D]? = some (.deferred (some [])) := by
      rw [← hV5]
      exact (((((KeepsOthers.setCell _ _ _).trans (KeepsOthers.setCell _ _ _)).trans (KeepsOthers.setCell _ _ _)).trans (KeepsOthers.setCell _ _ _)).trans (KeepsOthers.setCell _ _ _)).same D _ hK rfl
    gi_wp2
    clear hV5
    refine ⟨by simp, .inl ⟨_, _, rfl, run_takeDeferred hK5, ?_⟩⟩
    have hb : ∀ o, Below w.heap.size w (V5.putObj D o) := fun o => Below.putD hS3 (by omega) hK5
    exact ⟨_, res_reg2 rfl _ _ rfl rfl (hS.putD hK5) (hS2.putD hK5), rfl, hb _⟩
  case stop =>
    rintro D c k V hD hlt ⟨⟨rfl, rfl⟩, ⟨x, hx, hX⟩, hQ, hB⟩ hK
    have hv : fstV xs = .tuple #[ra x, .bool true] := by
      cases xs with
      | nil => cases hx
      | cons y r => simp at hx; subst hx; rfl
    have hv := W_hid hv
    gi_wp2
    refine ⟨by simp, .inl ⟨_, _, rfl, run_takeDeferred hK, ?_⟩⟩
    exact ⟨_, res_reg2 rfl _ _ rfl rfl (hX.putD hK) (hQ.putD hK), by rw [hv.out], Below.putD hB (by omega) hK⟩
end Go.Proofs.YtkomahekdcaiaaaGreatDoor

/- What goes over the iterators: gather, covers. -/
namespace Go.Proofs.YtkomahekdcaiaaaGreatDoor
open Go.ChangeShapes Go.WideShapes Go.ChangeAt Go.RowKit Go.Shelf
open SQ
set_option linter.unusedVariables false
set_option linter.unusedSimpArgs false
attribute [local go_sem] Oper.semAt_some
open RG (Rg)

/-- A call gives a list in a row of its own. -/
def GvL (f : FuncId) (args : Array Value) (L : List Rg) (w : World) : Prop :=
  Calls Tryz.prog f args w fun e w' => ∃ v, e = .returned v ∧ w'.ownsRow w.heap.size 55 4 v L.length (rcl L) ∧ Below w.heap.size w w'
theorem info_reg : (Tryz.prog.info? 55).map (fun i => (i.zero, i.size, i.bytes)) = some (some (.agg #[.int .u64 0, .int .u64 0, .int .i64 0, .int .i64 0]), 4, 32) := by kernel_rfl
theorem own_of {w w' : World} {base e size n : Nat} {v : Value} {xs : List Value} (h : w.ownsRow base e size v n xs) (hb : ∀ g, v.ownBlock = some g → w'.heap[g]? = w.heap[g]?) : w'.ownsRow base e size v n xs := by
  rcases h.2 with h0 | ⟨g, cap, cur, h1, h2, h3, h4⟩
  · exact ⟨h.1, .inl h0⟩
  · exact ⟨h.1, .inr ⟨g, cap, cur, h1, h2, (hb g (by rw [h1]; rfl)).trans h3, h4⟩⟩
theorem gown_cells {w : World} {base e size n : Nat} {v : Value} {xs : List Value} (h : w.ownsRow base e size v n xs) : ∀ g, v.ownBlock = some g → Cells w g ∧ base ≤ g := fun g hg => by
  rcases h.2 with ⟨h0, _⟩ | ⟨g', cap, cur, h1, h2, h3, h4⟩
  · rw [h0] at hg; cases hg
  · rw [h1] at hg
    cases hg
    exact ⟨⟨_, h3, rfl⟩, h2⟩
/-- The variable out in cell q and its row. -/
def OutB (q base : Nat) (L : List Rg) (V : World) : Prop := ∃ v, Blk V q 41 [v] ∧ V.ownsRow base 55 4 v L.length (rcl L)
theorem OutB.rw {q base : Nat} {L : List Rg} {V : World} (h : OutB q base L V) : Rw q V := by
  obtain ⟨v, h1, h2⟩ := h
  exact ⟨cells_blk h1, fun g hg => by rw [rowOf_blk h1] at hg; exact (gown_cells h2 g hg).1⟩
theorem OutB.own {q base : Nat} {L : List Rg} {V V' : World} {row : Option Nat} (h : OutB q base L V) (hg : V.grownBy V' row) (hr : ∀ r, row = some r → r ≠ q ∧ some r ≠ rowOf V q) : OutB q base L V' := by
  obtain ⟨v, h1, h2⟩ := h
  refine ⟨v, (hg.block q h1.lt (fun e => (hr q e.symm).1 rfl)).trans h1, own_of h2 (fun g hg' => hg.block g (gown_cells h2 g hg').1.lt (fun e => (hr g e.symm).2 (by rw [rowOf_blk h1, hg'])))⟩

/-- A region more. -/
theorem OutB.appended {q base n : Nat} {L : List Rg} {V w1 : World} {v v' : Value} {tmp : Obj} {r : Rg} (hv : Blk V q 41 [v]) (hrow : V.ownsRow base 55 4 v L.length (rcl L)) (hown' : w1.ownsRow base 55 4 v' (L.length + 1) (rcl L ++ rv r))
    (hgrow : (V.alloc tmp).grownBy w1 v.ownBlock) (hat : v'.ownBlock = v.ownBlock ∨ v'.ownBlock = some (V.alloc tmp).heap.size) (hq : q < base) (hn : n ≤ V.heap.size) :
    OutB q base (L ++ [r]) (w1.setCell ⟨q, 0, none⟩ v') ∧ Kq n q V (w1.setCell ⟨q, 0, none⟩ v') ∧ Blk w1 q 41 [v] := by
  have hne : some q ≠ v.ownBlock := fun e => by have := (gown_cells hrow q e.symm).2; omega
  have hv1 : Blk w1 q 41 [v] := (hv.alloc tmp).grown hgrow hne
  have hro := rowOf_blk hv
  have hnew : ∀ g, v'.ownBlock = some g → rowOf V q = some g ∨ n ≤ g := fun g hg => by
    rcases hat with e | e
    · left; rw [hro, ← e, hg]
    · rw [hg] at e; cases e; right; rw [World.size_alloc]; omega
  have hk1 : Kq n q V w1 := ((Kq.refl q hn).alloc hv.lt tmp).grown hgrow (fun g hg => .inl (by rw [hro, hg])) hne (hv.alloc tmp).lt
  refine ⟨⟨v', hv1.set 0 v', ?_⟩, hk1.setq (hv1.cell (j := 0) rfl) hnew, hv1⟩
  rw [List.length_append, rcl_append, rcl_single]
  exact own_of hown' (fun g hg => Below.heap_setCell _ _ _ _ (by have := (gown_cells hown' g hg).2; show g ≠ q; omega))
theorem four_new (w : World) (a b c d : Value) (t : TypeId) (s : Nat × Nat) : ∀ j u, [a, b, c, d][j]? = some u → (w.alloc (.cells #[a, b, c, d] t s)).cell? ((⟨w.heap.size, 0, none⟩ : Addr).add j) = some u := by
  intro j u hu
  have hr := heap_alloc_new w (.cells #[a, b, c, d] t s)
  rw [Addr.add_lit, cell_of_row _ _ _ _ _ _ hr]
  match j, hu with
  | 0, hu => simpa using hu
  | 1, hu => simpa using hu
  | 2, hu => simpa using hu
  | 3, hu => simpa using hu

set_option maxRecDepth 100000 in
set_option maxHeartbeats 4000000 in
theorem gather_parts (ao : Option Addr) (n cap : Nat) (l : List Rg) (lo hi b1 b2 b3 : Nat) (w : World) (h : ML ao n cap l lo hi b1 b2 b3 w) (hlen : l.length ≤ 34359738368) :
    GvL 101 #[.func (.func 139) #[] #[.pointer (some ⟨b1, 0, none⟩), .pointer (some ⟨b2, 0, none⟩), .pointer (some ⟨b3, 0, none⟩)]] (RG.parts lo hi l) w := by
  unfold GvL
  refine wide_fit ?_
  obtain ⟨i0, hi0, hz0, hz1, hz2⟩ := info_parts info_reg
  obtain ⟨w1, hw1⟩ : ∃ w1, w.alloc (.cells #[.slice none 0 0] 41) = w1 := ⟨_, rfl⟩
  have hb1 : Below w.heap.size w w1 := by rw [← hw1]; exact (Below.refl _ _).alloc (Nat.le_refl _) _
  have hs1 : w1.heap.size = w.heap.size + 1 := by rw [← hw1]; simp
  have hQ : Blk w1 w.heap.size 41 [.slice none 0 0] := by rw [← hw1]; exact Blk.new _ _ [.slice none 0 0] rfl
  have hM : MA w.heap.size ao n cap l lo hi b1 b2 b3 w1 := (h.keep hb1).ma (by have := h.x1.lt; omega) (by have := h.x2.lt; omega) (by have := h.x3.lt; omega) (fun a e e' => by have := h.sn a e e'; omega) (rowOf_blk hQ)
  have hG := parts_gives w.heap.size ao n cap l lo hi b1 b2 b3
  have hln : (RG.parts lo hi l).length ≤ 34359738368 := by
    rw [parts_len]
    exact Nat.le_trans (List.length_filter_le _ _) hlen
  obtain ⟨xs, hxs⟩ : ∃ xs, RG.parts lo hi l = xs := ⟨_, rfl⟩
  rw [hxs] at hG hln ⊢
  refine callsIn_of_wp_marks Tryz.func101 rfl trivial ?_ rfl
  simp only [Tryz.ntmps101, List.size_toArray, List.length_cons, List.length_nil, Nat.reduceAdd, Nat.reduceSub, Array.replicate_succ, Array.replicate_zero, List.push_toArray, List.append_toArray, List.nil_append, List.cons_append]
  gi_wp2
  clear hw1
  refine range_gives (gf := 139) rfl enters_parts hG hM (fun V V' _ hk h => h.kp hk) (fun _ => rfl)
    (fun k V => OutB w.heap.size w1.heap.size (xs.take k) V ∧ Below w.heap.size w V)
    (fun c k V => False)
    (fun k V V' row h hg hr => ⟨h.1.own hg (fun r e => (hr r e).2), Below.own2 h.2 hg (Nat.le_refl _) (by omega) hr⟩)
    (fun c k V V' row h hg hr => h)
    (fun k V h => h.1.rw) (fun c k V h => h.elim) ⟨⟨_, hQ, World.ownsRow_nil _ _ _ _⟩, hb1⟩
    (fun m x a' V => ∃ bx, m ≤ bx ∧ RB V bx x ∧ a' = { tmps := #[.func (.func 139) #[] #[.pointer (some ⟨b1, 0, none⟩), .pointer (some ⟨b2, 0, none⟩), .pointer (some ⟨b3, 0, none⟩)], undef, .slice none 0 0, .pointer (some ⟨w.heap.size, 0, none⟩), .pointer (some ⟨bx, 0, none⟩), .func (.func 139) #[] #[.pointer (some ⟨b1, 0, none⟩), .pointer (some ⟨b2, 0, none⟩), .pointer (some ⟨b3, 0, none⟩)], ra x, undef, undef, undef, undef, undef], defers := [] })
    (fun m x a' _ V V' row h hg hr => by
      obtain ⟨bx, h1, h3, h5⟩ := h
      exact ⟨bx, h1, Blk.own' h3 hg (fun r e => (hr r e).2), h5⟩)
    ?assign ?body ?done ?stop
  case assign =>
    rintro lq k ⟨f, t, p, s⟩ V K hsz ⟨hO, hB⟩ hK
    have hkp := (Kp.refl w.heap.size V).alloc hO.rw.box.lt (.cells #[.int .u64 (f : Int), .int .u64 (t : Int), .int .i64 p, .int .i64 s] 55)
    have hKn := hK _ _ hkp ⟨hO.own (World.grownBy_alloc _ _ none) (fun r e => by cases e), hB.alloc hB.size _⟩ ⟨V.heap.size, Nat.le_refl _, Blk.new _ _ _ rfl, rfl⟩
    simp only [ra] at hKn ⊢
    gi_wp2
    exact hKn
  case body =>
    rintro lq k ⟨f, t, p, s⟩ a' m V hx hm hmV ⟨⟨v, hv, hrow⟩, hB⟩ ⟨bx, hbx, hX, rfl⟩
    obtain ⟨u0, u1, u2, u3⟩ := hX.re
    have hc := hv.cell (j := 0) rfl
    have hkl : k < xs.length := (List.getElem?_eq_some_iff.1 hx).1
    have hll : (xs.take k).length = k := by rw [List.length_take]; omega
    have hnext : Hid (xs.take (k + 1) = xs.take k ++ [⟨f, t, p, s⟩]) := by
      show _ = _
      rw [List.take_add_one, hx]; rfl
    rw [hll] at hrow
    have hx := W_hid hx
    have hro := rowOf_blk hv
    simp only [ra]
    have hrow' : V.ownsRow w1.heap.size 55 4 v (xs.take k).length (rcl (xs.take k)) := by rw [hll]; exact hrow
    have happ := fun (w2 : World) v' h1 h2 h3 => OutB.appended (q := w.heap.size) (base := w1.heap.size) (n := m) (L := xs.take k) (V := V) (w1 := w2) (v := v) (v' := v') (tmp := .cells #[.int .u64 (f : Int), .int .u64 (t : Int), .int .i64 p, .int .i64 s] 55) (r := ⟨f, t, p, s⟩) hv hrow' h1 h2 h3 (by omega) hmV
    obtain ⟨va, vc, rfl⟩ := Own.form hrow
    have hbs := hB.size
    gi_wp2_with (first | (gi_at_builtin; apply Hid.out) | gi_in)
    refine W_hid ?_
    refine wpListIn_append_own_at _ rfl (.tmp 7) (.tmp 9) 41 rfl w1.heap.size 55 i0 (.agg #[.int .u64 0, .int .u64 0, .int .i64 0, .int .i64 0]) 4 32 Tryz.underlying41 hi0 hz0 hz1 hz2 rfl (by decide) _ k (rcl (xs.take k)) rfl (hrow.alloc _) ⟨V.heap.size, 0, none⟩ 1 1 (rv ⟨f, t, p, s⟩) rfl rfl (four_new _ _ _ _ _ _ _) (by intro u hu; simp only [rv, List.mem_cons, List.not_mem_nil, or_false] at hu; rcases hu with rfl | rfl | rfl | rfl <;> rfl) (by unfold maxLen; omega) (by omega) (by rw [World.size_alloc]; omega) ?_
    intro v' w2 hown' hgrow _ hat
    obtain ⟨hO2, hK2, hv2⟩ := happ w2 v' (by rw [hll]; exact hown') hgrow hat
    obtain ⟨va2, vc2, rfl⟩ := Own.form hown'
    have hc2 := hv2.cell (j := 0) rfl
    have hf2 := hv2.fz 0
    gi_wp2
    rw [← hnext.out] at hO2
    have hB2 : Below w.heap.size w (w2.setCell ⟨w.heap.size, 0, none⟩ (.slice va2 (k + 1) vc2)) := ((hB.alloc hB.size _).grown hgrow (by rw [World.size_alloc]; omega) (fun j hj => by have := (gown_cells hrow j hj).2; omega)).setCell (Nat.le_refl _) _
    exact ⟨hK2, hO2, hB2⟩
  case done =>
    rintro D V hD ⟨⟨v, hv, hrow⟩, hB⟩ hkp hK
    rw [List.take_length] at hrow
    have hc := hv.cell (j := 0) rfl
    have hfin : (V.putObj D (.deferred none)).ownsRow w.heap.size 55 4 v xs.length (rcl xs) := Own.low (by omega) (own_of hrow (fun g hg => World.putObj_heap_other (fun e => by
      subst e
      have := (gown_cells hrow g hg).1.not hK rfl
      exact this rfl)))
    obtain ⟨va, vc, rfl⟩ := Own.form hrow
    gi_wp2
    refine ⟨by simp, .inl ⟨_, _, rfl, run_takeDeferred hK, ?_⟩⟩
    exact ⟨_, results_tmp rfl _ _ _, .slice va xs.length vc, rfl, hfin, Below.putD hB (by omega) hK⟩
  case stop =>
    rintro D c k V hD hlt h hK
    exact h.elim
end Go.Proofs.YtkomahekdcaiaaaGreatDoor

/- What goes over the iterators: covers. -/
namespace Go.Proofs.YtkomahekdcaiaaaGreatDoor
open Go.ChangeShapes Go.WideShapes Go.ChangeAt Go.RowKit Go.Shelf
open SQ
set_option linter.unusedVariables false
set_option linter.unusedSimpArgs false
attribute [local go_sem] Oper.semAt_some
open RG (Rg)

theorem ML.made {ao : Option Addr} {n cap : Nat} {l : List Rg} (lo hi : Nat) {w : World} (h : RS w ao n cap l) (hs : ∀ a, ao = some a → 0 < n → a.block < w.heap.size) :
    ML ao n cap l lo hi w.heap.size (w.heap.size + 1) (w.heap.size + 1 + 1) (((w.alloc (.cells #[.slice ao n cap] 41)).alloc (.cells #[.int .u64 (lo : Int)] 36)).alloc (.cells #[.int .u64 (hi : Int)] 36)) := by
  have hb : Below w.heap.size w (((w.alloc (.cells #[.slice ao n cap] 41)).alloc (.cells #[.int .u64 (lo : Int)] 36)).alloc (.cells #[.int .u64 (hi : Int)] 36)) := (((Below.refl _ _).alloc (Nat.le_refl _) _).alloc (by simp) _).alloc (by simp; omega) _
  exact ⟨((Blk.new w 41 [.slice ao n cap] rfl).alloc _).alloc _, (Blk.new _ 36 [.int .u64 (lo : Int)] (by simp)).alloc _, Blk.new _ 36 [.int .u64 (hi : Int)] (by simp), h.below hb (Nat.le_refl _), fun a e e' => Nat.lt_of_lt_of_le (hs a e e') hb.size⟩
/-- The blocks of a slice that reads as regions are there, unless it is empty. -/
def GL (w : World) (ao : Option Addr) (n cap : Nat) (l : List Rg) : Prop := RS w ao n cap l ∧ ∀ a, ao = some a → 0 < n → a.block < w.heap.size
theorem GL.keep {w w' : World} {ao : Option Addr} {n cap : Nat} {l : List Rg} (h : GL w ao n cap l) (hb : Below w.heap.size w w') : GL w' ao n cap l := ⟨h.1.below hb (Nat.le_refl _), fun a e e' => Nat.lt_of_lt_of_le (h.2 a e e') hb.size⟩
theorem GL_own {w : World} {ao : Option Addr} {n cap base : Nat} {l : List Rg} (h : w.ownsRow base 55 4 (.slice ao n cap) n (rcl l)) : GL w ao n cap l :=
  ⟨RS_own h, fun a e _ => by subst e; exact (gown_cells h a.block rfl).1.lt⟩

set_option maxRecDepth 100000 in
set_option maxHeartbeats 4000000 in
theorem covers_any (ao : Option Addr) (n cap : Nat) (l : List Rg) (lo hi : Nat) (w : World) (h : GL w ao n cap l) :
    Gv 100 #[.slice ao n cap, .int .u64 (lo : Int), .int .u64 (hi : Int)] (.bool (decide (RG.cov hi lo (RG.parts lo hi l)))) w := by
  refine wide_fit ?_
  obtain ⟨w0, hw0⟩ : ∃ w0, (w.alloc (.cells #[.bool false] 4)).alloc (.cells #[.int .u64 (lo : Int)] 36) = w0 := ⟨_, rfl⟩
  have hb0 : Below w.heap.size w w0 := by rw [← hw0]; exact ((Below.refl _ _).alloc (Nat.le_refl _) _).alloc (by simp) _
  have hs0 : w0.heap.size = w.heap.size + 1 + 1 := by rw [← hw0]; simp
  have hR0 : Blk w0 w.heap.size 4 [.bool false] := by rw [← hw0]; exact (Blk.new _ _ [.bool false] rfl).alloc _
  have hQ0 : Blk w0 (w.heap.size + 1) 36 [.int .u64 (lo : Int)] := by rw [← hw0]; exact Blk.new _ _ [.int .u64 (lo : Int)] (by simp)
  have hp := W_hid (parts_any ao n cap lo hi w0)
  have h0 := h.keep hb0
  have hML := ML.made lo hi h0.1 h0.2
  obtain ⟨w1, hw1⟩ : ∃ w1, ((w0.alloc (.cells #[.slice ao n cap] 41)).alloc (.cells #[.int .u64 (lo : Int)] 36)).alloc (.cells #[.int .u64 (hi : Int)] 36) = w1 := ⟨_, rfl⟩
  have hb1 : Below w0.heap.size w0 w1 := by rw [← hw1]; exact (((Below.refl _ _).alloc (Nat.le_refl _) _).alloc (by simp) _).alloc (by simp; omega) _
  rw [hw1] at hML hp
  have hR1 := hR0.keep hb1
  have hQ1 := hQ0.keep hb1
  have hB1 : Below w.heap.size w w1 := hb0.trans (hb1.mono hb0.size)
  have hM : MA (w.heap.size + 1) ao n cap l lo hi w0.heap.size (w0.heap.size + 1) (w0.heap.size + 1 + 1) w1 := hML.ma (by omega) (by omega) (by omega) (fun a e e' => by have := h.2 a e e'; omega) (rowOf_blk hQ1)
  have hs1 : w1.heap.size = w.heap.size + 5 := by rw [← hw1]; simp; omega
  have hG := parts_gives (w.heap.size + 1) ao n cap l lo hi w0.heap.size (w0.heap.size + 1) (w0.heap.size + 1 + 1)
  rw [hs0] at hG hM hp
  obtain ⟨xs, hxs⟩ : ∃ xs, RG.parts lo hi l = xs := ⟨_, rfl⟩
  rw [hxs] at hG ⊢
  refine callsIn_of_wp_marks Tryz.func100 rfl trivial ?_ rfl
  simp only [Tryz.ntmps100, List.size_toArray, List.length_cons, List.length_nil, Nat.reduceAdd, Nat.reduceSub, Array.replicate_succ, Array.replicate_zero, List.push_toArray, List.append_toArray, List.nil_append, List.cons_append]
  gi_wp2
  refine ⟨trivial, rfl, ?_⟩
  refine (fit_wide hp.out).mono ?_
  rintro e w2 ⟨rfl, rfl⟩
  gi_wp2
  clear hw0 hw1 hp
  obtain ⟨B, hBs⟩ : ∃ B, w2.heap.size = B := ⟨_, rfl⟩
  have hBs' := W_hid hBs
  have hs1' : Hid (B = w.heap.size + 5) := by show _ = _; rw [← hBs, hs1]
  clear hs1
  refine range_gives (gf := 139) rfl enters_parts hG hM (fun V V' _ hk h => h.kp hk) (fun _ => rfl)
    (fun k V => ∃ a : Nat, Blk V (w.heap.size + 1) 36 [.int .u64 (a : Int)] ∧ Hid (RG.cov hi lo xs ↔ RG.cov hi a (xs.drop k)) ∧ Blk V w.heap.size 4 [.bool false] ∧ Below w.heap.size w V)
    (fun c k V => (c = .ret ∧ Hid (¬ RG.cov hi lo xs)) ∧ (∃ a : Nat, Blk V (w.heap.size + 1) 36 [.int .u64 (a : Int)]) ∧ Blk V w.heap.size 4 [.bool false] ∧ Below w.heap.size w V)
    (fun k V V' row ⟨a, h1, h2, h3, h4⟩ hg hr => ⟨a, h1.own2 hg (by have := hs1'.out; omega) hr, h2, h3.own2 hg (by have := hs1'.out; omega) hr, Below.own2 h4 hg (Nat.le_refl _) (by have := hs1'.out; omega) hr⟩)
    (fun c k V V' row ⟨h0, ⟨a, h1⟩, h3, h4⟩ hg hr => ⟨h0, ⟨a, h1.own2 hg (by have := hs1'.out; omega) hr⟩, h3.own2 hg (by have := hs1'.out; omega) hr, Below.own2 h4 hg (Nat.le_refl _) (by have := hs1'.out; omega) hr⟩)
    (fun k V ⟨a, h1, h2⟩ => rw_blk h1 rfl) (fun c k V ⟨h0, ⟨a, h1⟩, _⟩ => rw_blk h1 rfl) ⟨lo, hQ1, W_hid Iff.rfl, hR1, hB1⟩
    (fun m x a' V => ∃ bx, m ≤ bx ∧ RB V bx x ∧ a' = { tmps := #[.slice ao n cap, .int .u64 (lo : Int), .int .u64 (hi : Int), undef, undef, undef, .pointer (some ⟨w.heap.size, 0, none⟩), .pointer (some ⟨w.heap.size + 1, 0, none⟩), .pointer (some ⟨bx, 0, none⟩), .int .u64 (lo : Int), .slice ao n cap, .int .u64 (lo : Int), .int .u64 (hi : Int), .func (.func 139) #[] #[.pointer (some ⟨w.heap.size + 1 + 1, 0, none⟩), .pointer (some ⟨w.heap.size + 1 + 1 + 1, 0, none⟩), .pointer (some ⟨w.heap.size + 1 + 1 + 1 + 1, 0, none⟩)], ra x, undef, undef, undef, undef, undef, undef, undef, undef, undef], defers := [] })
    (fun m x a' _ V V' row h hg hr => by
      obtain ⟨bx, h1, h3, h5⟩ := h
      exact ⟨bx, h1, Blk.own' h3 hg (fun r e => (hr r e).2), h5⟩)
    ?assign ?body ?done ?stop
  case assign =>
    rintro lq k ⟨f, t, p, s⟩ V K hsz ⟨a, hQ, hc, hR, hB⟩ hK
    have hkp := (Kp.refl (w.heap.size + 1) V).alloc hQ.lt (.cells #[.int .u64 (f : Int), .int .u64 (t : Int), .int .i64 p, .int .i64 s] 55)
    have hKn := hK _ _ hkp ⟨a, hQ.alloc _, hc, hR.alloc _, hB.alloc hB.size _⟩ ⟨V.heap.size, Nat.le_refl _, Blk.new _ _ _ rfl, rfl⟩
    simp only [ra] at hKn ⊢
    gi_wp2
    exact hKn
  case body =>
    rintro lq k ⟨f, t, p, s⟩ a' m V hx hm hmV ⟨a, hQ, hc, hR, hB⟩ ⟨bx, hbx, hX, rfl⟩
    obtain ⟨u0, u1, u2, u3⟩ := hX.re
    have cQ := hQ.cell (j := 0) rfl
    have fQ := hQ.fz 0
    have cR := hR.cell (j := 0) rfl
    have fR := hR.fz 0
    have hkl : k < xs.length := (List.getElem?_eq_some_iff.1 hx).1
    have hdrop : xs.drop k = ⟨f, t, p, s⟩ :: xs.drop (k + 1) := by
      rw [List.drop_eq_getElem_cons hkl, (List.getElem?_eq_some_iff.1 hx).2]
    rw [hdrop] at hc
    clear hx hdrop
    have hsb := hs1'.out
    simp only [ra]
    by_cases hfa : f = a
    · subst hfa
      have hnx : Hid (RG.cov hi lo xs ↔ RG.cov hi t (xs.drop (k + 1))) := ⟨fun h => (hc.out.1 h).2, fun h => hc.out.2 ⟨rfl, h⟩⟩
      have hQ2 := W_hid (hQ.set 0 (.int .u64 (t : Int)))
      have hR2 := W_hid (hR.far (p := ⟨w.heap.size + 1, 0, none⟩) (by show w.heap.size ≠ w.heap.size + 1; omega) (.int .u64 (t : Int)))
      have hB2 := W_hid (hB.setCell (p := ⟨w.heap.size + 1, 0, none⟩) (by show w.heap.size ≤ w.heap.size + 1; omega) (.int .u64 (t : Int)))
      have hkq := W_hid ((Kq.refl (w.heap.size + 1) hmV).setq (v := .int .u64 (t : Int)) cQ (fun g hg => by cases hg))
      clear hc hBs hsb
      gi_wp2
      exact ⟨hkq.out, t, hQ2.out, hnx, hR2.out, hB2.out⟩
    · have hno : Hid (¬ RG.cov hi lo xs) := fun h => hfa (hc.out.1 h).1
      have q1 : (f == a) = false := by simpa using hfa
      have q2 : ((f : Int) == (a : Int)) = false := by simp; omega
      have hR2 := W_hid (hR.set 0 (.bool false))
      have hQ2 := W_hid (hQ.far (p := ⟨w.heap.size, 0, none⟩) (by show w.heap.size + 1 ≠ w.heap.size; omega) (.bool false))
      have hB2 := W_hid (hB.setCell (p := ⟨w.heap.size, 0, none⟩) (Nat.le_refl _) (.bool false))
      clear hc hBs hsb
      gi_wp2
      exact ⟨(KeepsOthers.setCell _ _ _).from _, rfl, ⟨a, hQ2.out⟩, hR2.out, hB2.out⟩
  case done =>
    rintro D V hD ⟨a, hQ, hc, hR, hB⟩ hkp hK
    rw [List.drop_length] at hc
    have hv : Hid (decide (RG.cov hi lo xs) = decide (a = hi)) := by
      show _ = _
      exact decide_eq_decide.2 hc.out
    have cQ := hQ.cell (j := 0) rfl
    have cR := hR.cell (j := 0) rfl
    have fR := hR.fz 0
    have hDw : w.heap.size ≤ D := by have := hs1'.out; omega
    clear hc hBs
    obtain ⟨z, hz⟩ : ∃ z : Bool, ((a : Int) == (hi : Int)) = z := ⟨_, rfl⟩
    have hz' : Hid (z = decide (a = hi)) := by show _ = _; rw [← hz]; exact decide_eq_decide.2 (by omega)
    obtain ⟨V5, hV5⟩ : ∃ V5, V.setCell ⟨w.heap.size, 0, none⟩ (.bool z) = V5 := ⟨_, rfl⟩
    have hS := by have := hR.set 0 (.bool z); rw [hV5] at this; exact this
    have hS3 : Below w.heap.size w V5 := by rw [← hV5]; exact hB.setCell (Nat.le_refl _) _
    have hK5 : V5.heap[D]? = some (.deferred (some [])) := by rw [← hV5]; exact (KeepsOthers.setCell _ _ _).same D _ hK rfl
    gi_wp2
    clear hV5
    refine ⟨by simp, .inl ⟨_, _, rfl, run_takeDeferred hK5, ?_⟩⟩
    exact ⟨_, res_bool1 rfl _ _ rfl (hS.putD hK5), by rw [hv.out, hz'.out], Below.putD hS3 hDw hK5⟩
  case stop =>
    rintro D c k V hD hlt ⟨⟨rfl, hno⟩, ⟨a, hQ⟩, hR, hB⟩ hK
    have hv : Hid (decide (RG.cov hi lo xs) = false) := decide_eq_false hno.out
    have hDw : w.heap.size ≤ D := by have := hs1'.out; omega
    gi_wp2
    refine ⟨by simp, .inl ⟨_, _, rfl, run_takeDeferred hK, ?_⟩⟩
    exact ⟨_, res_bool1 rfl _ _ rfl (hR.putD hK), by rw [hv.out], Below.putD hB hDw hK⟩
end Go.Proofs.YtkomahekdcaiaaaGreatDoor

/- A list made of pieces: one region more, joined to the last one or behind it (the body of replace's inner loop). -/
namespace Go.Proofs.YtkomahekdcaiaaaGreatDoor
open Go.ChangeShapes Go.WideShapes Go.ChangeAt Go.RowKit Go.Shelf
open SQ
set_option linter.unusedVariables false
set_option linter.unusedSimpArgs false
attribute [local go_sem] Oper.semAt_some
open RG (Rg)

/-- The body of the first range over a function. -/
def rfBody : Code → Option Code
  | .rangeFunc _ _ _ b => some b
  | .seq a b => (rfBody a).or (rfBody b)
  | .block _ c => rfBody c
  | .loop c => rfBody c
  | .cond _ a b => (rfBody a).or (rfBody b)
  | _ => none
theorem push_len (l : List Rg) : ∀ out : List Rg, (l.foldl RG.push out).length ≤ out.length + l.length := by
  induction l with
  | nil => intro out; simp
  | cons r l ih =>
    intro out
    have h1 : (RG.push out r).length ≤ out.length + 1 := by
      rcases List.eq_nil_or_concat out with rfl | ⟨q, x, rfl⟩
      · simp [RG.push_nil]
      · rw [List.concat_eq_append, RG.push_snoc]
        split <;> simp
    have := ih (RG.push out r)
    simp only [List.foldl_cons, List.length_cons]
    omega
theorem push_take (O X : List Rg) (k : Nat) (x : Rg) (hx : X[k]? = some x) : (X.take (k + 1)).foldl RG.push O = RG.push ((X.take k).foldl RG.push O) x := by
  rw [List.take_add_one, hx]; simp
theorem own_get {V : World} {base n : Nat} {v : Value} {L : List Rg} (h : V.ownsRow base 55 4 v n (rcl L)) (hn : 0 < n) : ∃ g cap, v = .slice (some ⟨g, 0, none⟩) n cap ∧ base ≤ g ∧ n ≤ cap ∧ ∀ j, (hj : j < L.length) → RE V g (j * 4) L[j] := by
  rcases h.2 with ⟨_, h0⟩ | ⟨g, cap, cur, h1, h2, h3, h4, _⟩
  · omega
  · refine ⟨g, cap, h1, h2, h4, fun j hj => ?_⟩
    subst h1
    have hl : L.length = n := by have := h.1; rw [rcl_length] at this; omega
    obtain ⟨b, o, e, _, hc⟩ := (RS_own h).at_ hn
    cases e
    have := hc j (by omega)
    simpa using this
theorem own_fz {V : World} {base n cap g : Nat} {xs : List Value} {v : Value} (h : V.ownsRow base 55 4 v n xs) (hv : v = .slice (some ⟨g, 0, none⟩) n cap) (i : Nat) : V.frozen? ⟨g, i, none⟩ = false := by
  subst hv
  rcases h.2 with ⟨h', _⟩ | ⟨g', cap', cur, h', hb, hg, _⟩
  · simp at h'
  · simp only [Value.slice.injEq, Option.some.injEq, Addr.mk.injEq, and_true, true_and] at h'
    obtain ⟨rfl, rfl⟩ := h'
    simp [World.frozen?, hg]
theorem rcl_set (L' : List Rg) (f' t' t : Nat) (p' s' : Int) (n : Nat) (hn : L'.length = n) : (rcl (L' ++ [(⟨f', t', p', s'⟩ : Rg)])).set (n * 4 + 1) (.int .u64 (t : Int)) = rcl (L' ++ [(⟨f', t, p', s'⟩ : Rg)]) := by
  rw [rcl_append, rcl_append, rcl_single, rcl_single, List.set_append_right _ _ (by rw [rcl_length]; omega), rcl_length, hn, show n * 4 + 1 - n * 4 = 1 by omega]
  rfl
theorem SQ.Kq.then' {m q : Nat} {A B C : World} (h : Kp q A B) (k : Kq m q B C) (hm : A.heap.size ≤ m) : Kp q A C := h.trans (k.low hm)
/-- The round's answer: the region is pushed. -/
def pushPost (m q base : Nat) (L : List Rg) (x : Rg) (V : World) : Exit → Act → World → Prop
  | .normal, _, W' => Kq m q V W' ∧ OutB q base (RG.push L x) W'
  | _, _, _ => False

set_option maxRecDepth 100000 in
set_option maxHeartbeats 8000000 in
theorem rep_body (c : Code) (hcode : Tryz.f103.body.bind rfBody = some c) (lq m q base bx : Nat) (V : World) (L : List Rg) (f t : Nat) (p s : Int)
    (u0 u1 u2 u3 u4 u5 u6 u7 u8 u10 u11 u13 u14 u15 u16 u17 u18 u19 u20 u21 u22 u23 u24 u25 u26 u27 u28 u29 u30 u32 u33 u34 u35 u36 u37 u38 u39 u40 u41 u42 u43 u44 u45 u46 u47 u48 u49 u50 u51 u52 u53 u54 u55 u56 : Value)
    (hO : OutB q base L V) (hX : RB V bx ⟨f, t, p, s⟩) (hbx : m ≤ bx) (hmV : m ≤ V.heap.size) (hq : q < base) (hlen : L.length ≤ 137438953472) (hbase : base ≤ V.heap.size) :
    c.wpIn (Fence.wide.inRound lq) 0 Tryz.prog (pushPost m q base L ⟨f, t, p, s⟩ V)
      { tmps := #[u0, u1, u2, u3, u4, u5, u6, u7, u8, .pointer (some ⟨q, 0, none⟩), u10, u11, .pointer (some ⟨bx, 0, none⟩), u13, u14, u15, u16, u17, u18, u19, u20, u21, u22, u23, u24, u25, u26, u27, u28, u29, u30, .agg #[.int .u64 (f : Int), .int .u64 (t : Int), .int .i64 p, .int .i64 s], u32, u33, u34, u35, u36, u37, u38, u39, u40, u41, u42, u43, u44, u45, u46, u47, u48, u49, u50, u51, u52, u53, u54, u55, u56], defers := [] } V := by
  obtain ⟨i0, hi0, hz0, hz1, hz2⟩ := info_parts info_reg
  obtain ⟨v, hv, hrow⟩ := hO
  obtain ⟨x0, x1, x2, x3⟩ := hX.re
  have hc := hv.cell (j := 0) rfl
  have hf := hv.fz 0
  have happ := W_hid (fun (w2 : World) v' h1 h2 h3 => OutB.appended (q := q) (base := base) (n := m) (L := L) (V := V) (w1 := w2) (v := v) (v' := v') (tmp := .cells #[.int .u64 (f : Int), .int .u64 (t : Int), .int .i64 p, .int .i64 s] 55) (r := ⟨f, t, p, s⟩) hv hrow h1 h2 h3 hq hmV)
  have hH := W_hid hrow
  rcases List.eq_nil_or_concat L with rfl | ⟨L', ⟨f', t', p', s'⟩, rfl⟩
  · have hpu : Hid (RG.push [] ⟨f, t, p, s⟩ = [⟨f, t, p, s⟩]) := rfl
    obtain ⟨va, vc, rfl⟩ := Own.form hrow
    simp only [List.length_nil] at hrow hc hH happ
    simp only [Tryz.f103, rfBody, Option.bind_some, Option.or, Option.some.injEq] at hcode
    subst hcode
    -- REGION 8, EMPTY
    gi_wp2
    refine SQ.region_round (S := (fun w' => w'.cell? ⟨q, 0, none⟩ = some (.slice va 0 vc))) (by kernel_rfl) (by kernel_rfl) (by rintro ⟨_, _, h⟩; exact h) hc (fun hHeld => ?_)
    refine wpAnyH_take (i := 0) (v := .int .i64 (-1)) rfl (by kernel_rfl) (by kernel_rfl) (by kernel_rfl) (fun _ _ _ h => h) (Or.inl ⟨by rfl, fun w0 s1 => ?_⟩) hHeld ?_
    · go_simp
    try simp only [Act.put, List.setIfInBounds_toArray, List.set_cons_zero, List.set_cons_succ, List.getElem_toArray, List.getElem_cons_zero, List.getElem_cons_succ]
    refine wpAnyH_take (i := 1) (v := .bool false) rfl (by kernel_rfl) (by kernel_rfl) (by kernel_rfl) (fun _ _ _ h => h) (Or.inl ⟨by rfl, fun w0 s1 => ?_⟩) hHeld ?_
    · go_simp
    try simp only [Act.put, List.setIfInBounds_toArray, List.set_cons_zero, List.set_cons_succ, List.getElem_toArray, List.getElem_cons_zero, List.getElem_cons_succ]
    refine wpAnyH_take (i := 2) (v := .bool false) rfl (by kernel_rfl) (by kernel_rfl) (by kernel_rfl) (fun _ _ _ h => h) (Or.inl ⟨by rfl, fun w0 s1 => ?_⟩) hHeld ?_
    · go_simp
    try simp only [Act.put, List.setIfInBounds_toArray, List.set_cons_zero, List.set_cons_succ, List.getElem_toArray, List.getElem_cons_zero, List.getElem_cons_succ]
    refine wpAnyH_take (i := 3) (v := undef) rfl (by kernel_rfl) (by kernel_rfl) (by kernel_rfl) (fun _ _ _ h => h) (Or.inr ⟨by rfl, rfl⟩) hHeld ?_
    try simp only [Act.put, List.setIfInBounds_toArray, List.set_cons_zero, List.set_cons_succ, List.getElem_toArray, List.getElem_cons_zero, List.getElem_cons_succ]
    refine wpAnyH_take (i := 4) (v := undef) rfl (by kernel_rfl) (by kernel_rfl) (by kernel_rfl) (fun _ _ _ h => h) (Or.inr ⟨by rfl, rfl⟩) hHeld ?_
    try simp only [Act.put, List.setIfInBounds_toArray, List.set_cons_zero, List.set_cons_succ, List.getElem_toArray, List.getElem_cons_zero, List.getElem_cons_succ]
    refine wpAnyH_take (i := 5) (v := undef) rfl (by kernel_rfl) (by kernel_rfl) (by kernel_rfl) (fun _ _ _ h => h) (Or.inr ⟨by rfl, rfl⟩) hHeld ?_
    try simp only [Act.put, List.setIfInBounds_toArray, List.set_cons_zero, List.set_cons_succ, List.getElem_toArray, List.getElem_cons_zero, List.getElem_cons_succ]
    refine wpAnyH_take (i := 6) (v := undef) rfl (by kernel_rfl) (by kernel_rfl) (by kernel_rfl) (fun _ _ _ h => h) (Or.inr ⟨by rfl, rfl⟩) hHeld ?_
    try simp only [Act.put, List.setIfInBounds_toArray, List.set_cons_zero, List.set_cons_succ, List.getElem_toArray, List.getElem_cons_zero, List.getElem_cons_succ]
    refine wpAnyH_take (i := 7) (v := undef) rfl (by kernel_rfl) (by kernel_rfl) (by kernel_rfl) (fun _ _ _ h => h) (Or.inr ⟨by rfl, rfl⟩) hHeld ?_
    try simp only [Act.put, List.setIfInBounds_toArray, List.set_cons_zero, List.set_cons_succ, List.getElem_toArray, List.getElem_cons_zero, List.getElem_cons_succ]
    refine wpAnyH_take (i := 8) (v := undef) rfl (by kernel_rfl) (by kernel_rfl) (by kernel_rfl) (fun _ _ _ h => h) (Or.inr ⟨by rfl, rfl⟩) hHeld ?_
    try simp only [Act.put, List.setIfInBounds_toArray, List.set_cons_zero, List.set_cons_succ, List.getElem_toArray, List.getElem_cons_zero, List.getElem_cons_succ]
    refine wpAnyH_take (i := 9) (v := .bool false) rfl (by kernel_rfl) (by kernel_rfl) (by kernel_rfl) (fun _ _ _ h => h) (Or.inl ⟨by rfl, fun w0 s1 => ?_⟩) hHeld ?_
    · go_simp
    try simp only [Act.put, List.setIfInBounds_toArray, List.set_cons_zero, List.set_cons_succ, List.getElem_toArray, List.getElem_cons_zero, List.getElem_cons_succ]
    refine wpAnyH_done (by kernel_rfl) ?_ _
    gi_wp2_with (first | (gi_at_builtin; apply Hid.out) | gi_in)
    refine W_hid ?_
    refine wpListIn_append_own_at _ rfl (.tmp 51) (.tmp 53) 41 rfl base 55 i0 (.agg #[.int .u64 0, .int .u64 0, .int .i64 0, .int .i64 0]) 4 32 Tryz.underlying41 hi0 hz0 hz1 hz2 rfl (by decide) _ 0 (rcl []) rfl (hrow.alloc _) ⟨V.heap.size, 0, none⟩ 1 1 (rv ⟨f, t, p, s⟩) rfl rfl (four_new _ _ _ _ _ _ _) (by intro u hu; simp only [rv, List.mem_cons, List.not_mem_nil, or_false] at hu; rcases hu with rfl | rfl | rfl | rfl <;> rfl) (by unfold maxLen; omega) (by omega) (by simp; omega) ?_
    intro v' w3 hown' hgrow _ hat
    obtain ⟨hO3, hK3, hv3⟩ := happ.out w3 v' hown' (by first | exact hgrow | exact Own.undrew hgrow) hat
    obtain ⟨va2, vc2, rfl⟩ := Own.form hown'
    have hc3 := hv3.cell (j := 0) rfl
    have hf3 := hv3.fz 0
    gi_wp2
    exact ⟨hK3, by rw [hpu.out]; exact hO3⟩
  · rw [List.concat_eq_append] at *
    obtain ⟨n, hn⟩ : ∃ n, L'.length = n := ⟨_, rfl⟩
    have hlen1 : (L' ++ [(⟨f', t', p', s'⟩ : Rg)]).length = n + 1 := by simp [hn]
    have hn63 : n ≤ 137438953472 := by omega
    rw [hlen1] at hrow
    obtain ⟨g, cap, rfl, hg, hcap, hE⟩ := own_get hrow (by omega)
    have hY := hE n (by omega)
    have hget : (L' ++ [(⟨f', t', p', s'⟩ : Rg)])[n]'(by omega) = ⟨f', t', p', s'⟩ := by
      subst hn; simp
    rw [hget] at hY
    have hY := W_hid hY
    obtain ⟨y0, y1, y2, y3⟩ := hY.out
    have hpu := W_hid (RG.push_snoc L' ⟨f', t', p', s'⟩ ⟨f, t, p, s⟩)
    have hJ := W_hid (fun w => joins_any f' t' p' s' f t p s w)
    have hrw := W_hid hrow
    have hgfz : ∀ i, V.frozen? ⟨g, i, none⟩ = false := fun i => (own_fz hrw.out rfl i)
    have n2 : ((n : Int) + 1 - 1) = n := by omega
    have hgq : Hid (g ≠ q) := by show _ ≠ _; omega
    have hwn : IntKind.i64.wrap (n : Int) = (n : Int) := by simp [IntKind.wrap, IntKind.signed, IntKind.bits]; omega
    simp only [Tryz.f103, rfBody, Option.bind_some, Option.or, Option.some.injEq] at hcode
    by_cases hj : RG.joins ⟨f', t', p', s'⟩ ⟨f, t, p, s⟩
    · rw [decide_eq_true hj] at hJ
      rw [if_pos hj] at hpu
      clear hj hE hget happ hlen1 hH
      subst hcode
      gi_wp2
      refine SQ.region_round (S := (fun w' => w'.cell? ⟨q, 0, none⟩ = some (.slice (some ⟨g, 0, none⟩) (n + 1) cap) ∧ w'.cell? ⟨bx, 0, none⟩ = some (.int .u64 (f : Int)) ∧ w'.cell? ⟨bx, 0 + 1, none⟩ = some (.int .u64 (t : Int)) ∧ w'.cell? ⟨bx, 0 + 2, none⟩ = some (.int .i64 p) ∧ w'.cell? ⟨bx, 0 + 3, none⟩ = some (.int .i64 s) ∧ w'.cell? ⟨g, n * 4, none⟩ = some (.int .u64 (f' : Int)) ∧ w'.cell? ⟨g, n * 4 + 1, none⟩ = some (.int .u64 (t' : Int)) ∧ w'.cell? ⟨g, n * 4 + 2, none⟩ = some (.int .i64 p') ∧ w'.cell? ⟨g, n * 4 + 3, none⟩ = some (.int .i64 s'))) (by kernel_rfl) (by kernel_rfl) (by rintro ⟨_, _, h⟩; exact h) ⟨hc, x0, x1, x2, x3, y0, y1, y2, y3⟩ (fun hHeld => ?_)
      refine wpAnyH_take (i := 0) (v := .int .i64 (n : Int)) rfl (by kernel_rfl) (by kernel_rfl) (by kernel_rfl) (fun _ _ _ h => h) (Or.inl ⟨by rfl, fun w0 ⟨s1, s2, s3, s4, s5, s6, s7, s8, s9⟩ => ?_⟩) hHeld ?_
      · go_simp
      try simp only [Act.put, List.setIfInBounds_toArray, List.set_cons_zero, List.set_cons_succ, List.getElem_toArray, List.getElem_cons_zero, List.getElem_cons_succ]
      refine wpAnyH_take (i := 1) (v := .bool true) rfl (by kernel_rfl) (by kernel_rfl) (by kernel_rfl) (fun _ _ _ h => h) (Or.inl ⟨by rfl, fun w0 ⟨s1, s2, s3, s4, s5, s6, s7, s8, s9⟩ => ?_⟩) hHeld ?_
      · go_simp
      try simp only [Act.put, List.setIfInBounds_toArray, List.set_cons_zero, List.set_cons_succ, List.getElem_toArray, List.getElem_cons_zero, List.getElem_cons_succ]
      refine wpAnyH_take (i := 2) (v := .bool true) rfl (by kernel_rfl) (by kernel_rfl) (by kernel_rfl) (fun _ _ _ h => h) (Or.inl ⟨by rfl, fun w0 ⟨s1, s2, s3, s4, s5, s6, s7, s8, s9⟩ => ?_⟩) hHeld ?_
      · go_simp
      try simp only [Act.put, List.setIfInBounds_toArray, List.set_cons_zero, List.set_cons_succ, List.getElem_toArray, List.getElem_cons_zero, List.getElem_cons_succ]
      refine wpAnyH_take (i := 3) (v := .slice (some ⟨g, 0, none⟩) (n + 1) cap) rfl (by kernel_rfl) (by kernel_rfl) (by kernel_rfl) (fun _ _ _ h => h) (Or.inl ⟨by rfl, fun w0 ⟨s1, s2, s3, s4, s5, s6, s7, s8, s9⟩ => ?_⟩) hHeld ?_
      · go_simp
      try simp only [Act.put, List.setIfInBounds_toArray, List.set_cons_zero, List.set_cons_succ, List.getElem_toArray, List.getElem_cons_zero, List.getElem_cons_succ]
      refine wpAnyH_take (i := 4) (v := .int .i64 (n : Int)) rfl (by kernel_rfl) (by kernel_rfl) (by kernel_rfl) (fun _ _ _ h => h) (Or.inl ⟨by rfl, fun w0 ⟨s1, s2, s3, s4, s5, s6, s7, s8, s9⟩ => ?_⟩) hHeld ?_
      · go_simp
      try simp only [Act.put, List.setIfInBounds_toArray, List.set_cons_zero, List.set_cons_succ, List.getElem_toArray, List.getElem_cons_zero, List.getElem_cons_succ]
      refine wpAnyH_take (i := 5) (v := .pointer (some ⟨g, n * 4, none⟩)) rfl (by kernel_rfl) (by kernel_rfl) (by kernel_rfl) (fun _ _ _ h => h) (Or.inl ⟨by rfl, fun w0 ⟨s1, s2, s3, s4, s5, s6, s7, s8, s9⟩ => ?_⟩) hHeld ?_
      · (go_simp; intro h9; omega)
      try simp only [Act.put, List.setIfInBounds_toArray, List.set_cons_zero, List.set_cons_succ, List.getElem_toArray, List.getElem_cons_zero, List.getElem_cons_succ]
      refine wpAnyH_take (i := 6) (v := (.agg #[.int .u64 (f' : Int), .int .u64 (t' : Int), .int .i64 p', .int .i64 s'])) rfl (by kernel_rfl) (by kernel_rfl) (by kernel_rfl) (fun _ _ _ h => h) (Or.inl ⟨by rfl, fun w0 ⟨s1, s2, s3, s4, s5, s6, s7, s8, s9⟩ => ?_⟩) hHeld ?_
      · go_simp
      try simp only [Act.put, List.setIfInBounds_toArray, List.set_cons_zero, List.set_cons_succ, List.getElem_toArray, List.getElem_cons_zero, List.getElem_cons_succ]
      refine wpAnyH_take (i := 7) (v := .agg #[.int .u64 (f : Int), .int .u64 (t : Int), .int .i64 p, .int .i64 s]) rfl (by kernel_rfl) (by kernel_rfl) (by kernel_rfl) (fun _ _ _ h => h) (Or.inl ⟨by rfl, fun w0 ⟨s1, s2, s3, s4, s5, s6, s7, s8, s9⟩ => ?_⟩) hHeld ?_
      · go_simp
      try simp only [Act.put, List.setIfInBounds_toArray, List.set_cons_zero, List.set_cons_succ, List.getElem_toArray, List.getElem_cons_zero, List.getElem_cons_succ]
      refine wpAnyH_ready (rs := [8]) (by kernel_rfl) (by simp) ?_
      refine AllReadyH.cons rfl (fun K hK => ?_) AllReadyH.nil
      go_simp
      refine (hJ.out _).mono ?_
      rintro e w2 ⟨rfl, bel2⟩
      replace bel2 := Own.bundrew bel2
      have hX2 : RB w2 bx ⟨f, t, p, s⟩ := hX.keep bel2
      have hv2 := W_hid (hv.keep bel2)
      have hrow2 := W_hid (Own.below hrow bel2)
      have hk2 : Hid (Kq m q V w2) := (Kq.refl q hmV).below bel2 hv.lt
      have hs2 := bel2.size
      obtain ⟨x0', x1', x2', x3'⟩ := RB.re hX2
      have hc' := hv2.out.cell (j := 0) rfl
      have hf' := hv2.out.fz 0
      have hgz2 := own_fz hrow2.out rfl (n * 4 + 1)
      obtain ⟨y0', y1', y2', y3'⟩ := hY.out.keep bel2
      refine hK.out _ _ ⟨hc', x0', x1', x2', x3', y0', y1', y2', y3'⟩ (fun hHeld1 => ?_)
      clear hK K
      try simp only [Act.put, List.setIfInBounds_toArray, List.set_cons_zero, List.set_cons_succ, List.getElem_toArray, List.getElem_cons_zero, List.getElem_cons_succ]
      refine wpAnyH_take (i := 9) (v := .bool true) rfl (by kernel_rfl) (by kernel_rfl) (by kernel_rfl) (fun _ _ _ h => h) (Or.inl ⟨by rfl, fun w0 ⟨s1, s2, s3, s4, s5, s6, s7, s8, s9⟩ => ?_⟩) hHeld1 ?_
      · go_simp
      try simp only [Act.put, List.setIfInBounds_toArray, List.set_cons_zero, List.set_cons_succ, List.getElem_toArray, List.getElem_cons_zero, List.getElem_cons_succ]
      refine wpAnyH_done (by kernel_rfl) ?_ _
      have hO3 := W_hid (show OutB q base (L' ++ [(⟨f', t, p', s'⟩ : Rg)]) (w2.setCell ⟨g, n * 4 + 1, none⟩ (.int .u64 (t : Int))) from
        ⟨.slice (some ⟨g, 0, none⟩) (n + 1) cap, hv2.out.far (by show q ≠ g; exact fun e => hgq.out e.symm) _, by
          have h1 := (hrow2.out.stored (n * 4 + 1) (.int .u64 (t : Int))).1
          rw [rcl_set L' _ _ _ _ _ n hn] at h1
          rw [show (L' ++ [(⟨f', t, p', s'⟩ : Rg)]).length = n + 1 by simp [hn]]
          exact h1⟩)
      have hK3 := W_hid (hk2.out.setr (p := ⟨g, n * 4 + 1, none⟩) (.inl (rowOf_blk hv)) (fun e => hgq.out e.symm) (.int .u64 (t : Int)))
      clear hn
      gi_wp2
      exact ⟨hK3.out, by rw [hpu.out]; exact hO3.out⟩
    · rw [decide_eq_false hj] at hJ
      rw [if_neg hj] at hpu
      clear hj hE hget hlen1 hH happ
      subst hcode
      gi_wp2
      refine SQ.region_round (S := (fun w' => w'.cell? ⟨q, 0, none⟩ = some (.slice (some ⟨g, 0, none⟩) (n + 1) cap) ∧ w'.cell? ⟨bx, 0, none⟩ = some (.int .u64 (f : Int)) ∧ w'.cell? ⟨bx, 0 + 1, none⟩ = some (.int .u64 (t : Int)) ∧ w'.cell? ⟨bx, 0 + 2, none⟩ = some (.int .i64 p) ∧ w'.cell? ⟨bx, 0 + 3, none⟩ = some (.int .i64 s) ∧ w'.cell? ⟨g, n * 4, none⟩ = some (.int .u64 (f' : Int)) ∧ w'.cell? ⟨g, n * 4 + 1, none⟩ = some (.int .u64 (t' : Int)) ∧ w'.cell? ⟨g, n * 4 + 2, none⟩ = some (.int .i64 p') ∧ w'.cell? ⟨g, n * 4 + 3, none⟩ = some (.int .i64 s'))) (by kernel_rfl) (by kernel_rfl) (by rintro ⟨_, _, h⟩; exact h) ⟨hc, x0, x1, x2, x3, y0, y1, y2, y3⟩ (fun hHeld => ?_)
      refine wpAnyH_take (i := 0) (v := .int .i64 (n : Int)) rfl (by kernel_rfl) (by kernel_rfl) (by kernel_rfl) (fun _ _ _ h => h) (Or.inl ⟨by rfl, fun w0 ⟨s1, s2, s3, s4, s5, s6, s7, s8, s9⟩ => ?_⟩) hHeld ?_
      · go_simp
      try simp only [Act.put, List.setIfInBounds_toArray, List.set_cons_zero, List.set_cons_succ, List.getElem_toArray, List.getElem_cons_zero, List.getElem_cons_succ]
      refine wpAnyH_take (i := 1) (v := .bool true) rfl (by kernel_rfl) (by kernel_rfl) (by kernel_rfl) (fun _ _ _ h => h) (Or.inl ⟨by rfl, fun w0 ⟨s1, s2, s3, s4, s5, s6, s7, s8, s9⟩ => ?_⟩) hHeld ?_
      · go_simp
      try simp only [Act.put, List.setIfInBounds_toArray, List.set_cons_zero, List.set_cons_succ, List.getElem_toArray, List.getElem_cons_zero, List.getElem_cons_succ]
      refine wpAnyH_take (i := 2) (v := .bool true) rfl (by kernel_rfl) (by kernel_rfl) (by kernel_rfl) (fun _ _ _ h => h) (Or.inl ⟨by rfl, fun w0 ⟨s1, s2, s3, s4, s5, s6, s7, s8, s9⟩ => ?_⟩) hHeld ?_
      · go_simp
      try simp only [Act.put, List.setIfInBounds_toArray, List.set_cons_zero, List.set_cons_succ, List.getElem_toArray, List.getElem_cons_zero, List.getElem_cons_succ]
      refine wpAnyH_take (i := 3) (v := .slice (some ⟨g, 0, none⟩) (n + 1) cap) rfl (by kernel_rfl) (by kernel_rfl) (by kernel_rfl) (fun _ _ _ h => h) (Or.inl ⟨by rfl, fun w0 ⟨s1, s2, s3, s4, s5, s6, s7, s8, s9⟩ => ?_⟩) hHeld ?_
      · go_simp
      try simp only [Act.put, List.setIfInBounds_toArray, List.set_cons_zero, List.set_cons_succ, List.getElem_toArray, List.getElem_cons_zero, List.getElem_cons_succ]
      refine wpAnyH_take (i := 4) (v := .int .i64 (n : Int)) rfl (by kernel_rfl) (by kernel_rfl) (by kernel_rfl) (fun _ _ _ h => h) (Or.inl ⟨by rfl, fun w0 ⟨s1, s2, s3, s4, s5, s6, s7, s8, s9⟩ => ?_⟩) hHeld ?_
      · go_simp
      try simp only [Act.put, List.setIfInBounds_toArray, List.set_cons_zero, List.set_cons_succ, List.getElem_toArray, List.getElem_cons_zero, List.getElem_cons_succ]
      refine wpAnyH_take (i := 5) (v := .pointer (some ⟨g, n * 4, none⟩)) rfl (by kernel_rfl) (by kernel_rfl) (by kernel_rfl) (fun _ _ _ h => h) (Or.inl ⟨by rfl, fun w0 ⟨s1, s2, s3, s4, s5, s6, s7, s8, s9⟩ => ?_⟩) hHeld ?_
      · (go_simp; intro h9; omega)
      try simp only [Act.put, List.setIfInBounds_toArray, List.set_cons_zero, List.set_cons_succ, List.getElem_toArray, List.getElem_cons_zero, List.getElem_cons_succ]
      refine wpAnyH_take (i := 6) (v := (.agg #[.int .u64 (f' : Int), .int .u64 (t' : Int), .int .i64 p', .int .i64 s'])) rfl (by kernel_rfl) (by kernel_rfl) (by kernel_rfl) (fun _ _ _ h => h) (Or.inl ⟨by rfl, fun w0 ⟨s1, s2, s3, s4, s5, s6, s7, s8, s9⟩ => ?_⟩) hHeld ?_
      · go_simp
      try simp only [Act.put, List.setIfInBounds_toArray, List.set_cons_zero, List.set_cons_succ, List.getElem_toArray, List.getElem_cons_zero, List.getElem_cons_succ]
      refine wpAnyH_take (i := 7) (v := .agg #[.int .u64 (f : Int), .int .u64 (t : Int), .int .i64 p, .int .i64 s]) rfl (by kernel_rfl) (by kernel_rfl) (by kernel_rfl) (fun _ _ _ h => h) (Or.inl ⟨by rfl, fun w0 ⟨s1, s2, s3, s4, s5, s6, s7, s8, s9⟩ => ?_⟩) hHeld ?_
      · go_simp
      try simp only [Act.put, List.setIfInBounds_toArray, List.set_cons_zero, List.set_cons_succ, List.getElem_toArray, List.getElem_cons_zero, List.getElem_cons_succ]
      refine wpAnyH_ready (rs := [8]) (by kernel_rfl) (by simp) ?_
      refine AllReadyH.cons rfl (fun K hK => ?_) AllReadyH.nil
      go_simp
      refine (hJ.out _).mono ?_
      rintro e w2 ⟨rfl, bel2⟩
      replace bel2 := Own.bundrew bel2
      have hX2 : RB w2 bx ⟨f, t, p, s⟩ := hX.keep bel2
      have hv2 := W_hid (hv.keep bel2)
      have hrow2 := W_hid (Own.below hrow bel2)
      have hk2 : Hid (Kq m q V w2) := (Kq.refl q hmV).below bel2 hv.lt
      have hs2 := bel2.size
      obtain ⟨x0', x1', x2', x3'⟩ := RB.re hX2
      have hc' := hv2.out.cell (j := 0) rfl
      have hf' := hv2.out.fz 0
      have hgz2 := own_fz hrow2.out rfl (n * 4 + 1)
      obtain ⟨y0', y1', y2', y3'⟩ := hY.out.keep bel2
      refine hK.out _ _ ⟨hc', x0', x1', x2', x3', y0', y1', y2', y3'⟩ (fun hHeld1 => ?_)
      clear hK K
      try simp only [Act.put, List.setIfInBounds_toArray, List.set_cons_zero, List.set_cons_succ, List.getElem_toArray, List.getElem_cons_zero, List.getElem_cons_succ]
      refine wpAnyH_take (i := 9) (v := .bool false) rfl (by kernel_rfl) (by kernel_rfl) (by kernel_rfl) (fun _ _ _ h => h) (Or.inl ⟨by rfl, fun w0 ⟨s1, s2, s3, s4, s5, s6, s7, s8, s9⟩ => ?_⟩) hHeld1 ?_
      · go_simp
      try simp only [Act.put, List.setIfInBounds_toArray, List.set_cons_zero, List.set_cons_succ, List.getElem_toArray, List.getElem_cons_zero, List.getElem_cons_succ]
      refine wpAnyH_done (by kernel_rfl) ?_ _
      have happ := W_hid (fun (w4 : World) v' h1 h2 h3 => OutB.appended (q := q) (base := base) (n := w2.heap.size) (L := L' ++ [(⟨f', t', p', s'⟩ : Rg)]) (V := w2) (w1 := w4) (v := .slice (some ⟨g, 0, none⟩) (n + 1) cap) (v' := v') (tmp := .cells #[.int .u64 (f : Int), .int .u64 (t : Int), .int .i64 p, .int .i64 s] 55) (r := ⟨f, t, p, s⟩) hv2.out (by rw [List.length_append, hn]; exact hrow2.out) h1 h2 h3 hq (Nat.le_refl _))
      have hle : (L' ++ [(⟨f', t', p', s'⟩ : Rg)]).length = n + 1 := by simp [hn]
      rw [hle] at happ
      have hrow3 := hrow2.out
      clear hle hn
      gi_wp2_with (first | (gi_at_builtin; apply Hid.out) | gi_in)
      refine W_hid ?_
      refine wpListIn_append_own_at _ rfl (.tmp 51) (.tmp 53) 41 rfl base 55 i0 (.agg #[.int .u64 0, .int .u64 0, .int .i64 0, .int .i64 0]) 4 32 Tryz.underlying41 hi0 hz0 hz1 hz2 rfl (by decide) _ (n + 1) (rcl (L' ++ [(⟨f', t', p', s'⟩ : Rg)])) rfl (hrow3.alloc _) ⟨w2.heap.size, 0, none⟩ 1 1 (rv ⟨f, t, p, s⟩) rfl rfl (four_new _ _ _ _ _ _ _) (by intro u hu; simp only [rv, List.mem_cons, List.not_mem_nil, or_false] at hu; rcases hu with rfl | rfl | rfl | rfl <;> rfl) (by unfold maxLen; omega) (by omega) (by simp; omega) ?_
      intro v' w3 hown' hgrow _ hat
      obtain ⟨hO3, hK3, hv3⟩ := happ.out w3 v' hown' (by first | exact hgrow | exact Own.undrew hgrow) hat
      obtain ⟨va2, vc2, rfl⟩ := Own.form hown'
      have hc3 := hv3.cell (j := 0) rfl
      have hf3 := hv3.fz 0
      gi_wp2
      exact ⟨hk2.out.then hK3, by rw [hpu.out]; exact hO3⟩

/-- The activation in a round of replace's inner loop. -/
def RepAct (q bx : Nat) (x : Rg) (a : Act) : Prop := ∃ u0 u1 u2 u3 u4 u5 u6 u7 u8 u10 u11 u13 u14 u15 u16 u17 u18 u19 u20 u21 u22 u23 u24 u25 u26 u27 u28 u29 u30 u32 u33 u34 u35 u36 u37 u38 u39 u40 u41 u42 u43 u44 u45 u46 u47 u48 u49 u50 u51 u52 u53 u54 u55 u56 : Value, a = { tmps := #[u0, u1, u2, u3, u4, u5, u6, u7, u8, .pointer (some ⟨q, 0, none⟩), u10, u11, .pointer (some ⟨bx, 0, none⟩), u13, u14, u15, u16, u17, u18, u19, u20, u21, u22, u23, u24, u25, u26, u27, u28, u29, u30, ra x, u32, u33, u34, u35, u36, u37, u38, u39, u40, u41, u42, u43, u44, u45, u46, u47, u48, u49, u50, u51, u52, u53, u54, u55, u56], defers := [] }
theorem rep_round (c : Code) (hcode : Tryz.f103.body.bind rfBody = some c) (lq m q base bx : Nat) (V : World) (L : List Rg) (x : Rg) (a : Act) (ha : RepAct q bx x a)
    (hO : OutB q base L V) (hX : RB V bx x) (hbx : m ≤ bx) (hmV : m ≤ V.heap.size) (hq : q < base) (hlen : L.length ≤ 137438953472) (hbase : base ≤ V.heap.size) :
    c.wpIn (Fence.wide.inRound lq) 0 Tryz.prog (pushPost m q base L x V) a V := by
  obtain ⟨u0, u1, u2, u3, u4, u5, u6, u7, u8, u10, u11, u13, u14, u15, u16, u17, u18, u19, u20, u21, u22, u23, u24, u25, u26, u27, u28, u29, u30, u32, u33, u34, u35, u36, u37, u38, u39, u40, u41, u42, u43, u44, u45, u46, u47, u48, u49, u50, u51, u52, u53, u54, u55, u56, rfl⟩ := ha
  obtain ⟨f, t, p, s⟩ := x
  exact rep_body c hcode lq m q base bx V L f t p s _ _ _ _ _ _ _ _ _ _ _ _ _ _ _ _ _ _ _ _ _ _ _ _ _ _ _ _ _ _ _ _ _ _ _ _ _ _ _ _ _ _ _ _ _ _ _ _ _ _ _ _ _ _ hO hX hbx hmV hq hlen hbase
end Go.Proofs.YtkomahekdcaiaaaGreatDoor

/- A list made of pieces: replace. -/
namespace Go.Proofs.YtkomahekdcaiaaaGreatDoor
open Go.ChangeShapes Go.WideShapes Go.ChangeAt Go.RowKit Go.Shelf
open SQ
set_option linter.unusedVariables false
set_option linter.unusedSimpArgs false
attribute [local go_sem] Oper.semAt_some
open RG (Rg)

theorem own_putD {V : World} {base e size n D : Nat} {v : Value} {xs : List Value} {o : Obj} (h : V.ownsRow base e size v n xs) (hD : V.heap[D]? = some (.deferred (some []))) : (V.putObj D o).ownsRow base e size v n xs :=
  own_of h (fun g hg => World.putObj_heap_other (fun e => by
    subst e
    exact (gown_cells h g hg).1.not hD rfl rfl))
set_option maxRecDepth 100000 in
set_option maxHeartbeats 8000000 in
theorem replace_any (ao ai : Option Addr) (n cap ni capi : Nat) (l m : List Rg) (lo hi : Nat) (w : World) (h : GL w ao n cap l) (hi' : GL w ai ni capi m) (hl1 : l.length ≤ 34359738368) (hl2 : m.length ≤ 34359738368) :
    GvL 103 #[.slice ao n cap, .int .u64 (lo : Int), .int .u64 (hi : Int), .slice ai ni capi] (RG.one (RG.parts 0 lo l ++ RG.parts lo hi m ++ RG.parts hi 140737488355328 l)) w := by
  unfold GvL
  refine wide_fit ?_
  obtain ⟨i0, hi0, hz0, hz1, hz2⟩ := info_parts info_reg
  obtain ⟨w1, hw1⟩ : ∃ w1, w.alloc (.cells #[.slice none 0 0] 41) = w1 := ⟨_, rfl⟩
  have hb1 : Below w.heap.size w w1 := by rw [← hw1]; exact (Below.refl _ _).alloc (Nat.le_refl _) _
  have hs1 : w1.heap.size = w.heap.size + 1 := by rw [← hw1]; simp
  have hQ1 : Blk w1 w.heap.size 41 [.slice none 0 0] := by rw [← hw1]; exact Blk.new _ _ [.slice none 0 0] rfl
  have mk : ∀ (w0 : World) (a : Value) (b c : Value), Below w0.heap.size w0 (((w0.alloc (.cells #[a] 41)).alloc (.cells #[b] 36)).alloc (.cells #[c] 36)) ∧ (((w0.alloc (.cells #[a] 41)).alloc (.cells #[b] 36)).alloc (.cells #[c] 36)).heap.size = w0.heap.size + 3 :=
    fun w0 a b c => ⟨(((Below.refl _ _).alloc (Nat.le_refl _) _).alloc (by simp) _).alloc (by simp; omega) _, by simp⟩
  have h1 := h.keep hb1
  have hi1 := hi'.keep hb1
  have p1 := parts_any ao n cap 0 lo w1
  have m1 := ML.made 0 lo h1.1 h1.2
  obtain ⟨k1, k2⟩ := mk w1 (.slice ao n cap) (.int .u64 ((0 : Nat) : Int)) (.int .u64 (lo : Int))
  obtain ⟨w2, hw2⟩ : ∃ w2, ((w1.alloc (.cells #[.slice ao n cap] 41)).alloc (.cells #[.int .u64 ((0 : Nat) : Int)] 36)).alloc (.cells #[.int .u64 (lo : Int)] 36) = w2 := ⟨_, rfl⟩
  rw [hw2] at p1 m1 k1 k2
  have p2 := parts_any ai ni capi lo hi w2
  have m2 := ML.made lo hi (hi1.keep k1).1 (hi1.keep k1).2
  obtain ⟨k3, k4⟩ := mk w2 (.slice ai ni capi) (.int .u64 (lo : Int)) (.int .u64 (hi : Int))
  obtain ⟨w3, hw3⟩ : ∃ w3, ((w2.alloc (.cells #[.slice ai ni capi] 41)).alloc (.cells #[.int .u64 (lo : Int)] 36)).alloc (.cells #[.int .u64 (hi : Int)] 36) = w3 := ⟨_, rfl⟩
  rw [hw3] at p2 m2 k3 k4
  have p3 := parts_any ao n cap hi 140737488355328 w3
  have m3 := ML.made hi 140737488355328 ((h1.keep k1).keep k3).1 ((h1.keep k1).keep k3).2
  obtain ⟨k5, k6⟩ := mk w3 (.slice ao n cap) (.int .u64 (hi : Int)) (.int .u64 ((140737488355328 : Nat) : Int))
  obtain ⟨w4, hw4⟩ : ∃ w4, ((w3.alloc (.cells #[.slice ao n cap] 41)).alloc (.cells #[.int .u64 (hi : Int)] 36)).alloc (.cells #[.int .u64 ((140737488355328 : Nat) : Int)] 36) = w4 := ⟨_, rfl⟩
  rw [hw4] at p3 m3 k5 k6
  clear mk hw2 hw3 hw4
  have p1 := W_hid p1
  have p2 := W_hid p2
  have p3 := W_hid p3
  obtain ⟨w5, hw5⟩ : ∃ w5, w4.alloc (.cells #[.func (.func 139) #[] #[.pointer (some ⟨w1.heap.size, 0, none⟩), .pointer (some ⟨w1.heap.size + 1, 0, none⟩), .pointer (some ⟨w1.heap.size + 1 + 1, 0, none⟩)], .func (.func 139) #[] #[.pointer (some ⟨w2.heap.size, 0, none⟩), .pointer (some ⟨w2.heap.size + 1, 0, none⟩), .pointer (some ⟨w2.heap.size + 1 + 1, 0, none⟩)], .func (.func 139) #[] #[.pointer (some ⟨w3.heap.size, 0, none⟩), .pointer (some ⟨w3.heap.size + 1, 0, none⟩), .pointer (some ⟨w3.heap.size + 1 + 1, 0, none⟩)]] 142) = w5 := ⟨_, rfl⟩
  have hV5 : Blk w5 w4.heap.size 142 [.func (.func 139) #[] #[.pointer (some ⟨w1.heap.size, 0, none⟩), .pointer (some ⟨w1.heap.size + 1, 0, none⟩), .pointer (some ⟨w1.heap.size + 1 + 1, 0, none⟩)], .func (.func 139) #[] #[.pointer (some ⟨w2.heap.size, 0, none⟩), .pointer (some ⟨w2.heap.size + 1, 0, none⟩), .pointer (some ⟨w2.heap.size + 1 + 1, 0, none⟩)], .func (.func 139) #[] #[.pointer (some ⟨w3.heap.size, 0, none⟩), .pointer (some ⟨w3.heap.size + 1, 0, none⟩), .pointer (some ⟨w3.heap.size + 1 + 1, 0, none⟩)]] := by rw [← hw5]; exact Blk.new _ _ [_, _, _] rfl
  have k7 : Below w4.heap.size w4 w5 := by rw [← hw5]; exact (Below.refl _ _).alloc (Nat.le_refl _) _
  have hs5 : w5.heap.size = w4.heap.size + 1 := by rw [← hw5]; simp
  have hQ5 : Blk w5 w.heap.size 41 [.slice none 0 0] := (((hQ1.keep k1).keep k3).keep k5).keep k7
  have hb5 : Below w.heap.size w w5 := by
    have a2 := hb1.size; have a3 := k1.size; have a4 := k3.size; have a5 := k5.size
    exact (((hb1.trans (k1.mono (by omega))).trans (k3.mono (by omega))).trans (k5.mono (by omega))).trans (k7.mono (by omega))
  have hr5 := rowOf_blk hQ5
  have hl5 := h.1
  have M1 : MA w.heap.size ao n cap l 0 lo w1.heap.size (w1.heap.size + 1) (w1.heap.size + 1 + 1) w5 := (((m1.keep k3).keep k5).keep k7).ma (by omega) (by omega) (by omega) (fun a e e' => by have := h.2 a e e'; omega) hr5
  have M2 : MA w.heap.size ai ni capi m lo hi w2.heap.size (w2.heap.size + 1) (w2.heap.size + 1 + 1) w5 := ((m2.keep k5).keep k7).ma (by omega) (by omega) (by omega) (fun a e e' => by have := hi'.2 a e e'; omega) hr5
  have M3 : MA w.heap.size ao n cap l hi 140737488355328 w3.heap.size (w3.heap.size + 1) (w3.heap.size + 1 + 1) w5 := (m3.keep k7).ma (by omega) (by omega) (by omega) (fun a e e' => by have := h.2 a e e'; omega) hr5
  have hbq : Hid (w.heap.size < w5.heap.size ∧ w4.heap.size < w5.heap.size ∧ w4.heap.size ≠ w.heap.size) := ⟨by omega, by omega, by omega⟩
  have hG1 := parts_gives w.heap.size ao n cap l 0 lo w1.heap.size (w1.heap.size + 1) (w1.heap.size + 1 + 1)
  have hG2 := parts_gives w.heap.size ai ni capi m lo hi w2.heap.size (w2.heap.size + 1) (w2.heap.size + 1 + 1)
  have hG3 := parts_gives w.heap.size ao n cap l hi 140737488355328 w3.heap.size (w3.heap.size + 1) (w3.heap.size + 1 + 1)
  have L1 : (RG.parts 0 lo l).length ≤ 34359738368 := by rw [parts_len]; exact Nat.le_trans (List.length_filter_le _ _) hl1
  have L2 : (RG.parts lo hi m).length ≤ 34359738368 := by rw [parts_len]; exact Nat.le_trans (List.length_filter_le _ _) hl2
  have L3 : (RG.parts hi 140737488355328 l).length ≤ 34359738368 := by rw [parts_len]; exact Nat.le_trans (List.length_filter_le _ _) hl1
  obtain ⟨X1, hX1⟩ : ∃ X, RG.parts 0 lo l = X := ⟨_, rfl⟩
  obtain ⟨X2, hX2⟩ : ∃ X, RG.parts lo hi m = X := ⟨_, rfl⟩
  obtain ⟨X3, hX3⟩ : ∃ X, RG.parts hi 140737488355328 l = X := ⟨_, rfl⟩
  rw [hX1] at hG1 L1 ⊢
  rw [hX2] at hG2 L2 ⊢
  rw [hX3] at hG3 L3 ⊢
  have hone : Hid (RG.one (X1 ++ X2 ++ X3) = X3.foldl RG.push (X2.foldl RG.push (X1.foldl RG.push []))) := by show _ = _; simp [RG.one]
  replace L1 := W_hid L1
  replace L2 := W_hid L2
  replace L3 := W_hid L3
  have cell5 := W_hid (fun (V : World) (hk : Kp w.heap.size w5 V) => show Blk V w4.heap.size 142 _ from (hk.block _ hbq.out.2.1 hbq.out.2.2 (by rw [hr5]; simp [Value.ownBlock])).trans hV5)
  replace hs1 := W_hid hs1
  replace k2 := W_hid k2
  replace k4 := W_hid k4
  replace k6 := W_hid k6
  replace hs5 := W_hid hs5
  clear hX1 hX2 hX3 m1 m2 m3 h1 hi1 hl5 hQ1
  refine callsIn_of_wp_marks Tryz.func103 rfl trivial ?_ rfl
  simp only [Tryz.ntmps103, List.size_toArray, List.length_cons, List.length_nil, Nat.reduceAdd, Nat.reduceSub, Array.replicate_succ, Array.replicate_zero, List.push_toArray, List.append_toArray, List.nil_append, List.cons_append]
  gi_wp2
  refine ⟨trivial, rfl, ?_⟩
  refine (fit_wide p1.out).mono ?_
  rintro e w2' ⟨rfl, rfl⟩
  gi_wp2
  refine ⟨trivial, rfl, ?_⟩
  refine (fit_wide p2.out).mono ?_
  rintro e w3' ⟨rfl, rfl⟩
  gi_wp2
  refine ⟨trivial, rfl, ?_⟩
  refine (fit_wide p3.out).mono ?_
  rintro e w4' ⟨rfl, rfl⟩
  gi_wp2
  refine wpIn_loop_rounds 4 ?_
  rw [roundsIn_succ]
  obtain ⟨c0, c1, c2⟩ : w5.cell? ⟨w4'.heap.size, 0, none⟩ = _ ∧ w5.cell? ⟨w4'.heap.size, 1, none⟩ = _ ∧ w5.cell? ⟨w4'.heap.size, 2, none⟩ = _ := ⟨hV5.cell (j := 0) rfl, hV5.cell (j := 1) rfl, hV5.cell (j := 2) rfl⟩
  have hlen1 : ([] : List Rg).length ≤ 0 := Nat.le_refl _
  gi_wp2
  refine range_gives (gf := 139) rfl enters_parts hG1 M1 (fun V V' _ hk h => h.kp hk) (fun _ => rfl)
    (fun k V => OutB w.heap.size w5.heap.size ((X1.take k).foldl RG.push []) V ∧ Kp w.heap.size w5 V)
    (fun c k V => False)
    (fun k V V' row h hg hr => ⟨h.1.own hg (fun r e => (hr r e).2), h.2.own h.1.rw hg (fun r e => ⟨Nat.le_trans (Nat.le_refl _) (hr r e).1, (hr r e).2⟩)⟩)
    (fun c k V V' row h hg hr => h)
    (fun k V h => h.1.rw) (fun c k V h => h.elim) ⟨⟨_, hQ5, World.ownsRow_nil _ _ _ _⟩, Kp.refl _ _⟩
    (fun m' x a' V => ∃ bx, m' ≤ bx ∧ RB V bx x ∧ RepAct w.heap.size bx x a')
    (fun m' x a' _ V V' row h hg hr => by
      obtain ⟨bx, h1, h3, h5⟩ := h
      exact ⟨bx, h1, Blk.own' h3 hg (fun r e => (hr r e).2), h5⟩)
    ?a1 ?b1 ?d1 ?s1
  case a1 =>
    rintro lq k ⟨f, t, p, s⟩ V K hsz ⟨hO, hB⟩ hK
    have hkp := (Kp.refl w.heap.size V).alloc hO.rw.box.lt (.cells #[.int .u64 (f : Int), .int .u64 (t : Int), .int .i64 p, .int .i64 s] 55)
    have hKn := fun a' ha' => hK a' _ hkp ⟨hO.own (World.grownBy_alloc _ _ none) (fun r e => by cases e), hB.then hkp⟩ ⟨V.heap.size, Nat.le_refl _, Blk.new _ _ _ rfl, ha'⟩
    replace hKn := W_hid hKn
    simp only [ra]
    gi_wp2
    exact hKn.out _ ⟨_, _, _, _, _, _, _, _, _, _, _, _, _, _, _, _, _, _, _, _, _, _, _, _, _, _, _, _, _, _, _, _, _, _, _, _, _, _, _, _, _, _, _, _, _, _, _, _, _, _, _, _, _, _, rfl⟩
  case b1 =>
    rintro lq k x a' m' V hx hm hmV ⟨hO, hB⟩ ⟨bx, hbx, hX, ha⟩
    have hkl : k < X1.length := (List.getElem?_eq_some_iff.1 hx).1
    have hll : ((X1.take k).foldl RG.push []).length ≤ 137438953472 := by
      have h1 := push_len (X1.take k) []
      have h2 := L1.out
      have h3 := List.length_take_le k X1
      have h4 := hlen1
      omega
    refine wpIn_mono (rep_round _ (by kernel_rfl) lq m' w.heap.size w5.heap.size bx V _ x a' ha hO hX hbx hmV hbq.out.1 hll hB.size) ?_
    rintro e a3 W3 hp
    cases e with
    | normal => exact ⟨hp.1, by rw [push_take _ _ k x hx]; exact hp.2, hB.then' hp.1 hm⟩
    | ret => exact hp.elim
    | exit id => exact hp.elim
    | goto t => exact hp.elim
    | panic c => exact hp.elim
    | outgrown => exact hp.elim
  case s1 =>
    rintro D c k V hD hlt h hK
    exact h.elim
  rintro D1 V1 hD1 ⟨hO1, hk1⟩ hkp1 hK1
  rw [List.take_length] at hO1
  have hlen2 : (X1.foldl RG.push []).length ≤ 34359738368 := by
    have h1 := push_len X1 []
    have h2 := L1.out
    simp only [List.length_nil] at h1
    omega
  have hbV := cell5.out V1 hk1
  have d0 := hbV.cell (j := 0) rfl
  have d1 := hbV.cell (j := 1) rfl
  have d2 := hbV.cell (j := 2) rfl
  have MV2 := M2.kp hk1
  replace hlen2 := W_hid hlen2
  gi_wp2
  rw [roundsIn_succ]
  gi_wp2
  refine range_gives (gf := 139) rfl enters_parts hG2 MV2 (fun V V' _ hk h => h.kp hk) (fun _ => rfl)
    (fun k V => OutB w.heap.size w5.heap.size ((X2.take k).foldl RG.push (X1.foldl RG.push [])) V ∧ Kp w.heap.size w5 V)
    (fun c k V => False)
    (fun k V V' row h hg hr => ⟨h.1.own hg (fun r e => (hr r e).2), h.2.own h.1.rw hg (fun r e => ⟨Nat.le_trans hk1.size (hr r e).1, (hr r e).2⟩)⟩)
    (fun c k V V' row h hg hr => h)
    (fun k V h => h.1.rw) (fun c k V h => h.elim) ⟨hO1, hk1⟩
    (fun m' x a' V => ∃ bx, m' ≤ bx ∧ RB V bx x ∧ RepAct w.heap.size bx x a')
    (fun m' x a' _ V V' row h hg hr => by
      obtain ⟨bx, h1, h3, h5⟩ := h
      exact ⟨bx, h1, Blk.own' h3 hg (fun r e => (hr r e).2), h5⟩)
    ?a2 ?b2 ?d2 ?s2
  case a2 =>
    rintro lq k ⟨f, t, p, s⟩ V K hsz ⟨hO, hB⟩ hK
    have hkp := (Kp.refl w.heap.size V).alloc hO.rw.box.lt (.cells #[.int .u64 (f : Int), .int .u64 (t : Int), .int .i64 p, .int .i64 s] 55)
    have hKn := fun a' ha' => hK a' _ hkp ⟨hO.own (World.grownBy_alloc _ _ none) (fun r e => by cases e), hB.then hkp⟩ ⟨V.heap.size, Nat.le_refl _, Blk.new _ _ _ rfl, ha'⟩
    replace hKn := W_hid hKn
    simp only [ra]
    gi_wp2
    exact hKn.out _ ⟨_, _, _, _, _, _, _, _, _, _, _, _, _, _, _, _, _, _, _, _, _, _, _, _, _, _, _, _, _, _, _, _, _, _, _, _, _, _, _, _, _, _, _, _, _, _, _, _, _, _, _, _, _, _, rfl⟩
  case b2 =>
    rintro lq k x a' m' V hx hm hmV ⟨hO, hB⟩ ⟨bx, hbx, hX, ha⟩
    have hkl : k < X2.length := (List.getElem?_eq_some_iff.1 hx).1
    have hll : ((X2.take k).foldl RG.push (X1.foldl RG.push [])).length ≤ 137438953472 := by
      have h1 := push_len (X2.take k) (X1.foldl RG.push [])
      have h2 := L2.out
      have h3 := List.length_take_le k X2
      have h4 := hlen2.out
      omega
    refine wpIn_mono (rep_round _ (by kernel_rfl) lq m' w.heap.size w5.heap.size bx V _ x a' ha hO hX hbx hmV hbq.out.1 hll hB.size) ?_
    rintro e a3 W3 hp
    cases e with
    | normal => exact ⟨hp.1, by rw [push_take _ _ k x hx]; exact hp.2, hB.then' hp.1 (Nat.le_trans hk1.size hm)⟩
    | ret => exact hp.elim
    | exit id => exact hp.elim
    | goto t => exact hp.elim
    | panic c => exact hp.elim
    | outgrown => exact hp.elim
  case s2 =>
    rintro D c k V hD hlt h hK
    exact h.elim
  rintro D2 V2 hD2 ⟨hO2, hk2⟩ hkp2 hK2
  rw [List.take_length] at hO2
  have hlen3 : (X2.foldl RG.push (X1.foldl RG.push [])).length ≤ 68719476736 := by
    have h1 := push_len X2 (X1.foldl RG.push [])
    have h2 := L2.out
    have h3 := hlen2.out
    omega
  have hbV2 := cell5.out V2 hk2
  have e0 := hbV2.cell (j := 0) rfl
  have e1 := hbV2.cell (j := 1) rfl
  have e2 := hbV2.cell (j := 2) rfl
  have MV3 := M3.kp hk2
  have hK12 := (hkp2.keeps hO1.rw 0).same D1 _ (Nat.zero_le _) hK1 rfl
  replace hlen3 := W_hid hlen3
  gi_wp2
  rw [roundsIn_succ]
  gi_wp2
  refine range_gives (gf := 139) rfl enters_parts hG3 MV3 (fun V V' _ hk h => h.kp hk) (fun _ => rfl)
    (fun k V => OutB w.heap.size w5.heap.size ((X3.take k).foldl RG.push (X2.foldl RG.push (X1.foldl RG.push []))) V ∧ Kp w.heap.size w5 V)
    (fun c k V => False)
    (fun k V V' row h hg hr => ⟨h.1.own hg (fun r e => (hr r e).2), h.2.own h.1.rw hg (fun r e => ⟨Nat.le_trans hk2.size (hr r e).1, (hr r e).2⟩)⟩)
    (fun c k V V' row h hg hr => h)
    (fun k V h => h.1.rw) (fun c k V h => h.elim) ⟨hO2, hk2⟩
    (fun m' x a' V => ∃ bx, m' ≤ bx ∧ RB V bx x ∧ RepAct w.heap.size bx x a')
    (fun m' x a' _ V V' row h hg hr => by
      obtain ⟨bx, h1, h3, h5⟩ := h
      exact ⟨bx, h1, Blk.own' h3 hg (fun r e => (hr r e).2), h5⟩)
    ?a3 ?b3 ?d3 ?s3
  case a3 =>
    rintro lq k ⟨f, t, p, s⟩ V K hsz ⟨hO, hB⟩ hK
    have hkp := (Kp.refl w.heap.size V).alloc hO.rw.box.lt (.cells #[.int .u64 (f : Int), .int .u64 (t : Int), .int .i64 p, .int .i64 s] 55)
    have hKn := fun a' ha' => hK a' _ hkp ⟨hO.own (World.grownBy_alloc _ _ none) (fun r e => by cases e), hB.then hkp⟩ ⟨V.heap.size, Nat.le_refl _, Blk.new _ _ _ rfl, ha'⟩
    replace hKn := W_hid hKn
    simp only [ra]
    gi_wp2
    exact hKn.out _ ⟨_, _, _, _, _, _, _, _, _, _, _, _, _, _, _, _, _, _, _, _, _, _, _, _, _, _, _, _, _, _, _, _, _, _, _, _, _, _, _, _, _, _, _, _, _, _, _, _, _, _, _, _, _, _, rfl⟩
  case b3 =>
    rintro lq k x a' m' V hx hm hmV ⟨hO, hB⟩ ⟨bx, hbx, hX, ha⟩
    have hkl : k < X3.length := (List.getElem?_eq_some_iff.1 hx).1
    have hll : ((X3.take k).foldl RG.push (X2.foldl RG.push (X1.foldl RG.push []))).length ≤ 137438953472 := by
      have h1 := push_len (X3.take k) (X2.foldl RG.push (X1.foldl RG.push []))
      have h2 := L3.out
      have h3 := List.length_take_le k X3
      have h4 := hlen3.out
      omega
    refine wpIn_mono (rep_round _ (by kernel_rfl) lq m' w.heap.size w5.heap.size bx V _ x a' ha hO hX hbx hmV hbq.out.1 hll hB.size) ?_
    rintro e a3 W3 hp
    cases e with
    | normal => exact ⟨hp.1, by rw [push_take _ _ k x hx]; exact hp.2, hB.then' hp.1 (Nat.le_trans hk2.size hm)⟩
    | ret => exact hp.elim
    | exit id => exact hp.elim
    | goto t => exact hp.elim
    | panic c => exact hp.elim
    | outgrown => exact hp.elim
  case s3 =>
    rintro D c k V hD hlt h hK
    exact h.elim
  rintro D3 V3 hD3 ⟨hO3, hk3⟩ hkp3 hK3
  rw [List.take_length] at hO3
  have hK13 := (hkp3.keeps hO2.rw 0).same D1 _ (Nat.zero_le _) hK12 rfl
  have hK23 := (hkp3.keeps hO2.rw 0).same D2 _ (Nat.zero_le _) hK2 rfl
  obtain ⟨v, hv, hrow⟩ := hO3
  have hcv := hv.cell (j := 0) rfl
  obtain ⟨va, vc, rfl⟩ := Own.form hrow
  gi_wp2
  rw [roundsIn_succ]
  gi_wp2
  have hb3 : Below w.heap.size w V3 := hb5.trans (hk3.toBelow hb5.size (Nat.le_refl _) (fun g hg => by rw [hr5] at hg; cases hg))
  have n1 : D1 < V1.heap.size := (Array.getElem?_eq_some_iff.1 hK1).1
  have n2 : D2 < V2.heap.size := (Array.getElem?_eq_some_iff.1 hK2).1
  have n0 := hb5.size
  have q3 := hrow
  refine ⟨by simp, .inl ⟨_, _, rfl, run_takeDeferred hK3, ?_⟩⟩
  have j2 : ∀ o, (V3.putObj D3 o).heap[D2]? = some (.deferred (some [])) := fun o => (World.putObj_heap_other (by omega)).trans hK23
  have j1 : ∀ o o', ((V3.putObj D3 o).putObj D2 o').heap[D1]? = some (.deferred (some [])) := fun o o' => (World.putObj_heap_other (by omega)).trans ((World.putObj_heap_other (by omega)).trans hK13)
  refine ⟨by simp, .inl ⟨_, _, rfl, run_takeDeferred (j2 _), ?_⟩⟩
  refine ⟨by simp, .inl ⟨_, _, rfl, run_takeDeferred (j1 _ _), ?_⟩⟩
  refine ⟨_, results_tmp rfl _ _ _, .slice va (List.foldl RG.push (List.foldl RG.push (List.foldl RG.push [] X1) X2) X3).length vc, rfl, ?_, Below.putD (Below.putD (Below.putD hb3 (by omega) hK3) (by omega) (j2 _)) (by omega) (j1 _ _)⟩
  rw [hone.out]
  exact Own.low (by omega) (own_putD (own_putD (own_putD hrow hK3) (j2 _)) (j1 _ _))
end Go.Proofs.YtkomahekdcaiaaaGreatDoor

namespace Go.Proofs.YtkomahekdcaiaaaGreatDoor
open Go.ChangeShapes Go.WideShapes Go.ChangeAt Go.RowKit
open SQ
set_option linter.unusedVariables false
set_option linter.unusedSimpArgs false
open RG (Rg)

set_option maxRecDepth 100000 in
theorem ok_size {s : Bool} {x : Option Rg} {l : List Rg} (h : RG.Ok s x l) : l.length * 4096 ≤ RG.Sz l := by
  induction l generalizing x with
  | nil => simp
  | cons r l ih =>
    have h1 := h.1.1.1
    have h2 := ih h.2
    obtain ⟨a1, a2, a3, a4⟩ := h1
    obtain ⟨a, ha⟩ : ∃ a, r.f = 4096 * a := ⟨r.f / 4096, by omega⟩
    obtain ⟨b, hb⟩ : ∃ b, r.t = 4096 * b := ⟨r.t / 4096, by omega⟩
    simp only [List.length_cons, RG.Sz]
    rw [Nat.succ_mul, ha, hb]
    omega
theorem ok_len {s : Bool} {x : Option Rg} {l : List Rg} (h : RG.Ok s x l) : l.length ≤ 34359738368 := by
  have h1 := ok_size h
  have h2 := RG.Sz_top h
  omega
theorem GL_blk {w : World} {g : Nat} {r : Rg} (h : RB w g r) : GL w (some ⟨g, 0, none⟩) 1 1 [r] :=
  ⟨⟨rfl, Nat.le_refl _, by unfold maxLen; omega, (fun e => by cases e), fun a ha j u hu => by
    cases ha
    rw [Addr.add_lit, Nat.zero_add]
    exact h.cell (by rw [rcl_single] at hu; exact hu)⟩, fun a e _ => by cases e; exact h.lt⟩
theorem GL_nil (w : World) : GL w none 0 0 [] := ⟨RS.nil w, (fun a e => by cases e)⟩
theorem parts_meet {lo hi : Nat} {l : List Rg} : RG.parts lo hi l = [] ↔ RG.meeting lo hi l = [] := by simp [RG.parts]

/-- A call gives a list in a row of its own, and a number of an error. -/
def GvE (f : FuncId) (args : Array Value) (L : List Rg) (E : Int) (w : World) : Prop :=
  Calls Tryz.prog f args w fun e w' => ∃ ao c, e = .returned (.tuple #[.slice ao L.length c, .int .i64 E]) ∧ w'.ownsRow w.heap.size 55 4 (.slice ao L.length c) L.length (rcl L) ∧ Below w.heap.size w w'
theorem GvE.none {f : FuncId} {args : Array Value} {E : Int} {w : World} (h : Gv f args (.tuple #[.slice none 0 0, .int .i64 E]) w) : GvE f args [] E w :=
  h.mono fun e w' hh => ⟨Option.none, 0, hh.1, World.ownsRow_nil _ _ _ _, hh.2⟩

noncomputable def adL (l : List Rg) (r : Rg) : List Rg := if RG.Ok true none l ∧ RG.good r ∧ RG.parts r.f r.t l = [] then RG.rep l r.f r.t [r] else []
noncomputable def adE (l : List Rg) (r : Rg) : Int := if RG.Ok true none l ∧ RG.good r then (if RG.parts r.f r.t l = [] then 0 else 102) else 2

set_option maxRecDepth 100000 in
set_option maxHeartbeats 4000000 in
theorem Add_any (ao : Option Addr) (n cap : Nat) (l : List Rg) (f t : Nat) (p s : Int) (w : World) (h : GL w ao n cap l) :
    GvE 96 #[.slice ao n cap, .agg #[.int .u64 (f : Int), .int .u64 (t : Int), .int .i64 p, .int .i64 s]] (adL l ⟨f, t, p, s⟩) (adE l ⟨f, t, p, s⟩) w := by
  have bb : Below w.heap.size w (w.alloc (.cells #[.int .u64 (f : Int), .int .u64 (t : Int), .int .i64 p, .int .i64 s] 55)) := (Below.refl _ _).alloc (Nat.le_refl _) _
  have hB0 : RB (w.alloc (.cells #[.int .u64 (f : Int), .int .u64 (t : Int), .int .i64 p, .int .i64 s] 55)) w.heap.size ⟨f, t, p, s⟩ := Blk.new _ _ _ rfl
  have hV := valid_any ao n cap l _ (h.keep bb).1
  have hI := W_hid (fun w => isRegion_any f t p s w)
  have hL := W_hid (h.keep bb)
  by_cases hok : RG.Ok true none l
  · rw [decide_eq_true hok] at hV
    replace hV := W_hid hV
    by_cases hg : RG.good ⟨f, t, p, s⟩
    · rw [decide_eq_true hg] at hI
      have hF := W_hid (fun w b1 b2 b3 h => first_meet ao n cap l f t b1 b2 b3 w h)
      have hMk := W_hid (fun w => meeting_any ao n cap f t w)
      by_cases hp : RG.parts f t l = []
      · rw [parts_meet.1 hp] at hF
        have hR : Hid (∀ w ai ni capi, GL w ao n cap l → GL w ai ni capi [⟨f, t, p, s⟩] → GvL 103 #[.slice ao n cap, .int .u64 (f : Int), .int .u64 (t : Int), .slice ai ni capi] (adL l ⟨f, t, p, s⟩) w) := by
          intro w ai ni capi h1 h2
          have := replace_any ao ai n cap ni capi l [⟨f, t, p, s⟩] f t w h1 h2 (ok_len hok) (by simp)
          rw [RG.parts_self (l := [⟨f, t, p, s⟩]) (fun r hr => by rw [List.mem_singleton.1 hr]; exact ⟨Nat.le_refl _, Nat.le_refl _, hg.1.2.2.1⟩)] at this
          unfold adL
          rw [if_pos ⟨hok, hg, hp⟩]
          exact this
        have hE : Hid (adE l ⟨f, t, p, s⟩ = 0) := by
          show _ = _
          unfold adE
          rw [if_pos ⟨hok, hg⟩, if_pos hp]
        unfold GvE
        generalize adL l ⟨f, t, p, s⟩ = LL at *
        clear hok hg hp h
        go_enter Tryz.func96, Tryz.ntmps96
        go_wp2_with fail
        refine hV.out.mono ?_
        rintro e w1 ⟨rfl, bel1⟩
        have hB1 := hB0.keep bel1
        obtain ⟨u0, u1, u2, u3⟩ := RB.re hB1
        replace hL := W_hid (hL.out.keep bel1)
        replace bb := bb.trans (bel1.mono bb.size)
        clear bel1 hV
        go_wp2_with fail
        refine (hI.out _).mono ?_
        rintro e w2 ⟨rfl, bel2⟩
        have hB2 := Blk.keep hB1 bel2
        obtain ⟨u0, u1, u2, u3⟩ := RB.re hB2
        replace hL := W_hid (hL.out.keep bel2)
        replace bb := bb.trans (bel2.mono bb.size)
        clear bel2 hB1
        go_wp2_with fail
        have hm := ML.made f t hL.out.1 hL.out.2
        obtain ⟨w3, hw3⟩ : ∃ w3, ((w2.alloc (.cells #[.slice ao n cap] 41)).alloc (.cells #[.int .u64 (f : Int)] 36)).alloc (.cells #[.int .u64 (t : Int)] 36) = w3 := ⟨_, rfl⟩
        have bel3 : Below w2.heap.size w2 w3 := by rw [← hw3]; exact (((Below.refl _ _).alloc (Nat.le_refl _) _).alloc (by simp) _).alloc (by simp; omega) _
        rw [hw3] at hm
        refine (hMk.out _).mono ?_
        rintro e w3' ⟨rfl, rfl⟩
        rw [hw3]
        have hB3 := Blk.keep hB2 bel3
        replace hL := W_hid (hL.out.keep bel3)
        replace bb := bb.trans (bel3.mono bb.size)
        clear bel3 hB2 hw3
        go_wp2_with fail
        refine (hF.out _ _ _ _ hm).mono ?_
        rintro e w4 ⟨rfl, bel4⟩
        have hB4 := Blk.keep hB3 bel4
        replace hL := W_hid (hL.out.keep bel4)
        replace bb := bb.trans (bel4.mono bb.size)
        simp only [fstV, ra]
        clear bel4 hB3 hm
        have bel5 : Below w4.heap.size w4 (w4.alloc (.cells #[.int .u64 0, .int .u64 0, .int .i64 0, .int .i64 0] 55)) := (Below.refl _ _).alloc (Nat.le_refl _) _
        have hB5 := Blk.keep hB4 bel5
        replace hL := W_hid (hL.out.keep bel5)
        replace bb := bb.trans (bel5.mono bb.size)
        obtain ⟨u0, u1, u2, u3⟩ := RB.re hB5
        have hB6 : RB ((w4.alloc (.cells #[.int .u64 0, .int .u64 0, .int .i64 0, .int .i64 0] 55)).alloc (.cells #[.int .u64 (f : Int), .int .u64 (t : Int), .int .i64 p, .int .i64 s] 55)) (w4.heap.size + 1) ⟨f, t, p, s⟩ := Blk.new _ _ _ (by simp)
        have bel6 : Below (w4.alloc (.cells #[.int .u64 0, .int .u64 0, .int .i64 0, .int .i64 0] 55)).heap.size (w4.alloc (.cells #[.int .u64 0, .int .u64 0, .int .i64 0, .int .i64 0] 55)) ((w4.alloc (.cells #[.int .u64 0, .int .u64 0, .int .i64 0, .int .i64 0] 55)).alloc (.cells #[.int .u64 (f : Int), .int .u64 (t : Int), .int .i64 p, .int .i64 s] 55)) := (Below.refl _ _).alloc (Nat.le_refl _) _
        replace hL := W_hid (hL.out.keep bel6)
        replace bb := bb.trans (bel6.mono bb.size)
        replace hR := W_hid (hR.out _ _ _ _ hL.out (GL_blk hB6))
        clear bel5 hB4 hB6 bel6
        go_wp2_with fail
        refine hR.out.mono ?_
        rintro e w7 ⟨v, rfl, hown, bel7⟩
        obtain ⟨va, vc, rfl⟩ := Own.form hown
        go_wp2_with fail
        go_ret2
        exact ⟨va, vc, by rw [hE.out]; rfl, Own.low bb.size hown, bb.trans (bel7.mono bb.size)⟩
      · obtain ⟨x, X, hX⟩ : ∃ x X, RG.meeting f t l = x :: X := by
          cases e : RG.meeting f t l with
          | nil => exact absurd (parts_meet.2 e) hp
          | cons x X => exact ⟨x, X, rfl⟩
        rw [hX] at hF
        obtain ⟨xf, xt, xp, xs⟩ := x
        have hE : Hid (adE l ⟨f, t, p, s⟩ = 102 ∧ adL l ⟨f, t, p, s⟩ = []) := by
          show _ ∧ _
          unfold adE adL
          rw [if_pos ⟨hok, hg⟩, if_neg hp, if_neg (fun h => hp h.2.2)]
          exact ⟨rfl, rfl⟩
        rw [hE.out.1, hE.out.2]
        refine GvE.none ?_
        clear hok hg hp h hX
        go_enter Tryz.func96, Tryz.ntmps96
        go_wp2_with fail
        refine hV.out.mono ?_
        rintro e w1 ⟨rfl, bel1⟩
        have hB1 := hB0.keep bel1
        obtain ⟨u0, u1, u2, u3⟩ := RB.re hB1
        replace hL := W_hid (hL.out.keep bel1)
        replace bb := bb.trans (bel1.mono bb.size)
        clear bel1 hV
        go_wp2_with fail
        refine (hI.out _).mono ?_
        rintro e w2 ⟨rfl, bel2⟩
        have hB2 := Blk.keep hB1 bel2
        obtain ⟨u0, u1, u2, u3⟩ := RB.re hB2
        replace hL := W_hid (hL.out.keep bel2)
        replace bb := bb.trans (bel2.mono bb.size)
        clear bel2 hB1
        go_wp2_with fail
        have hm := ML.made f t hL.out.1 hL.out.2
        obtain ⟨w3, hw3⟩ : ∃ w3, ((w2.alloc (.cells #[.slice ao n cap] 41)).alloc (.cells #[.int .u64 (f : Int)] 36)).alloc (.cells #[.int .u64 (t : Int)] 36) = w3 := ⟨_, rfl⟩
        have bel3 : Below w2.heap.size w2 w3 := by rw [← hw3]; exact (((Below.refl _ _).alloc (Nat.le_refl _) _).alloc (by simp) _).alloc (by simp; omega) _
        rw [hw3] at hm
        refine (hMk.out _).mono ?_
        rintro e w3' ⟨rfl, rfl⟩
        rw [hw3]
        have hB3 := Blk.keep hB2 bel3
        replace hL := W_hid (hL.out.keep bel3)
        replace bb := bb.trans (bel3.mono bb.size)
        clear bel3 hB2 hw3
        go_wp2_with fail
        refine (hF.out _ _ _ _ hm).mono ?_
        rintro e w4 ⟨rfl, bel4⟩
        have hB4 := Blk.keep hB3 bel4
        replace hL := W_hid (hL.out.keep bel4)
        replace bb := bb.trans (bel4.mono bb.size)
        simp only [fstV, ra]
        clear bel4 hB3 hm
        go_wp2_with fail
        go_ret2
        exact ⟨rfl, bb.alloc bb.size _⟩
    · rw [decide_eq_false hg] at hI
      have hE : Hid (adE l ⟨f, t, p, s⟩ = 2 ∧ adL l ⟨f, t, p, s⟩ = []) := by
        show _ ∧ _
        unfold adE adL
        rw [if_neg (fun h => hg h.2), if_neg (fun h => hg h.2.1)]
        exact ⟨rfl, rfl⟩
      rw [hE.out.1, hE.out.2]
      refine GvE.none ?_
      clear hok hg h
      go_enter Tryz.func96, Tryz.ntmps96
      go_wp2_with fail
      refine hV.out.mono ?_
      rintro e w1 ⟨rfl, bel1⟩
      have hB1 := hB0.keep bel1
      obtain ⟨u0, u1, u2, u3⟩ := RB.re hB1
      replace bb := bb.trans (bel1.mono bb.size)
      clear bel1 hV
      go_wp2_with fail
      refine (hI.out _).mono ?_
      rintro e w2 ⟨rfl, bel2⟩
      go_wp2_with fail
      go_ret2
      exact ⟨rfl, bb.trans (bel2.mono bb.size)⟩
  · rw [decide_eq_false hok] at hV
    replace hV := W_hid hV
    have hE : Hid (adE l ⟨f, t, p, s⟩ = 2 ∧ adL l ⟨f, t, p, s⟩ = []) := by
      show _ ∧ _
      unfold adE adL
      rw [if_neg (fun h => hok h.1), if_neg (fun h => hok h.1)]
      exact ⟨rfl, rfl⟩
    rw [hE.out.1, hE.out.2]
    refine GvE.none ?_
    clear hok h
    go_enter Tryz.func96, Tryz.ntmps96
    go_wp2_with fail
    refine hV.out.mono ?_
    rintro e w1 ⟨rfl, bel1⟩
    replace bb := bb.trans (bel1.mono bb.size)
    go_wp2_with fail
    go_ret2
    exact ⟨rfl, bb⟩
end Go.Proofs.YtkomahekdcaiaaaGreatDoor

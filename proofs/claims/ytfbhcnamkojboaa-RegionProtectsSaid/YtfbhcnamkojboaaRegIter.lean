/- The two iterators over regions: meeting, and parts over it. -/
import Derived.Test.YtfbhcnamkojboaaReg2
import Derived.Test.YtfbhcnamkojboaaSeq
namespace Go.Proofs.Ytfbhcnamkojboaa
open Go.ChangeShapes Go.WideShapes Go.ChangeAt Go.RowKit Go.Shelf
open SQ
set_option linter.unusedVariables false
set_option linter.unusedSimpArgs false
attribute [local go_sem] Oper.semAt_some
open RG (Rg)

theorem fit_wide {f : FuncId} {args : Array Value} {w : World} {R : Ending → World → Prop} (h : Calls Try.prog f args w R) : CallsIn Fence.wide 0 Try.prog f args w R := callsIn_wide.2 h
theorem wide_fit {f : FuncId} {args : Array Value} {w : World} {R : Ending → World → Prop} (h : CallsIn Fence.wide 0 Try.prog f args w R) : Calls Try.prog f args w R := callsIn_wide.1 h

theorem RS.kp {q : Nat} {w w' : World} {ao : Option Addr} {n cap : Nat} {l : List Rg} (h : RS w ao n cap l) (hs : ∀ a, ao = some a → 0 < n → Sn q w a.block) (hk : Kp q w w') : RS w' ao n cap l ∧ ∀ a, ao = some a → 0 < n → Sn q w' a.block := by
  refine ⟨⟨h.1, h.2.1, h.2.2.1, h.2.2.2.1, fun a ha j u hu => ?_⟩, fun a ha hn => ((hs a ha hn).kp hk).1⟩
  have hn : 0 < n := by
    have h1 := (List.getElem?_eq_some_iff.1 hu).1
    rw [rcl_length, h.1] at h1
    omega
  rw [World.cell?_of_block (w := w) (a := a.add j) (by rw [show (a.add j).block = a.block by unfold Addr.add; split <;> rfl]; exact ((hs a ha hn).kp hk).2)]
  exact h.2.2.2.2 a ha j u hu
/-- A box that is neither cell q nor its row. -/
def Bx (q : Nat) (w : World) (b : Nat) (t : TypeId) (v : Value) : Prop := Blk w b t [v] ∧ Sn q w b
theorem Bx.kp {q : Nat} {w w' : World} {b : Nat} {t : TypeId} {v : Value} (h : Bx q w b t v) (hk : Kp q w w') : Bx q w' b t v := ⟨(h.2.kp hk).2.trans h.1, (h.2.kp hk).1⟩
theorem Bx.cell {q : Nat} {w : World} {b : Nat} {t : TypeId} {v : Value} (h : Bx q w b t v) : w.cell? ⟨b, 0, none⟩ = some v := h.1.cell (j := 0) rfl

/-- What meeting's function has captured. -/
structure MA (q : Nat) (ao : Option Addr) (n cap : Nat) (l : List Rg) (lo hi b1 b2 b3 : Nat) (w : World) : Prop where
  x1 : Bx q w b1 22 (.slice ao n cap)
  x2 : Bx q w b2 23 (.int .u64 (lo : Int))
  x3 : Bx q w b3 23 (.int .u64 (hi : Int))
  rs : RS w ao n cap l
  sn : ∀ a, ao = some a → 0 < n → Sn q w a.block
theorem MA.kp {q : Nat} {ao : Option Addr} {n cap : Nat} {l : List Rg} {lo hi b1 b2 b3 : Nat} {w w' : World} (h : MA q ao n cap l lo hi b1 b2 b3 w) (hk : Kp q w w') : MA q ao n cap l lo hi b1 b2 b3 w' :=
  ⟨h.x1.kp hk, h.x2.kp hk, h.x3.kp hk, (h.rs.kp h.sn hk).1, (h.rs.kp h.sn hk).2⟩

theorem meeting_snoc (lo hi : Nat) (l : List Rg) (k : Nat) (hk : k < l.length) : RG.meeting lo hi (l.take (k + 1)) = RG.meeting lo hi (l.take k) ++ if RG.meets lo hi l[k] then [l[k]] else [] := by
  rw [List.take_succ_eq_append_getElem hk]
  unfold RG.meeting
  rw [List.filter_append]
  by_cases h : RG.meets lo hi l[k] <;> simp [List.filter_cons, h]
theorem meeting_at (lo hi : Nat) (l : List Rg) (k : Nat) (hk : k < l.length) (h : RG.meets lo hi l[k]) : (RG.meeting lo hi l)[(RG.meeting lo hi (l.take k)).length]? = some l[k] := by
  have e : RG.meeting lo hi l = RG.meeting lo hi (l.take k) ++ RG.meeting lo hi (l.drop k) := by
    unfold RG.meeting
    rw [← List.filter_append, List.take_append_drop]
  rw [e, List.getElem?_append_right (Nat.le_refl _), Nat.sub_self, List.drop_eq_getElem_cons hk, RG.meeting_cons, if_pos h]
  rfl

set_option maxRecDepth 100000 in
set_option maxHeartbeats 1000000 in
theorem meeting_any (ao : Option Addr) (n cap lo hi : Nat) (w : World) :
    Calls Try.prog 20 #[.slice ao n cap, .int .u64 (lo : Int), .int .u64 (hi : Int)] w fun e w' => e = .returned (.func (.func 36) #[] #[.pointer (some ⟨w.heap.size, 0, none⟩), .pointer (some ⟨w.heap.size + 1, 0, none⟩), .pointer (some ⟨w.heap.size + 1 + 1, 0, none⟩)]) ∧
      w' = ((w.alloc (.cells #[.slice ao n cap] 22)).alloc (.cells #[.int .u64 (lo : Int)] 23)).alloc (.cells #[.int .u64 (hi : Int)] 23) := by
  go_enter Try.func20, Try.ntmps20
  go_wp2
  go_ret
  exact ⟨rfl, rfl⟩
set_option maxRecDepth 100000 in
set_option maxHeartbeats 1000000 in
theorem parts_any (ao : Option Addr) (n cap lo hi : Nat) (w : World) :
    Calls Try.prog 28 #[.slice ao n cap, .int .u64 (lo : Int), .int .u64 (hi : Int)] w fun e w' => e = .returned (.func (.func 40) #[] #[.pointer (some ⟨w.heap.size, 0, none⟩), .pointer (some ⟨w.heap.size + 1, 0, none⟩), .pointer (some ⟨w.heap.size + 1 + 1, 0, none⟩)]) ∧
      w' = ((w.alloc (.cells #[.slice ao n cap] 22)).alloc (.cells #[.int .u64 (lo : Int)] 23)).alloc (.cells #[.int .u64 (hi : Int)] 23) := by
  go_enter Try.func28, Try.ntmps28
  go_wp2
  go_ret
  exact ⟨rfl, rfl⟩

set_option maxRecDepth 100000 in
set_option maxHeartbeats 4000000 in
theorem meet_gives (q : Nat) (ao : Option Addr) (n cap : Nat) (l : List Rg) (lo hi b1 b2 b3 : Nat) :
    Gives Try.prog 36 #[.pointer (some ⟨b1, 0, none⟩), .pointer (some ⟨b2, 0, none⟩), .pointer (some ⟨b3, 0, none⟩)] (fun r : Rg => #[ra r]) q (MA q ao n cap l lo hi b1 b2 b3) (RG.meeting lo hi l) := by
  intro lp J Jx W hIt hJ hJx hRw hRx hY h0
  have hn : n ≤ 9223372036854775807 := by have := hIt.rs.2.1; have := hIt.rs.2.2.1; unfold maxLen at *; omega
  have L := W_hid hIt.rs.1
  have hS := W_hid (meeting_snoc lo hi l)
  have hT := W_hid (meeting_at lo hi l)
  have hI := W_hid hIt
  have y1 := hIt.x1.cell
  clear hIt
  refine callsIn_of_wp Try.func36 rfl trivial ?_ rfl
  simp only [Try.ntmps36, List.size_toArray, List.length_cons, List.length_nil, Nat.reduceAdd, Nat.reduceSub, Array.replicate_succ, Array.replicate_zero, List.push_toArray, List.append_toArray, List.nil_append, List.cons_append]
  gi_wp2
  gi_loopw [11] (fun i wr => ∃ k : Nat, k ≤ n ∧ i = .int .i64 k ∧ W.heap.size ≤ wr.heap.size ∧ Hid (MA q ao n cap l lo hi b1 b2 b3 wr) ∧ J (RG.meeting lo hi (l.take k)).length wr)
    (fun i _ => n - (intOf i).toNat)
  case atStart => exact ⟨0, Nat.zero_le _, rfl, Nat.le_refl _, hI, h0⟩
  case round =>
    obtain ⟨k, hk, rfl, hsz, hM, hJs⟩ := hrel
    by_cases hlt : k < n
    · have k1 : k < l.length := by rw [L.out]; exact hlt
      obtain ⟨bb, oo, rfl, hb1, g1⟩ := hM.out.rs.at_ (by omega)
      obtain ⟨e1, e2, e3, e4⟩ := g1 k hlt
      have hnx := W_hid (hS.out k k1)
      have hat := W_hid (hT.out k k1)
      obtain ⟨⟨f, t, p, s⟩, hx⟩ : ∃ x, l[k] = x := ⟨_, rfl⟩
      simp only [hx] at e1 e2 e3 e4 hnx hat
      have hq := (hRw _ _ hJs).box.lt
      have hkp : Kp q wr (wr.alloc (.cells #[.int .u64 (f : Int), .int .u64 (t : Int), .int .i64 p, .int .i64 s] 25)) := (Kp.refl q wr).alloc hq _
      have hM2 := W_hid (hM.out.kp hkp)
      have hJ2 : J (RG.meeting lo hi (l.take k)).length (wr.alloc (.cells #[.int .u64 (f : Int), .int .u64 (t : Int), .int .i64 p, .int .i64 s] 25)) := hJ.alloc _ hJs
      have z2 := hM2.out.x2.cell
      have z3 := hM2.out.x3.cell
      have hr0 : RB (wr.alloc (.cells #[.int .u64 (f : Int), .int .u64 (t : Int), .int .i64 p, .int .i64 s] 25)) wr.heap.size ⟨f, t, p, s⟩ := Blk.new _ _ _ rfl
      obtain ⟨u0, u1, u2, u3⟩ := hr0.re
      have hC := W_hid (fun w => common_any f t lo hi w)
      by_cases hm : RG.meets lo hi ⟨f, t, p, s⟩
      · have hx2 := hat.out hm
        rw [if_pos hm] at hnx
        have hlen : Hid ((RG.meeting lo hi (l.take (k + 1))).length = (RG.meeting lo hi (l.take k)).length + 1) := by show _ = _; rw [hnx.out]; simp
        have hlt2 := W_hid (List.getElem?_eq_some_iff.1 hx2).1
        obtain ⟨fn, tmps, assign, body, hy, hR⟩ := hY _ _ _ hx2 hJ2
        simp only [ra] at hy
        obtain ⟨A, hA⟩ : ∃ A, max f lo = A := ⟨_, rfl⟩
        obtain ⟨B, hB⟩ : ∃ B, min t hi = B := ⟨_, rfl⟩
        have hAB : A < B := by unfold RG.meets at hm; simp only at hm; rw [hA, hB] at hm; exact hm
        rw [hA, hB] at hC
        clear hx hat hnx hx2 hm hA hB g1 hr0
        gi_wp2
        refine ⟨trivial, rfl, ?_⟩
        refine (fit_wide (hC.out _)).mono ?_
        rintro e w2 ⟨rfl, rfl⟩
        gi_wp2
        refine ⟨rfl, ?_⟩
        refine hR.mono ?_
        rintro e W3 (⟨rfl, hJ3, hk3⟩ | ⟨rfl, hJx3, -⟩)
        · have hM3 := W_hid (hM2.out.kp hk3)
          have hs3 := hk3.size
          rw [World.size_alloc] at hs3
          rw [← hlen.out] at hJ3
          clear hk3 hR hC
          gi_wp2
          go_roundw
          case rel => exact ⟨k + 1, by omega, by go_num, by omega, hM3, hJ3⟩
          case measure => simp [intOf]; omega
        · have hc : (RG.meeting lo hi (l.take k)).length < (RG.meeting lo hi l).length := hlt2.out
          clear hR hC
          gi_wp2
          refine bodyPost_ret (results_none rfl _ _ _) rfl ?_
          exact ⟨⟨_, rfl⟩, .inr ⟨_, hc, hJx3⟩⟩
      · have hlen : Hid ((RG.meeting lo hi (l.take (k + 1))).length = (RG.meeting lo hi (l.take k)).length) := by show _ = _; rw [hnx.out, if_neg hm]; simp
        obtain ⟨A, hA⟩ : ∃ A, max f lo = A := ⟨_, rfl⟩
        obtain ⟨B, hB⟩ : ∃ B, min t hi = B := ⟨_, rfl⟩
        have hAB : decide (A < B) = false := by apply decide_eq_false; unfold RG.meets at hm; simp only at hm; rw [hA, hB] at hm; exact hm
        rw [hA, hB] at hC
        clear hx hat hnx hm hA hB g1 hr0
        gi_wp2
        refine ⟨trivial, rfl, ?_⟩
        refine (fit_wide (hC.out _)).mono ?_
        rintro e w2 ⟨rfl, rfl⟩
        gi_wp2
        refine ⟨fun _ h => (by cases h), ?_⟩
        rw [← hlen.out] at hJ2
        gi_wp2
        go_roundw
        case rel => exact ⟨k + 1, by omega, by go_num, by rw [World.size_alloc]; omega, hM2, hJ2⟩
        case measure => simp [intOf]; omega
    · obtain rfl : k = n := by omega
      have hl : l.take k = l := List.take_of_length_le (by rw [L.out]; exact Nat.le_refl _)
      rw [hl] at hJs
      gi_wp2
      go_end0
      exact ⟨⟨_, rfl⟩, .inl hJs⟩
end Go.Proofs.Ytfbhcnamkojboaa

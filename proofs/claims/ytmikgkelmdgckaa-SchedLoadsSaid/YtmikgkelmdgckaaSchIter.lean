/- Contracts of package sched: all, its iterator. -/
import Derived.Test.YtmikgkelmdgckaaSchJoin
import Derived.Test.YtmikgkelmdgckaaSchSeq
import Derived.Test.YtmikgkelmdgckaaStillIn
import Derived.Shelf.AbstractIn
namespace Go.Proofs.Ytmikgkelmdgckaa
open Go.ChangeShapes Go.WideShapes Go.ChangeAt Go.RowKit Go.Shelf
set_option linter.unusedVariables false
set_option linter.unusedSimpArgs false
set_option maxRecDepth 100000
namespace SD
open IN (Keeps lt_of_some)
open SE

abbrev TB : TypeId := 55
theorem all_any (nb : Nat) (w : World) : Calls Try.prog 43 #[ptr nb] w fun e w' => e = .returned (.func (.func 65) #[] #[ptr w.heap.size]) ∧ w' = w.alloc (.cells #[ptr nb] TB) := by
  go_enter Try.func43, Try.ntmps43
  go_wp2
  go_ret
  exact ⟨rfl, rfl⟩
/-- What the iterator reads. -/
structure AI (bx nb g n cap : Nat) (ao : Option Addr) (q : List Int) (W : World) : Prop where
  box : W.cell? ⟨bx, 0, none⟩ = some (ptr nb)
  nbc : W.cell? ⟨nb, 0, none⟩ = some (.slice ao n cap)
  el : ∀ j, j < n → ao = some ⟨g, 0, none⟩ ∧ n ≤ cap ∧ cap ≤ 9223372036854775807 ∧ W.cell? ⟨g, j * 4, none⟩ = some (.int .i64 (q.getD j 0))
def enc (g : Nat) (q : List Int) (j : Nat) : Array Value := #[.int .i64 (q.getD j 0), .pointer (some ⟨g, j * 4 + 1, none⟩)]
set_option maxRecDepth 100000 in
set_option maxHeartbeats 8000000 in
theorem all_gives (T : Nat → Obj → Prop) (bx nb g n cap : Nat) (ao : Option Addr) (q : List Int) (hn : n ≤ 60000) :
    GivesB Try.prog 65 #[ptr bx] (enc g q) T (AI bx nb g n cap ao q) (List.range n) := by
  intro lp J Jx W hJ hJx hI hY h0
  have hI0 := hI 0 W h0
  have y1 := hI0.box
  have y2 := hI0.nbc
  have hI := W_hid hI
  rw [List.length_range]
  have hY := W_hid hY
  replace hI0 := W_hid hI0
  refine callsIn_of_wp Try.func65 rfl trivial ?_ rfl
  simp only [Try.ntmps65, List.size_toArray, List.length_cons, List.length_nil, Nat.reduceAdd, Nat.reduceSub, Array.replicate_succ, Array.replicate_zero, List.push_toArray, List.append_toArray, List.nil_append, List.cons_append]
  gi_wp2
  gi_loopw [9] (fun i wr => ∃ k : Nat, k ≤ n ∧ i = .int .i64 (k : Int) ∧ W.heap.size ≤ wr.heap.size ∧ J k wr) (fun i _ => n - (intOf i).toNat)
  case atStart => exact ⟨0, Nat.zero_le _, rfl, Nat.le_refl _, h0⟩
  case round =>
    obtain ⟨k, hk, rfl, hsz, hJs⟩ := hrel
    by_cases hlt : k < n
    · have hd : Below W.heap.size wr wr.drew := ⟨rfl, rfl, rfl, Nat.le_refl _, fun _ _ => rfl⟩
      have hJd : J k wr.drew := hJ k wr wr.drew hJs (LB.all ⟨rfl, rfl, rfl, Nat.le_refl _, fun _ _ => rfl⟩ hsz)
      have hM := hI.out k wr.drew hJd
      have u1 := hM.box
      have u2 := hM.nbc
      obtain ⟨rfl, u3, u4, u5⟩ := hM.el k hlt
      have hx : (List.range n)[k]? = some k := by rw [List.getElem?_range hlt]
      obtain ⟨fn, tmps, assign, body, hy, hR⟩ := hY.out k k wr.drew hx hJd hsz
      simp only [enc] at hy
      obtain ⟨a, ha⟩ : ∃ a, q.getD k 0 = a := ⟨_, rfl⟩
      rw [ha] at u5 hy
      have hki : (k : Int) < (n : Int) := by omega
      have hsd : wr.drew.heap.size = wr.heap.size := rfl
      clear hM hx ha hJs
      gi_wp2
      refine SI.region_tail 16 (by kernel_rfl) (by kernel_rfl) ?_
      simp only [List.take_succ_cons, List.take_zero, List.drop_succ_cons, List.drop_zero]
      repeat still_step
      refine wpStill_nil ?_
      gi_wp2
      refine ⟨rfl, ?_⟩
      refine hR.mono ?_
      rintro e W3 (⟨rfl, hJ3, hk3⟩ | ⟨rfl, hJx3, -⟩)
      · have hs3 := hk3.size
        have hM3 := hI.out _ W3 hJ3
        have v1 := hM3.box
        have v2 := hM3.nbc
        clear hk3 hR u1 u2 hM3
        gi_wp2
        go_roundw
        case rel => exact ⟨k + 1, by omega, by go_num, by omega, hJ3⟩
        case measure => simp [intOf]; omega
      · gi_wp2
        refine bodyPost_ret (results_none rfl _ _ _) rfl ?_
        exact ⟨⟨_, rfl⟩, .inr ⟨k, hlt, hJx3⟩⟩
    · obtain rfl : k = n := by omega
      gi_wp2
      go_end0
      exact ⟨⟨_, rfl⟩, .inl hJs⟩
end SD
end Go.Proofs.Ytmikgkelmdgckaa

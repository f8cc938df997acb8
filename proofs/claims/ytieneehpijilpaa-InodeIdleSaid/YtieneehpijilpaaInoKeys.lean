/- The numbers of the tables, in the order in which the map gives them. -/
import Derived.Test.YtieneehpijilpaaInoMap
import Derived.RangeFuncNested
import Derived.RangeFuncBound
import Derived.RangeFuncCalls
import Derived.RangeFuncLeaves
import Derived.RangeFuncStops
import Derived.Shelf.Abstract
import Derived.Shelf.RegionOpen
import Derived.WalkKit
import Derived.OwnWalkIn
import Derived.TacticsInMore
import Derived.RegionIn
import Derived.LoopNIn
import Derived.LoopIn
import Derived.Maps.OwnIn
import Derived.Maps.AppendAt
import Derived.Sort.MapsRangeIn
namespace Go.Proofs.Ytieneehpijilpaa
open Go.ChangeShapes Go.WideShapes Go.ChangeAt Go.RowKit Go.Shelf Go.Maps
set_option linter.unusedVariables false
set_option linter.unusedSimpArgs false
attribute [local go_sem] Oper.semAt_some
namespace IS

def nk (f : Nat) : Value := .int .i64 (f : Int)
theorem nk_inj {f g : Nat} (h : nk f = nk g) : f = g := by
  simp only [nk, Value.int.injEq, true_and] at h
  omega

/-- What has come: no number twice; those that are there and no longer to come. -/
structure Come (D : DataW Unit) (left : Lit → Bool) (ss : List Nat) : Prop where
  once : ss.Nodup
  iff : ∀ f : Nat, f ∈ ss ↔ f < 65536 ∧ Maps.has D (key f) = true ∧ left (key f) = false

theorem Come.start (D : DataW Unit) : Come D (Maps.has D) [] :=
  ⟨List.nodup_nil, fun f => by cases Maps.has D (key f) <;> simp⟩

theorem Come.step {D : DataW Unit} {left : Lit → Bool} {ss : List Nat} (h : Come D left ss) {x : Nat} {y : DataW Unit} (hx : x < 65536) (hlk : left (key x) = true) (hat : ∀ z, D.atKey (key x) z = y) :
    Come D (fun z => left z && !z.sameKey (key x)) (ss ++ [x]) := by
  have hhas : Maps.has D (key x) = true := has_true_of_atKey hat
  have hnew : x ∉ ss := fun hm => by have := ((h.iff x).1 hm).2.2; rw [hlk] at this; cases this
  refine ⟨List.nodup_append.2 ⟨h.once, by simp, fun a ha b hb => by simp at hb; subst hb; exact fun e => hnew (e ▸ ha)⟩, fun f => ?_⟩
  rw [List.mem_append, List.mem_singleton, h.iff f]
  by_cases e : f = x
  · subst e
    have : (key f).sameKey (key f) = true := WideAt.sameKey_self (isKey f (i64_nat hx))
    simp [hhas, this, hx]
  · have : (key f).sameKey (key x) = false := by
      simp only [key, Lit.sameKey]
      simp
      omega
    simp [e, this]

set_option maxRecDepth 100000 in
set_option maxHeartbeats 1000000 in
theorem keys1_in (F : Fence) (n : Nat) (hf : F.fn 62) (hro : F.round = none) (hn : 1 ≤ n) (l Bm b N : Nat) (M : Int → Option Nat) (J Jx : List Nat → World → Prop)
    (D : DataW Unit) (hN : Maps.size D ≤ N)
    (hY : ∀ pre x W, J pre W → pre.length < N → YieldAt F (n - 1) Try.prog l #[nk x] W fun e W' => (e = .returned (.bool true) ∧ J (pre ++ [x]) W' ∧ KeepsWalks W W') ∨ (e = .returned (.bool false) ∧ Jx (pre ++ [x]) W'))
    (W : World) (hJ : AbidesFrom W.heap.size J) (hm : W.cell? ⟨Bm, 0, none⟩ = some (.map (some b)))
    (hown : W.ownsMap Try.prog 3 PR b (Maps.size D) D) (hhas : ∀ f, I64 f → Maps.has D (key f) = (M f).isSome) (hbd : ∀ f, M f ≠ none → 0 ≤ f ∧ f < 65536) (h0 : J [] W) :
    CallsIn F n Try.prog 62 #[.func (.yield l) #[] #[], .pointer (some ⟨Bm, 0, none⟩)] W fun e W' => (∃ v, e = .returned v) ∧
      ((∃ ss, Nums M ss ∧ J ss W') ∨ (∃ pre, True ∧ Jx pre W')) := by
  refine callsIn_of_wp Try.func62 rfl hf ?_ hro
  simp only [Try.ntmps62, List.size_toArray, List.length_cons, List.length_nil, Nat.reduceAdd, Nat.reduceSub, Array.replicate_succ, Array.replicate_zero, List.push_toArray, List.append_toArray, List.nil_append, List.cons_append]
  gi_wp2_with (first
    | (gi_at_range; refine wpListIn_range_own _ rfl _ 55 rfl 3 68 keyed_int und_map PR b (Maps.size D) D rfl hown ?_; intro w0 hrg0 hg0 hs0)
    | gi_in)
  go_frame
  gi_loopw [3] (fun _ wr => ∃ (left : Lit → Bool) (cnt : Nat) (ss : List Nat), wr.ranges Try.prog 3 PR b W.heap.size (Maps.size D) D left cnt ∧ ss.length + cnt ≤ Maps.size D ∧ Come D left ss ∧ J ss wr)
    (fun _ wr => wr.rangeLeft b W.heap.size)
  case atStart =>
    exact ⟨_, _, [], hrg0, by simp, Come.start D, hJ [] W w0 none h0 hg0 (fun r e => by cases e)⟩
  case round =>
    obtain ⟨left, cnt, ss, hrg, hcs, hC, hJs⟩ := hrel
    gi_wp2_with (first
      | (gi_at_next; refine wpListIn_next_ranges _ rfl _ rfl 3 keyed_int PR (Value.int .i64) id (fun k kl hk => by obtain ⟨x, rfl, hx, hwf⟩ := Maps.keyOf_int_inv und_int hk; exact ⟨x, rfl⟩) (fun v _ _ => ⟨v, rfl⟩) b W.heap.size (Maps.size D) _ _ _ rfl hrg ?_ ?_)
      | gi_in)
    · intro hc0 hl0
      gi_wp2
      go_end0
      refine ⟨⟨_, rfl⟩, .inl ⟨ss, ⟨hC.once, fun f => ?_⟩, hJs⟩⟩
      rw [hC.iff f, hl0]
      constructor
      · rintro ⟨h1, h2, -⟩ h3
        rw [hhas f (i64_nat h1), h3] at h2
        cases h2
      · intro h
        have h1 := hbd f h
        refine ⟨by omega, ?_, rfl⟩
        rw [hhas f (i64_nat (by omega))]
        cases e : M f with
        | none => exact absurd e h
        | some _ => rfl
    · intro x c kl yd yp w2 cnt2 hkey hlk hv hat hrg2 hlt hg2 hs2 hen
      have hx : kl = key x ∧ I64 x := by
        obtain ⟨x', e, rfl, hwf⟩ := Maps.keyOf_int_inv und_int hkey
        simp only [Value.int.injEq, true_and] at e
        subst e
        exact ⟨rfl, wf_bounds hwf⟩
      obtain ⟨rfl, hI⟩ := hx
      have hh1 : Maps.has D (key x) = true := has_true_of_atKey hat
      rw [hhas x hI] at hh1
      have hbx := hbd x (fun e => by rw [e] at hh1; cases hh1)
      obtain ⟨x, rfl⟩ : ∃ n : Nat, x = (n : Int) := ⟨x.toNat, by omega⟩
      have hx : x < 65536 := by omega
      rw [show Value.int .i64 (x : Int) = nk x from rfl] at hen ⊢
      have hJ2 : J ss w2 := hJ ss wr w2 (some W.heap.size) hJs hg2 (fun r e => by cases e; exact ⟨Nat.le_refl _, hrg.iter_walk⟩)
      obtain ⟨fn, tmps, assign, body, hy, hR⟩ := hY ss x w2 hJ2 (by omega)
      clear hs2
      gi_wp2
      refine hR.mono ?_
      have hC2 := hC.step hx hlk hat
      rintro e W3 (⟨rfl, hJ3, hk3⟩ | ⟨rfl, hJx3⟩)
      · gi_wp2
        have hrg3 := hrg2.of_walks hk3
        go_roundw
        case rel => exact ⟨_, cnt2, ss ++ [x], hrg3, by simp; omega, hC2, hJ3⟩
        case measure => rw [hrg3.left_eq, hrg.left_eq]; exact hlt
      · gi_wp2
        refine bodyPost_ret (results_none rfl _ _ _) rfl ?_
        exact ⟨⟨_, rfl⟩, .inr ⟨ss ++ [x], trivial, hJx3⟩⟩

/-- The value that Keys hands back gives every table's number, once. -/
theorem keys_seq (F : Fence) (n : Nat) (hf : F.fn 62) (hro : F.round = none) (hn : 1 ≤ n) (Bm b : Nat) (M : Int → Option Nat) (w : World) (hBm : Bm < w.heap.size) (hb : b < w.heap.size)
    (hm : w.cell? ⟨Bm, 0, none⟩ = some (.map (some b))) (hMB : MB w b M) :
    SeqStopsK F n Try.prog 62 #[.pointer (some ⟨Bm, 0, none⟩)] (fun x => #[nk x]) KeepsWalks (Nums M) (fun _ => True) 65536 w := fun l J Jx W hW hJ _ hY h0 => by
  obtain ⟨D, hown, hhas, hat⟩ := hMB.ex
  have hsz : Maps.size D ≤ 65536 := by
    obtain ⟨ss, hN, hL⟩ := own_nums hown hhas hMB.bound
    rw [← hL]
    exact nodup_le 65536 ss hN.1 fun x hx => by have := hMB.bound x ((hN.2 x).1 hx); omega
  have hown' : W.ownsMap Try.prog 3 PR b (Maps.size D) D := by
    obtain ⟨es, clock, hb', Ft, hs, hD⟩ := hown
    exact ⟨es, clock, (hW.block b hb).trans hb', Ft, hs, hD⟩
  exact keys1_in F n hf hro hn l Bm b 65536 M J Jx D hsz hY W hJ ((hW.cell (p := ⟨Bm, 0, none⟩) hBm).trans hm) hown' hhas hMB.bound h0

set_option maxRecDepth 100000 in
set_option maxHeartbeats 1000000 in
theorem Keys_any (b : Nat) (w : World) :
    Calls Try.prog 38 #[.map (some b)] w fun e w' => e = .returned (.func (.func 62) #[] #[.pointer (some ⟨w.heap.size, 0, none⟩)]) ∧ w' = w.alloc (.cells #[.map (some b)] 55) := by
  go_enter Try.func38, Try.ntmps38
  go_wp2
  go_ret
  exact ⟨rfl, rfl⟩
end IS
end Go.Proofs.Ytieneehpijilpaa

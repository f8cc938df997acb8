/- math/bits.Len: some number. -/
import Derived.Test.YtigbjhmodpplbaaGreatDoorZH02
import Derived.RangeFuncNested
import Derived.RangeFuncBound
import Derived.RangeFuncCalls
import Derived.RangeFuncLeaves
import Derived.RangeFuncStops
import Derived.Shelf.Abstract
import Derived.Shelf.RegionOpen
import Derived.WalkKit
import Derived.OwnWalkIn
import Derived.TacticsInMore
import Derived.RegionIn
import Derived.LoopNIn
import Derived.LoopIn
import Derived.Maps.OwnIn
import Derived.Maps.AppendAt
import Derived.Sort.MapsRangeIn
import Derived.RangeFuncBox
import Derived.BigRegion
import Derived.Deep.CutRange
import Derived.Deep.CutBlock

/- The numbers of the tables, in the order in which the map gives them. -/
namespace Go.Proofs.YtigbjhmodpplbaaGreatDoor
open Go.ChangeShapes Go.WideShapes Go.ChangeAt Go.RowKit Go.Shelf Go.Maps
set_option linter.unusedVariables false
set_option linter.unusedSimpArgs false
attribute [local go_sem] Oper.semAt_some

def nk (f : Nat) : Value := .int .u64 (f : Int)
theorem nk_inj {f g : Nat} (h : nk f = nk g) : f = g := by
  simp only [nk, Value.int.injEq, true_and] at h
  omega

/-- What has come: no number twice; those that are there and no longer to come. -/
structure Come (D : DataW Unit) (left : Lit → Bool) (ss : List Nat) : Prop where
  once : ss.Nodup
  iff : ∀ f, f ∈ ss ↔ f < 18446744073709551616 ∧ Maps.has D (key f) = true ∧ left (key f) = false

theorem Come.start (D : DataW Unit) : Come D (Maps.has D) [] :=
  ⟨List.nodup_nil, fun f => by cases Maps.has D (key f) <;> simp⟩

theorem Come.step {D : DataW Unit} {left : Lit → Bool} {ss : List Nat} (h : Come D left ss) {x : Nat} {y : DataW Unit} (hx : x < 18446744073709551616) (hlk : left (key x) = true) (hat : ∀ z, D.atKey (key x) z = y) :
    Come D (fun z => left z && !z.sameKey (key x)) (ss ++ [x]) := by
  have hhas : Maps.has D (key x) = true := has_true_of_atKey hat
  have hnew : x ∉ ss := fun hm => by have := ((h.iff x).1 hm).2.2; rw [hlk] at this; cases this
  refine ⟨List.nodup_append.2 ⟨h.once, by simp, fun a ha b hb => by simp at hb; subst hb; exact fun e => hnew (e ▸ ha)⟩, fun f => ?_⟩
  rw [List.mem_append, List.mem_singleton, h.iff f]
  by_cases e : f = x
  · subst e
    have : (key f).sameKey (key f) = true := WideAt.sameKey_self (isKey f hx)
    simp [hhas, this, hx]
  · have : (key f).sameKey (key x) = false := by
      simp only [key, Lit.sameKey]
      simp
      omega
    simp [e, this]

/-- Every table's number, once. -/
def Nums (M : Nat → Option (Nat → Nat)) (ss : List Nat) : Prop := ss.Nodup ∧ ∀ f, f ∈ ss ↔ M f ≠ none
theorem Nums.lt {w : World} {b : Nat} {M : Nat → Option (Nat → Nat)} {ss : List Nat} (h : Nums M ss) (hm : MB w b M) : ∀ f ∈ ss, f < 65536 := fun f hf => hm.bound f ((h.2 f).1 hf)
theorem Nums.len {w : World} {b : Nat} {M : Nat → Option (Nat → Nat)} {ss : List Nat} (h : Nums M ss) (hm : MB w b M) : ss.length ≤ 65536 := nodup_le 65536 ss h.1 (h.lt hm)

set_option maxRecDepth 100000 in
set_option maxHeartbeats 1000000 in
theorem keys1_in (F : Fence) (n : Nat) (hf : F.fn 114) (hro : F.round = none) (hn : 1 ≤ n) (l Bm b N : Nat) (M : Nat → Option (Nat → Nat)) (J Jx : List Nat → World → Prop)
    (D : DataW Unit) (hN : Maps.size D ≤ N)
    (hY : ∀ pre x W, J pre W → pre.length < N → YieldAt F (n - 1) Tryz.prog l #[nk x] W fun e W' => (e = .returned (.bool true) ∧ J (pre ++ [x]) W' ∧ KeepsWalks W W') ∨ (e = .returned (.bool false) ∧ Jx (pre ++ [x]) W'))
    (W : World) (hJ : AbidesFrom W.heap.size J) (hm : W.cell? ⟨Bm, 0, none⟩ = some (.map (some b)))
    (hown : W.ownsMap Tryz.prog 23 TR b (Maps.size D) D) (hhas : ∀ f, f < 18446744073709551616 → Maps.has D (key f) = (M f).isSome) (hbd : ∀ f, M f ≠ none → f < 65536) (h0 : J [] W) :
    CallsIn F n Tryz.prog 114 #[.func (.yield l) #[] #[], .pointer (some ⟨Bm, 0, none⟩)] W fun e W' => (∃ v, e = .returned v) ∧
      ((∃ ss, Nums M ss ∧ J ss W') ∨ (∃ pre, True ∧ Jx pre W')) := by
  refine callsIn_of_wp Tryz.func114 rfl hf ?_ hro
  simp only [Tryz.ntmps114, List.size_toArray, List.length_cons, List.length_nil, Nat.reduceAdd, Nat.reduceSub, Array.replicate_succ, Array.replicate_zero, List.push_toArray, List.append_toArray, List.nil_append, List.cons_append]
  gi_wp2_with (first
    | (gi_at_range; refine wpListIn_range_own _ rfl _ 110 rfl 23 108 keyed_u64 und_map TR b (Maps.size D) D rfl hown ?_; intro w0 hrg0 hg0 hs0)
    | gi_in)
  go_frame
  gi_loopw [3] (fun _ wr => ∃ (left : Lit → Bool) (cnt : Nat) (ss : List Nat), wr.ranges Tryz.prog 23 TR b W.heap.size (Maps.size D) D left cnt ∧ ss.length + cnt ≤ Maps.size D ∧ Come D left ss ∧ J ss wr)
    (fun _ wr => wr.rangeLeft b W.heap.size)
  case atStart =>
    exact ⟨_, _, [], hrg0, by simp, Come.start D, hJ [] W w0 none h0 hg0 (fun r e => by cases e)⟩
  case round =>
    obtain ⟨left, cnt, ss, hrg, hcs, hC, hJs⟩ := hrel
    gi_wp2_with (first
      | (gi_at_next; refine wpListIn_next_ranges _ rfl _ rfl 23 keyed_u64 TR nk id (fun k kl hk => by obtain ⟨x, rfl, hx, hwf⟩ := Maps.keyOf_int_inv und_u64 hk; have := wf_u64_bounds hwf; exact ⟨x.toNat, by simp only [nk, Value.int.injEq, true_and]; omega⟩) (fun v _ _ => ⟨v, rfl⟩) b W.heap.size (Maps.size D) _ _ _ rfl hrg ?_ ?_)
      | gi_in)
    · intro hc0 hl0
      gi_wp2
      go_end0
      refine ⟨⟨_, rfl⟩, .inl ⟨ss, ⟨hC.once, fun f => ?_⟩, hJs⟩⟩
      rw [hC.iff f, hl0]
      constructor
      · rintro ⟨h1, h2, -⟩ h3
        rw [hhas f h1, h3] at h2
        cases h2
      · intro h
        have h1 := hbd f h
        refine ⟨by omega, ?_, rfl⟩
        rw [hhas f (by omega)]
        cases e : M f with
        | none => exact absurd e h
        | some _ => rfl
    · intro x c kl yd yp w2 cnt2 hkey hlk hv hat hrg2 hlt hg2 hs2 hen
      have hx : x < 18446744073709551616 ∧ kl = key x := by
        obtain ⟨x', e, rfl, hwf⟩ := Maps.keyOf_int_inv und_u64 hkey
        have := wf_u64_bounds hwf
        simp only [nk, Value.int.injEq, true_and] at e
        subst e
        exact ⟨by omega, rfl⟩
      obtain ⟨hx, rfl⟩ := hx
      have hJ2 : J ss w2 := hJ ss wr w2 (some W.heap.size) hJs hg2 (fun r e => by cases e; exact ⟨Nat.le_refl _, hrg.iter_walk⟩)
      obtain ⟨fn, tmps, assign, body, hy, hR⟩ := hY ss x w2 hJ2 (by omega)
      clear hs2
      gi_wp2
      refine hR.mono ?_
      have hC2 := hC.step hx hlk hat
      rintro e W3 (⟨rfl, hJ3, hk3⟩ | ⟨rfl, hJx3⟩)
      · gi_wp2
        have hrg3 := hrg2.of_walks hk3
        go_roundw
        case rel => exact ⟨_, cnt2, ss ++ [x], hrg3, by simp; omega, hC2, hJ3⟩
        case measure => rw [hrg3.left_eq, hrg.left_eq]; exact hlt
      · gi_wp2
        refine bodyPost_ret (results_none rfl _ _ _) rfl ?_
        exact ⟨⟨_, rfl⟩, .inr ⟨ss ++ [x], trivial, hJx3⟩⟩

/-- The value that Keys hands back gives every table's number, once. -/
theorem keys_seq (F : Fence) (n : Nat) (hf : F.fn 114) (hro : F.round = none) (hn : 1 ≤ n) (Bm b : Nat) (M : Nat → Option (Nat → Nat)) (w : World) (hBm : Bm < w.heap.size) (hb : b < w.heap.size)
    (hm : w.cell? ⟨Bm, 0, none⟩ = some (.map (some b))) (hMB : MB w b M) :
    SeqStopsK F n Tryz.prog 114 #[.pointer (some ⟨Bm, 0, none⟩)] (fun x => #[nk x]) KeepsWalks (Nums M) (fun _ => True) 65536 w := fun l J Jx W hW hJ _ hY h0 => by
  obtain ⟨D, hown, hhas, hat⟩ := hMB.ex
  have hsz : Maps.size D ≤ 65536 := own_size hown (fun f hf h => by
    rw [hhas f hf] at h
    exact hMB.bound f (fun e => by rw [e] at h; cases h))
  have hown' : W.ownsMap Tryz.prog 23 TR b (Maps.size D) D := by
    obtain ⟨es, clock, hb', Ft, hs, hD⟩ := hown
    exact ⟨es, clock, (hW.block b hb).trans hb', Ft, hs, hD⟩
  exact keys1_in F n hf hro hn l Bm b 65536 M J Jx D hsz hY W hJ ((hW.cell (p := ⟨Bm, 0, none⟩) hBm).trans hm) hown' hhas hMB.bound h0

set_option maxRecDepth 100000 in
set_option maxHeartbeats 1000000 in
theorem Keys_any (b : Nat) (w : World) :
    Calls Tryz.prog 64 #[.map (some b)] w fun e w' => e = .returned (.func (.func 114) #[] #[.pointer (some ⟨w.heap.size, 0, none⟩)]) ∧ w' = w.alloc (.cells #[.map (some b)] 110) := by
  go_enter Tryz.func64, Tryz.ntmps64
  go_wp2
  go_ret
  exact ⟨rfl, rfl⟩
end Go.Proofs.YtigbjhmodpplbaaGreatDoor

/- What an iterator gives, collected. -/
namespace Go.Proofs.YtigbjhmodpplbaaGreatDoor
open Go.ChangeShapes Go.WideShapes Go.ChangeAt Go.RowKit Go.Shelf Go.Maps
set_option linter.unusedVariables false
set_option linter.unusedSimpArgs false
attribute [local go_sem] Oper.semAt_some

theorem one_u64 : (Tryz.prog.info? 23).map (fun i => (i.zero, i.size, i.bytes)) = some (some (.int .u64 0), 1, 8) := by kernel_rfl
theorem und_nums : Tryz.prog.underlying 41 = some (.slice 23) := by kernel_rfl

set_option maxRecDepth 100000 in
set_option maxHeartbeats 2000000 in
theorem append_in (F : Fence) (n : Nat) (hf : F.fn 159) (hro : F.round = none) (hn : 2 ≤ n) (g : Nat) (lb : Array Value) (hg : F.fn g) (eg : ∀ args w, (callFunc g args).run Tryz.prog w = .ok (.enter g args) w)
    (S : List Nat → Prop) (N : Nat) (hN : N ≤ 65536) (w : World) (hseq : SeqStopsK F (n - 1) Tryz.prog g lb (fun x => #[nk x]) KeepsWalks S (fun _ => True) N w) :
    CallsIn F n Tryz.prog 159 #[.slice none 0 0, .func (.func g) #[] lb] w fun e w' => ∃ (v : Value) (ss : List Nat), e = .returned v ∧ S ss ∧ w'.ownsRow w.heap.size 23 1 v ss.length (ss.map nk) ∧ (v = .slice none 0 0 ↔ ss = []) ∧ Below w.heap.size w w' := by
  have h1 : 1 ≤ n := by omega
  obtain ⟨i0, hi, hz0, hz1, hz2⟩ := info_parts one_u64
  refine callsIn_of_wp_marks Tryz.func159 rfl hf ?_ hro
  simp only [Tryz.ntmps159, List.size_toArray, List.length_cons, List.length_nil, Nat.reduceAdd, Nat.reduceSub, Array.replicate_succ, Array.replicate_zero, List.push_toArray, List.append_toArray, List.nil_append, List.cons_append]
  gi_wp2
  have bO := Boxed.new w 41 (.slice none 0 0)
  have hB0 : Below w.heap.size w (w.alloc (.cells #[.slice none 0 0] 41)) := (Below.refl _ w).alloc (Nat.le_refl _) _
  refine wpIn_rangeFunc_ownG hro h1 (gf := g) (lb := lb) rfl hg eg
    hseq walksK_t walksK_b hB0 (fun _ => rfl)
    (fun pre W => (∃ v, Boxed W w.heap.size 41 v ∧ W.ownsRow w.heap.size 23 1 v pre.length (pre.map nk) ∧ (v = .slice none 0 0 ↔ pre = [])) ∧ Below w.heap.size w W)
    (fun _ _ _ => False)
    (OwnFrom.and (Own.from (holdsRow_own w.heap.size w.heap.size 41 23 1 (fun pre : List Nat => pre.length) (fun pre : List Nat => pre.map nk) (fun pre v => v = .slice none 0 0 ↔ pre = [])) _) (ownFrom_below (Nat.le_refl _) (by simp)))
    (fun _ _ _ _ _ hs _ _ => hs)
    ⟨⟨_, bO, World.ownsRow_nil _ _ _ _, by simp⟩, hB0⟩
    (fun x => { tmps := #[.slice none 0 0, .func (.func g) #[] lb, .pointer (some ⟨w.heap.size, 0, none⟩), undef, .slice none 0 0, .int .u64 (x : Int), .func (.func g) #[] lb, .int .u64 (x : Int), undef, undef, undef, undef, undef], defers := [] }) ?assign ?body ?done ?stop
  case assign =>
    intro l x W K hK
    gi_wp2
    exact hK
  case body =>
    rintro l pre x W ⟨⟨v, hv, hrow, hnil⟩, hB⟩ hlt
    have hc := hv.cell
    gi_wp2_with (gi_at_builtin; refine wpListIn_append_own _ rfl _ _ 41 rfl w.heap.size 23 i0 (.int .u64 0) 1 8 und_nums hi hz0 hz1 hz2 rfl (by decide) _ _ _ rfl (hrow.alloc _) ⟨W.heap.size, 0, none⟩ 1 1 [.int .u64 (x : Int)] rfl rfl (cell_one_new _ _ _) (by simp [Value.oneCell', nk]) (by simp only [maxLen]; omega) (by omega) (by have := hB.size; simp; omega) ?_; intro v' w1 hown' hgrow _; obtain ⟨g', cap', rfl⟩ := ownsRow_succ hown'; obtain ⟨hv1, hv2, hr2, hk2, hb2⟩ := hv.appended (by decide) hrow hB.size (Nat.le_refl _) hown' hgrow; have hc1 := hv1.cell; have hf1 := hv1.frozen)
    exact ⟨hk2.from _, hk2.walks, ⟨_, hv2, by simpa [nk] using hr2, by simp⟩, hB.trans hb2⟩
  case done =>
    rintro D ys W hD hS ⟨⟨v, hv, hrow, hnil⟩, hB⟩ hK
    have hc := hv.cell
    have hf := hv.frozen
    gi_wp2
    refine ⟨by simp, .inl ⟨_, _, rfl, run_takeDeferred hK, ?_⟩⟩
    exact ⟨_, results_tmp rfl _ _ _, v, ys, rfl, hS, ownsRow_putObj hrow _ hK rfl, hnil, hB.trans (belowK_b (w := w) (Nat.le_refl _) W D _ _ (by simp at hD; omega) hK rfl rfl)⟩
  case stop =>
    rintro D c pre W _ _ h _
    exact h.elim

set_option maxRecDepth 100000 in
set_option maxHeartbeats 1000000 in
theorem collect_in (F : Fence) (n : Nat) (h8 : F.fn 112) (hf : F.fn 159) (hro : F.round = none) (hn : 3 ≤ n) (g : Nat) (lb : Array Value) (hg : F.fn g) (eg : ∀ args w, (callFunc g args).run Tryz.prog w = .ok (.enter g args) w)
    (S : List Nat → Prop) (N : Nat) (hN : N ≤ 65536) (w : World) (hseq : SeqStopsK F (n - 1 - 1) Tryz.prog g lb (fun x => #[nk x]) KeepsWalks S (fun _ => True) N w) :
    CallsIn F n Tryz.prog 112 #[.func (.func g) #[] lb] w fun e w' => ∃ (v : Value) (ss : List Nat), e = .returned v ∧ S ss ∧ w'.ownsRow w.heap.size 23 1 v ss.length (ss.map nk) ∧ (v = .slice none 0 0 ↔ ss = []) ∧ Below w.heap.size w w' := by
  have h1 : 1 ≤ n := by omega
  refine callsIn_of_wp Tryz.func112 rfl h8 ?_ hro
  simp only [Tryz.ntmps112, List.size_toArray, List.length_cons, List.length_nil, Nat.reduceAdd, Nat.reduceSub, Array.replicate_succ, Array.replicate_zero, List.push_toArray, List.append_toArray, List.nil_append, List.cons_append]
  gi_wp2_with (gi_at_call 159; refine (append_in F (n - 1) hf hro (by omega) g lb hg eg S N hN _ hseq).mono ?_; rintro e w' ⟨v, ss, rfl, hS, hrow, hnil, hb⟩)
  go_ret
  exact ⟨v, ss, rfl, hS, hrow, hnil, hb⟩

theorem enters_keys1 : ∀ args w, (callFunc 114 args).run Tryz.prog w = .ok (.enter 114 args) w :=
  enters_of Tryz.func114 (by kernel_rfl) rfl

/-- Collect(Keys(m)). -/
theorem Collect_any (Bm b : Nat) (M : Nat → Option (Nat → Nat)) (w : World) (hBm : Bm < w.heap.size) (hb : b < w.heap.size) (hm : w.cell? ⟨Bm, 0, none⟩ = some (.map (some b))) (hMB : MB w b M) :
    Calls Tryz.prog 112 #[.func (.func 114) #[] #[.pointer (some ⟨Bm, 0, none⟩)]] w fun e w' => ∃ (v : Value) (ss : List Nat), e = .returned v ∧ Nums M ss ∧ w'.ownsRow w.heap.size 23 1 v ss.length (ss.map nk) ∧ (v = .slice none 0 0 ↔ ss = []) ∧ Below w.heap.size w w' := by
  refine (callsIn_wide (n := 6)).1 ?_
  exact collect_in Fence.wide 6 trivial trivial rfl (by omega) _ _ trivial enters_keys1 (Nums M) 65536 (Nat.le_refl _) w (keys_seq Fence.wide 4 trivial rfl (by omega) Bm b M w hBm hb hm hMB)
end Go.Proofs.YtigbjhmodpplbaaGreatDoor

/- A row of numbers that is turned by swaps; cmp.Less; the insertion sort. -/
namespace Go.Proofs.YtigbjhmodpplbaaGreatDoor
open Go.ChangeShapes Go.WideShapes Go.ChangeAt Go.RowKit
set_option linter.unusedVariables false
set_option linter.unusedSimpArgs false

namespace SO
def swp (X : Nat → Nat) (i j : Nat) : Nat → Nat := fun p => if p = i then X j else if p = j then X i else X p
/-- Turned by swaps within a .. b. -/
inductive Sw (a b : Nat) (X : Nat → Nat) : (Nat → Nat) → Prop
  | refl : Sw a b X X
  | step {Y : Nat → Nat} {i j : Nat} : Sw a b X Y → a ≤ i → i < b → a ≤ j → j < b → Sw a b X (swp Y i j)
theorem Sw.trans {a b : Nat} {X Y Z : Nat → Nat} (h : Sw a b X Y) (k : Sw a b Y Z) : Sw a b X Z := by
  induction k with
  | refl => exact h
  | step _ h1 h2 h3 h4 ih => exact ih.step h1 h2 h3 h4
theorem Sw.wide {a b a' b' : Nat} {X Y : Nat → Nat} (h : Sw a b X Y) (ha : a' ≤ a) (hb : b ≤ b') : Sw a' b' X Y := by
  induction h with
  | refl => exact .refl
  | step _ h1 h2 h3 h4 ih => exact ih.step (by omega) (by omega) (by omega) (by omega)
theorem Sw.out {a b : Nat} {X Y : Nat → Nat} (h : Sw a b X Y) : ∀ p, p < a ∨ b ≤ p → Y p = X p := by
  induction h with
  | refl => exact fun _ _ => rfl
  | step _ h1 h2 h3 h4 ih =>
    intro p hp
    rw [← ih p hp]
    unfold swp
    rw [if_neg (by omega), if_neg (by omega)]
theorem Sw.all {a b : Nat} {X Y : Nat → Nat} (h : Sw a b X Y) {P : Nat → Prop} (hX : ∀ p, a ≤ p → p < b → P (X p)) : ∀ p, a ≤ p → p < b → P (Y p) := by
  induction h with
  | refl => exact hX
  | @step Y i j _ h1 h2 h3 h4 ih =>
    intro p hp hp2
    unfold swp
    split
    · exact ih j h3 h4
    · split
      · exact ih i h1 h2
      · exact ih p hp hp2
def lst (X : Nat → Nat) (N : Nat) : List Nat := (List.range N).map X
theorem lst_len (X : Nat → Nat) (N : Nat) : (lst X N).length = N := by simp [lst]
theorem lst_get (X : Nat → Nat) (N i : Nat) (h : i < N) : (lst X N)[i]? = some (X i) := by simp [lst, h]
theorem lst_mem (X : Nat → Nat) (N x : Nat) : x ∈ lst X N ↔ ∃ i, i < N ∧ X i = x := by simp [lst]
def Inj (X : Nat → Nat) (N : Nat) : Prop := ∀ i j, i < N → j < N → X i = X j → i = j
theorem lst_nodup (X : Nat → Nat) (N : Nat) (h : Inj X N) : (lst X N).Nodup := by
  unfold lst List.Nodup
  rw [List.pairwise_map]
  refine List.nodup_range.imp_of_mem ?_
  intro i j hi hj hne e
  exact hne (h i j (List.mem_range.1 hi) (List.mem_range.1 hj) e)
theorem inj_of_nodup (X : Nat → Nat) (N : Nat) (h : (lst X N).Nodup) : Inj X N := by
  intro i j hi hj e
  have h1 := lst_get X N i hi
  have h2 := lst_get X N j hj
  rw [e] at h1
  exact (List.getElem?_inj (by rw [lst_len]; exact hi) h).1 (h1.trans h2.symm)
theorem Sw.inj {a b N : Nat} {X Y : Nat → Nat} (h : Sw a b X Y) (hb : b ≤ N) (hX : Inj X N) : Inj Y N := by
  induction h with
  | refl => exact hX
  | @step Y i j _ h1 h2 h3 h4 ih =>
    intro p q hp hq e
    unfold swp at e
    split at e <;> split at e <;> (try split at e) <;> (try split at e) <;> first
      | (have := ih _ _ (by omega) (by omega) e; omega)
      | omega
theorem Sw.mem {a b N : Nat} {X Y : Nat → Nat} (h : Sw a b X Y) (hb : b ≤ N) : ∀ x, x ∈ lst Y N ↔ x ∈ lst X N := by
  induction h with
  | refl => exact fun _ => Iff.rfl
  | @step Y i j _ h1 h2 h3 h4 ih =>
    intro x
    rw [← ih x, lst_mem, lst_mem]
    constructor
    · rintro ⟨p, hp, rfl⟩
      unfold swp
      split
      · exact ⟨j, by omega, rfl⟩
      · split
        · exact ⟨i, by omega, rfl⟩
        · exact ⟨p, hp, rfl⟩
    · rintro ⟨p, hp, rfl⟩
      by_cases e1 : p = i
      · refine ⟨j, by omega, ?_⟩
        unfold swp
        by_cases e2 : j = i
        · rw [if_pos e2, e1, e2]
        · rw [if_neg e2, if_pos rfl, e1]
      · by_cases e2 : p = j
        · exact ⟨i, by omega, by unfold swp; rw [if_pos rfl, e2]⟩
        · exact ⟨p, hp, by unfold swp; rw [if_neg e1, if_neg e2]⟩
/-- Rising from a up to b. -/
def Up (X : Nat → Nat) (a b : Nat) : Prop := ∀ p q, a ≤ p → p < q → q < b → X p ≤ X q
/-- Rising up to i, but for what stands at j. -/
def Ins (X : Nat → Nat) (a i j : Nat) : Prop := ∀ p q, a ≤ p → p < q → q ≤ i → q ≠ j → X p ≤ X q
theorem ins_start {X : Nat → Nat} {a i : Nat} (h : Up X a i) : Ins X a i i := fun p q h1 h2 h3 h4 => h p q h1 h2 (by omega)
theorem ins_swap {X : Nat → Nat} {a i j : Nat} (h : Ins X a i j) (ha : a < j) (hj : j ≤ i) (hlt : X j < X (j - 1)) : Ins (swp X j (j - 1)) a i (j - 1) := by
  intro p q h1 h2 h3 h4
  unfold swp
  by_cases e1 : q = j
  · rw [if_neg (by omega : p ≠ j), if_pos e1]
    by_cases e2 : p = j - 1
    · rw [if_pos e2]; omega
    · rw [if_neg e2]; exact h p (j - 1) h1 (by omega) (by omega) (by omega)
  · rw [if_neg e1, if_neg h4]
    by_cases e2 : p = j
    · rw [if_pos e2]
      exact h (j - 1) q (by omega) (by omega) h3 e1
    · rw [if_neg e2]
      by_cases e3 : p = j - 1
      · rw [if_pos e3]
        have := h (j - 1) q (by omega) (by omega) h3 e1
        omega
      · rw [if_neg e3]; exact h p q h1 h2 h3 e1
theorem ins_done {X : Nat → Nat} {a i j : Nat} (h : Ins X a i j) (ha : a ≤ j) (hj : j ≤ i) (hd : j = a ∨ X (j - 1) ≤ X j) : Up X a (i + 1) := by
  intro p q h1 h2 h3
  by_cases e : q = j
  · subst e
    rcases hd with hd | hd
    · omega
    · by_cases e2 : p = q - 1
      · rw [e2]; exact hd
      · have := h p (q - 1) h1 (by omega) (by omega) (by omega)
        omega
  · exact h p q h1 h2 (by omega) e
end SO

/-- Block g holds these numbers, and then the rest. -/
structure RW (w : World) (g N : Nat) (X : Nat → Nat) (rest : List Value) : Prop where
  blk : Blk w g 23 ((SO.lst X N).map nk ++ rest)
section
variable {w w' : World} {g N : Nat} {X : Nat → Nat} {rest : List Value}
theorem RW.cell (h : RW w g N X rest) (i : Nat) (hi : i < N) : w.cell? ⟨g, i, none⟩ = some (.int .u64 ((X i : Nat) : Int)) := by
  refine h.blk.cell ?_
  rw [List.getElem?_append_left (by simp [SO.lst_len, hi]), List.getElem?_map, SO.lst_get X N i hi]
  rfl
theorem RW.fz (h : RW w g N X rest) (i : Nat) : w.frozen? ⟨g, i, none⟩ = false := h.blk.fz i
theorem RW.lt (h : RW w g N X rest) : g < w.heap.size := h.blk.lt
theorem RW.drewN (h : RW w g N X rest) (t : Nat) : RW (w.drewN t) g N X rest := ⟨h.blk⟩
theorem RW.drew (h : RW w g N X rest) : RW w.drew g N X rest := ⟨h.blk⟩
theorem RW.alloc (h : RW w g N X rest) (o : Obj) : RW (w.alloc o) g N X rest := ⟨h.blk.alloc o⟩
theorem RW.far (h : RW w g N X rest) {p : Addr} (hp : g ≠ p.block) (u : Value) : RW (w.setCell p u) g N X rest := ⟨h.blk.far hp u⟩
theorem RW.keep (h : RW w g N X rest) (hb : Below w.heap.size w w') : RW w' g N X rest := ⟨h.blk.keep hb⟩
theorem RW.swap (h : RW w g N X rest) (i j : Nat) (hi : i < N) (hj : j < N) : RW ((w.setCell ⟨g, i, none⟩ (.int .u64 ((X j : Nat) : Int))).setCell ⟨g, j, none⟩ (.int .u64 ((X i : Nat) : Int))) g N (SO.swp X i j) rest := by
  refine ⟨?_⟩
  have h1 := (h.blk.set i (.int .u64 ((X j : Nat) : Int))).set j (.int .u64 ((X i : Nat) : Int))
  have e : (((SO.lst X N).map nk ++ rest).set i (.int .u64 ((X j : Nat) : Int))).set j (.int .u64 ((X i : Nat) : Int)) = (SO.lst (SO.swp X i j) N).map nk ++ rest := by
    rw [List.set_append_left _ _ (by simp [SO.lst_len, hi]), List.set_append_left _ _ (by simp [SO.lst_len, hj])]
    congr 1
    apply List.ext_getElem?
    intro p
    by_cases hp : p < N
    · rw [List.getElem?_map, SO.lst_get _ N p hp, List.getElem?_set, List.getElem?_set, List.getElem?_map, SO.lst_get X N p hp]
      simp only [List.length_set, List.length_map, SO.lst_len, hi, hj, if_true, Option.map_some]
      unfold SO.swp
      by_cases e1 : j = p
      · subst e1
        rw [if_pos rfl]
        by_cases e2 : j = i
        · subst e2; simp [nk]
        · rw [if_neg e2]; simp [nk]
      · rw [if_neg e1, if_neg (Ne.symm e1)]
        by_cases e2 : i = p
        · subst e2; simp [nk]
        · rw [if_neg e2, if_neg (Ne.symm e2)]
    · rw [List.getElem?_eq_none (by simp [SO.lst_len]; omega), List.getElem?_eq_none (by simp [SO.lst_len]; omega)]
  rw [e] at h1
  exact h1
end

set_option maxRecDepth 100000 in
set_option maxHeartbeats 1000000 in
theorem isNaN_any (x : Nat) (w : World) : Calls Tryz.prog 197 #[.int .u64 (x : Int)] w fun e w' => e = .returned (.bool false) ∧ w' = w := by
  go_enter Tryz.func197, Tryz.ntmps197
  go_wp2
  go_ret
  exact ⟨by simp, rfl⟩

set_option maxRecDepth 100000 in
set_option maxHeartbeats 1000000 in
theorem Less_any (x y : Nat) (w : World) : Calls Tryz.prog 185 #[.int .u64 (x : Int), .int .u64 (y : Int)] w fun e w' => e = .returned (.bool (decide (x < y))) ∧ w' = w := by
  have hN := fun x w => isNaN_any x w
  go_enter Tryz.func185, Tryz.ntmps185
  by_cases h : x < y
  · go_wp2_with (go_at_call 197; refine (hN x _).mono ?_; rintro e w' ⟨rfl, rfl⟩)
    go_ret
    exact ⟨by simp [h], rfl⟩
  · go_wp2_with (go_at_call 197; refine (hN x _).mono ?_; rintro e w' ⟨rfl, rfl⟩)
    go_ret
    exact ⟨by simp [h], rfl⟩

set_option maxRecDepth 100000 in
set_option maxHeartbeats 4000000 in
theorem insert_any (g N cap : Nat) (rest : List Value) (a b : Nat) (X : Nat → Nat) (w : World) (h : RW w g N X rest) (hab : a ≤ b) (hb : b ≤ N) (hN : N ≤ 65536) (hcap : N ≤ cap) (hX : ∀ i, i < N → X i < 18446744073709551616) :
    Calls Tryz.prog 179 #[.slice (some ⟨g, 0, none⟩) N cap, .int .i64 (a : Int), .int .i64 (b : Int)] w fun e w' => e = .returned (.tuple #[]) ∧ Two g g w w' ∧ ∃ Y, RW w' g N Y rest ∧ SO.Sw a b X Y ∧ SO.Up Y a b := by
  have h := W_hid h
  have hX := W_hid hX
  go_enter Tryz.func179, Tryz.ntmps179
  go_wp2_with fail
  go_loopw [6] (fun v wr => ∃ (i : Nat) (Y : Nat → Nat), v = .int .i64 (i : Int) ∧ a < i ∧ (i ≤ b ∨ i = a + 1) ∧ Hid (RW wr g N Y rest) ∧ Hid (SO.Sw a b X Y) ∧ Hid (SO.Up Y a i) ∧ Hid (Two g g w wr)) (fun v _ => b - (intOf v).toNat)
  case atStart => exact ⟨a + 1, X, by simp, by omega, .inr rfl, h, W_hid .refl, W_hid (fun p q h1 h2 h3 => by omega), W_hid (Two.refl _ _ _)⟩
  case round =>
    obtain ⟨i, Y, rfl, hai, hib, hR, hS, hU, hT⟩ := hrel
    by_cases hlt : i < b
    · go_wp2_with fail
      obtain ⟨wa, rfl⟩ : ∃ wa, wa = wr := ⟨wr, rfl⟩
      go_loopw [7] (fun v wr => ∃ (j : Nat) (Z : Nat → Nat), v = .int .i64 (j : Int) ∧ a ≤ j ∧ j ≤ i ∧ Hid (RW wr g N Z rest) ∧ Hid (SO.Sw a b X Z) ∧ Hid (SO.Ins Z a i j) ∧ Hid (Two g g w wr)) (fun v _ => (intOf v).toNat)
      case atStart => exact ⟨i, Y, rfl, by omega, by omega, hR, hS, W_hid (SO.ins_start hU.out), hT⟩
      case round =>
        obtain ⟨j, Z, rfl, haj, hji, hR2, hS2, hI, hT2⟩ := hrel
        by_cases hja : a < j
        · have cj := hR2.out.cell j (by omega)
          have cj1 := hR2.out.cell (j - 1) (by omega)
          have ej : (j : Int) - 1 = ((j - 1 : Nat) : Int) := by omega
          have fj := hR2.out.fz j
          have fj1 := hR2.out.fz (j - 1)
          have hL := W_hid (fun t => Calls.quiet_of_same (Less_any (Z j) (Z (j - 1)) (wr.drewN t)))
          by_cases hless : Z j < Z (j - 1)
          · have hd : decide (Z j < Z (j - 1)) = true := by simp [hless]
            have hI2 := W_hid (SO.ins_swap hI.out hja hji hless)
            have hS3 := W_hid (hS2.out.step (i := j) (j := j - 1) (by omega) (by omega) (by omega) (by omega))
            have hless := W_hid hless
            rw [hd] at hL
            generalize hzj : Z j = zj at *
            generalize hzk : Z (j - 1) = zk at *
            go_wp2_with fail
            go_quiet ((go_at_call 185; exact hL.out _))
            go_wp2_with fail
            obtain ⟨W, hW⟩ : ∃ W, wr.drewN nq = W := ⟨_, rfl⟩
            have hR3 : RW W g N Z rest := by rw [← hW]; exact hR2.out.drewN nq
            have hT3 : Two g g w W := by rw [← hW]; exact hT2.out.drew nq
            rw [hW]
            have dj := hR3.cell j (by omega)
            have dj1 := hR3.cell (j - 1) (by omega)
            rw [hzj] at dj
            rw [hzk] at dj1
            have gj := hR3.fz j
            have gj1 := hR3.fz (j - 1)
            have hR4 := W_hid (hR3.swap j (j - 1) (by omega) (by omega))
            rw [hzj, hzk] at hR4
            have hT4 := W_hid ((hT3.setCell (p := ⟨g, j, none⟩) (.inl rfl) (.int .u64 (zk : Int))).setCell (p := ⟨g, j - 1, none⟩) (.inl rfl) (.int .u64 (zj : Int)))
            clear hR3 hT3
            go_region
            go_wp2_with fail
            exact ⟨⟨j - 1, _, rfl, by omega, by omega, W_hid hR4.out.drew, hS3, hI2, W_hid ⟨hT4.out.os, hT4.out.tape, hT4.out.output, hT4.out.size, hT4.out.block⟩⟩, by simp [intOf]; omega⟩
          · have hd : decide (Z j < Z (j - 1)) = false := by simp [hless]
            have hU2 := W_hid (SO.ins_done hI.out haj hji (.inr (by omega)))
            have hless := W_hid hless
            rw [hd] at hL
            generalize hzj : Z j = zj at *
            generalize hzk : Z (j - 1) = zk at *
            go_wp2_with fail
            go_quiet ((go_at_call 185; exact hL.out _))
            go_wp2_with fail
            exact ⟨⟨i + 1, Z, by simp, by omega, .inl (by omega), W_hid (hR2.out.drewN nq), hS2, hU2, W_hid (hT2.out.drew nq)⟩, by simp [intOf]; omega⟩
        · have hU2 := W_hid (SO.ins_done hI.out haj hji (.inl (by omega)))
          go_wp2_with fail
          go_quiet (fail)
          go_wp2_with fail
          exact ⟨⟨i + 1, Z, by simp, by omega, .inl (by omega), W_hid (hR2.out.drewN nq), hS2, hU2, W_hid (hT2.out.drew nq)⟩, by simp [intOf]; omega⟩
    · have hU2 : SO.Up Y a b := fun p q h1 h2 h3 => hU.out p q h1 h2 (by omega)
      go_wp2_with fail
      go_end0
      exact ⟨rfl, hT.out, Y, hR.out, hS.out, hU2⟩
end Go.Proofs.YtigbjhmodpplbaaGreatDoor

/- Heaps, partitions, ranges that are left: plain, over rows of numbers that are turned by swaps. -/
namespace Go.Proofs.YtigbjhmodpplbaaGreatDoor
set_option linter.unusedVariables false
set_option linter.unusedSimpArgs false
namespace SO

theorem swp_l (X : Nat → Nat) (i j : Nat) : swp X i j i = X j := by unfold swp; rw [if_pos rfl]
theorem swp_r (X : Nat → Nat) (i j : Nat) : swp X i j j = X i := by
  unfold swp
  by_cases h : j = i
  · rw [if_pos h, h]
  · rw [if_neg h, if_pos rfl]
theorem swp_o (X : Nat → Nat) {i j p : Nat} (h1 : p ≠ i) (h2 : p ≠ j) : swp X i j p = X p := by unfold swp; rw [if_neg h1, if_neg h2]

/-! ### Heaps -/
/-- From place lo of a heap on (which begins at f and has hi places) no child is greater than its parent; but for r's children. -/
def HeapX (Y : Nat → Nat) (f lo hi r : Nat) : Prop := ∀ i c, lo ≤ i → i ≠ r → (c = 2 * i + 1 ∨ c = 2 * i + 2) → c < hi → Y (f + c) ≤ Y (f + i)
def Heap (Y : Nat → Nat) (f lo hi : Nat) : Prop := ∀ i c, lo ≤ i → (c = 2 * i + 1 ∨ c = 2 * i + 2) → c < hi → Y (f + c) ≤ Y (f + i)
/-- r's children are not greater than r's parent. -/
def Grand (Y : Nat → Nat) (f lo hi r : Nat) : Prop := ∀ p c, lo ≤ p → (r = 2 * p + 1 ∨ r = 2 * p + 2) → (c = 2 * r + 1 ∨ c = 2 * r + 2) → c < hi → Y (f + c) ≤ Y (f + p)
theorem heap_begin {Y : Nat → Nat} {f lo hi : Nat} (h : Heap Y f (lo + 1) hi) : HeapX Y f lo hi lo ∧ Grand Y f lo hi lo :=
  ⟨fun i c h1 h2 h3 h4 => h i c (by omega) h3 h4, fun p c h1 h2 => by omega⟩
theorem heap_leaf {Y : Nat → Nat} {f lo hi r : Nat} (h : HeapX Y f lo hi r) (hr : hi ≤ 2 * r + 1) : Heap Y f lo hi := fun i c h1 h2 h3 => by
  by_cases e : i = r
  · subst e; omega
  · exact h i c h1 e h2 h3
theorem heap_stop {Y : Nat → Nat} {f lo hi r c : Nat} (h : HeapX Y f lo hi r) (hc : c = 2 * r + 1 ∨ c = 2 * r + 2) (hm : ∀ d, (d = 2 * r + 1 ∨ d = 2 * r + 2) → d < hi → Y (f + d) ≤ Y (f + c)) (hle : Y (f + c) ≤ Y (f + r)) : Heap Y f lo hi := fun i d h1 h2 h3 => by
  by_cases e : i = r
  · subst e
    exact Nat.le_trans (hm d h2 h3) hle
  · exact h i d h1 e h2 h3
theorem heap_down {Y : Nat → Nat} {f lo hi r c : Nat} (h : HeapX Y f lo hi r) (g : Grand Y f lo hi r) (hlo : lo ≤ r) (hc : c = 2 * r + 1 ∨ c = 2 * r + 2) (hch : c < hi) (hm : ∀ d, (d = 2 * r + 1 ∨ d = 2 * r + 2) → d < hi → Y (f + d) ≤ Y (f + c)) (hlt : Y (f + r) < Y (f + c)) :
    HeapX (swp Y (f + r) (f + c)) f lo hi c ∧ Grand (swp Y (f + r) (f + c)) f lo hi c := by
  have hrc : r ≠ c := by omega
  refine ⟨fun i d h1 h2 h3 h4 => ?_, fun p d h1 h2 h3 h4 => ?_⟩
  · by_cases e : i = r
    · subst e
      rw [swp_l]
      by_cases e2 : d = c
      · subst e2; rw [swp_r]; omega
      · rw [swp_o _ (by omega) (by omega)]; exact hm d h3 h4
    · rw [swp_o (p := f + i) _ (by omega) (by omega)]
      by_cases e2 : d = r
      · subst e2
        rw [swp_l]
        exact g i c h1 h3 hc hch
      · rw [swp_o _ (by omega) (by omega)]
        exact h i d h1 e h3 h4
  · obtain rfl : p = r := by omega
    rw [swp_l, swp_o _ (by omega) (by omega)]
    exact h c d (by omega) (by omega) h3 h4
theorem heap_top {Y : Nat → Nat} {f hi : Nat} (h : Heap Y f 0 hi) : ∀ j, j < hi → Y (f + j) ≤ Y f := by
  intro j
  induction j using Nat.strongRecOn with
  | ind j ih =>
    intro hj
    by_cases e : j = 0
    · subst e; exact Nat.le_refl _
    · have h1 := h ((j - 1) / 2) j (Nat.zero_le _) (by omega) hj
      have h2 := ih ((j - 1) / 2) (by omega) (by omega)
      omega
theorem heap_pop {Y : Nat → Nat} {f i : Nat} (h : Heap Y f 0 (i + 1)) : Heap (swp Y f (f + i)) f 1 i := fun p c h1 h2 h3 => by
  rw [swp_o _ (by omega) (by omega), swp_o _ (by omega) (by omega)]
  exact h p c (Nat.zero_le _) h2 (by omega)
/-- From i on all is in order, and not less than what stands ahead. -/
def Tail (Y : Nat → Nat) (f i n : Nat) : Prop := ∀ p q, p < q → i ≤ q → q < n → Y (f + p) ≤ Y (f + q)
theorem tail_pop {Y : Nat → Nat} {f i n : Nat} (h : Heap Y f 0 (i + 1)) (t : Tail Y f (i + 1) n) (hi : i < n) : Tail (swp Y f (f + i)) f i n := fun p q h1 h2 h3 => by
  have ht := heap_top h
  by_cases e : q = i
  · subst e
    rw [swp_r]
    by_cases e2 : p = 0
    · subst e2
      rw [Nat.add_zero, swp_l]
      exact ht q (by omega)
    · rw [swp_o _ (by omega) (by omega)]; exact ht p (by omega)
  · rw [swp_o (p := f + q) _ (by omega) (by omega)]
    by_cases e2 : p = 0
    · subst e2
      rw [Nat.add_zero, swp_l]
      exact t i q (by omega) (by omega) h3
    · by_cases e3 : p = i
      · subst e3
        rw [swp_r]
        have := t 0 q (by omega) (by omega) h3
        rwa [Nat.add_zero] at this
      · rw [swp_o _ (by omega) (by omega)]
        exact t p q h1 (by omega) h3
theorem tail_sw {Y Z : Nat → Nat} {f i n : Nat} (t : Tail Y f i n) (s : Sw f (f + i) Y Z) : Tail Z f i n := fun p q h1 h2 h3 => by
  rw [s.out (f + q) (by omega)]
  by_cases e : p < i
  · exact s.all (P := fun v => v ≤ Y (f + q)) (fun r hr1 hr2 => by
      have := t (r - f) q (by omega) h2 h3
      rwa [show f + (r - f) = r by omega] at this) (f + p) (by omega) (by omega)
  · rw [s.out (f + p) (by omega)]
    exact t p q h1 h2 h3
theorem tail_up {Y : Nat → Nat} {f n : Nat} (t : Tail Y f 0 n) : Up Y f (f + n) := fun p q h1 h2 h3 => by
  have := t (p - f) (q - f) (by omega) (Nat.zero_le _) (by omega)
  rwa [show f + (p - f) = p by omega, show f + (q - f) = q by omega] at this

/-! ### What is left of a range -/
/-- What stands ahead of a range is not greater than anything in it. -/
def Bel (Y : Nat → Nat) (a b : Nat) : Prop := a = 0 ∨ ∀ p, a ≤ p → p < b → Y (a - 1) ≤ Y p
theorem bel_sw {Y Z : Nat → Nat} {a b : Nat} (h : Bel Y a b) (s : Sw a b Y Z) : Bel Z a b := by
  rcases h with h | h
  · exact .inl h
  · by_cases e : a = 0
    · exact .inl e
    · refine .inr fun p h1 h2 => ?_
      rw [s.out (a - 1) (by omega)]
      exact s.all (P := fun v => Y (a - 1) ≤ v) h p h1 h2
theorem bel_left {Y : Nat → Nat} {a b m : Nat} (h : Bel Y a b) (hm : m ≤ b) : Bel Y a m := by
  rcases h with h | h
  · exact .inl h
  · exact .inr fun p h1 h2 => h p h1 (by omega)
/-- All is in order but for what is left. -/
def Left (Y : Nat → Nat) (a b a' b' : Nat) : Prop := ∀ p q, a ≤ p → p < q → q < b → (p < a' ∨ b' ≤ p ∨ q < a' ∨ b' ≤ q) → Y p ≤ Y q
theorem left_begin (Y : Nat → Nat) (a b : Nat) : Left Y a b a b := fun p q h1 h2 h3 h4 => by omega
theorem left_sw {Y Z : Nat → Nat} {a b a' b' : Nat} (h : Left Y a b a' b') (s : Sw a' b' Y Z) (ha : a ≤ a') (hb : b' ≤ b) : Left Z a b a' b' := fun p q h1 h2 h3 h4 => by
  by_cases e1 : a' ≤ p ∧ p < b'
  · rw [s.out q (by omega)]
    exact s.all (P := fun v => v ≤ Y q) (fun r hr1 hr2 => h r q (by omega) (by omega) h3 (by omega)) p e1.1 e1.2
  · rw [s.out p (by omega)]
    by_cases e2 : a' ≤ q ∧ q < b'
    · exact s.all (P := fun v => Y p ≤ v) (fun r hr1 hr2 => h p r h1 (by omega) (by omega) (by omega)) q e2.1 e2.2
    · rw [s.out q (by omega)]
      exact h p q h1 h2 h3 h4
theorem left_done {Y : Nat → Nat} {a b a' b' : Nat} (h : Left Y a b a' b') (u : Up Y a' b') : Up Y a b := fun p q h1 h2 h3 => by
  by_cases e : a' ≤ p ∧ q < b'
  · exact u p q e.1 h2 e.2
  · exact h p q h1 h2 h3 (by omega)
/-- Parted at m. -/
def Parted (Y : Nat → Nat) (a b m : Nat) : Prop := (∀ p, a ≤ p → p < m → Y p ≤ Y m) ∧ ∀ p, m < p → p < b → Y m ≤ Y p
theorem parted_left {Y Z : Nat → Nat} {a b m : Nat} (h : Parted Y a b m) (s : Sw a m Y Z) (hm : m < b) : Parted Z a b m :=
  ⟨fun p h1 h2 => by
    rw [s.out m (by omega)]
    exact s.all (P := fun v => v ≤ Y m) h.1 p h1 h2, fun p h1 h2 => by
    rw [s.out m (by omega), s.out p (by omega)]
    exact h.2 p h1 h2⟩
theorem parted_right {Y Z : Nat → Nat} {a b m : Nat} (h : Parted Y a b m) (s : Sw (m + 1) b Y Z) : Parted Z a b m :=
  ⟨fun p h1 h2 => by
    rw [s.out m (by omega), s.out p (by omega)]
    exact h.1 p h1 h2, fun p h1 h2 => by
    rw [s.out m (by omega)]
    exact s.all (P := fun v => Y m ≤ v) (fun r hr1 hr2 => h.2 r (by omega) hr2) p (by omega) h2⟩
theorem left_lower {Y : Nat → Nat} {a b a' b' m : Nat} (h : Left Y a b a' b') (k : Parted Y a' b' m) (hm : a' ≤ m) (hmb : m < b') (u : Up Y a' m) : Left Y a b (m + 1) b' := fun p q h1 h2 h3 h4 => by
  by_cases e : a' ≤ p ∧ q < b'
  · by_cases e1 : q < m
    · exact u p q e.1 h2 e1
    · by_cases e2 : q = m
      · subst e2; exact k.1 p e.1 h2
      · have hq := k.2 q (by omega) e.2
        by_cases e3 : p = m
        · subst e3; exact hq
        · have hp := k.1 p e.1 (by omega)
          omega
  · exact h p q h1 h2 h3 (by omega)
theorem left_upper {Y : Nat → Nat} {a b a' b' m : Nat} (h : Left Y a b a' b') (k : Parted Y a' b' m) (hm : a' ≤ m) (hmb : m < b') (u : Up Y (m + 1) b') : Left Y a b a' m := fun p q h1 h2 h3 h4 => by
  by_cases e : a' ≤ p ∧ q < b'
  · by_cases e1 : m < p
    · exact u p q e1 h2 e.2
    · by_cases e2 : p = m
      · subst e2; exact k.2 q h2 e.2
      · have hp := k.1 p e.1 (by omega)
        by_cases e3 : q = m
        · subst e3; exact hp
        · have hq := k.2 q (by omega) e.2
          omega
  · exact h p q h1 h2 h3 (by omega)
theorem bel_right {Y : Nat → Nat} {a b m : Nat} (k : Parted Y a b m) : Bel Y (m + 1) b := .inr fun p h1 h2 => by
  rw [Nat.add_sub_cancel]
  exact k.2 p (by omega) h2

/-! ### The shifts -/
/-- In order from a up to b. -/
theorem up_next {Y : Nat → Nat} {a i : Nat} (h : Up Y a i) (ha : a < i) (hle : Y (i - 1) ≤ Y i) : Up Y a (i + 1) := fun p q h1 h2 h3 => by
  by_cases e : q = i
  · subst e
    by_cases e2 : p = q - 1
    · rw [e2]; exact hle
    · have := h p (q - 1) h1 (by omega) (by omega)
      omega
  · exact h p q h1 h2 (by omega)
theorem up_one (Y : Nat → Nat) (a : Nat) : Up Y a (a + 1) := fun p q h1 h2 h3 => by omega

/-! ### The parting -/
/-- The row while it's parted: the pivot at a, less ones up to i, the others behind j. -/
def Mid (Y : Nat → Nat) (a b i j : Nat) : Prop := (∀ p, a < p → p < i → Y p < Y a) ∧ ∀ p, j < p → p < b → Y a ≤ Y p
theorem mid_i {Y : Nat → Nat} {a b i j : Nat} (h : Mid Y a b i j) (hlt : Y i < Y a) : Mid Y a b (i + 1) j := ⟨fun p h1 h2 => by
  by_cases e : p = i
  · subst e; exact hlt
  · exact h.1 p h1 (by omega), h.2⟩
theorem mid_j {Y : Nat → Nat} {a b i j : Nat} (h : Mid Y a b i (j + 1)) (hle : Y a ≤ Y (j + 1)) : Mid Y a b i j := ⟨h.1, fun p h1 h2 => by
  by_cases e : p = j + 1
  · subst e; exact hle
  · exact h.2 p (by omega) h2⟩
theorem mid_swap {Y : Nat → Nat} {a b i j : Nat} (h : Mid Y a b i j) (ha : a < i) (hij : i < j) (hi : Y a ≤ Y i) (hj : Y j < Y a) : Mid (swp Y i j) a b (i + 1) (j - 1) := by
  refine ⟨fun p h1 h2 => ?_, fun p h1 h2 => ?_⟩
  · rw [swp_o (p := a) _ (by omega) (by omega)]
    by_cases e : p = i
    · subst e; rw [swp_l]; exact hj
    · rw [swp_o _ e (by omega)]; exact h.1 p h1 (by omega)
  · rw [swp_o (p := a) _ (by omega) (by omega)]
    by_cases e : p = j
    · subst e; rw [swp_r]; exact hi
    · rw [swp_o _ (by omega) e]; exact h.2 p (by omega) h2
theorem mid_done {Y : Nat → Nat} {a b i j : Nat} (h : Mid Y a b i j) (ha : a ≤ j) (hij : j < i) : Parted (swp Y j a) a b j := by
  refine ⟨fun p h1 h2 => ?_, fun p h1 h2 => ?_⟩
  · rw [swp_l]
    by_cases e : p = a
    · subst e; rw [swp_r]
      by_cases e2 : j = p
      · omega
      · exact Nat.le_of_lt (h.1 j (by omega) hij)
    · rw [swp_o _ (by omega) e]
      exact Nat.le_of_lt (h.1 p (by omega) (by omega))
  · rw [swp_l, swp_o _ (by omega) (by omega)]
    exact h.2 p h1 h2
end SO
end Go.Proofs.YtigbjhmodpplbaaGreatDoor

/- reverseRangeOrdered: a row is turned by swaps. -/
namespace Go.Proofs.YtigbjhmodpplbaaGreatDoor
open Go.ChangeShapes Go.WideShapes Go.ChangeAt Go.RowKit
set_option linter.unusedVariables false
set_option linter.unusedSimpArgs false

set_option maxRecDepth 100000 in
set_option maxHeartbeats 1000000 in
theorem reverse_any (g N cap : Nat) (rest : List Value) (a b : Nat) (X : Nat → Nat) (w : World) (h : RW w g N X rest) (hab : a < b) (hb : b ≤ N) (hN : N ≤ 65536) (hcap : N ≤ cap) :
    Calls Tryz.prog 183 #[.slice (some ⟨g, 0, none⟩) N cap, .int .i64 (a : Int), .int .i64 (b : Int)] w fun e w' => e = .returned (.tuple #[]) ∧ Two g g w w' ∧ ∃ Y, RW w' g N Y rest ∧ SO.Sw a b X Y := by
  have h := W_hid h
  go_enter Tryz.func183, Tryz.ntmps183
  go_wp2_with fail
  go_loopw [6, 7] (fun v u wr => ∃ (i j : Nat) (Y : Nat → Nat), v = .int .i64 (i : Int) ∧ u = .int .i64 (j : Int) ∧ a ≤ i ∧ j < b ∧ Hid (RW wr g N Y rest) ∧ Hid (SO.Sw a b X Y) ∧ Hid (Two g g w wr)) (fun _ u _ => (intOf u).toNat)
  case atStart => exact ⟨a, b - 1, X, rfl, by congr 1; omega, Nat.le_refl _, by omega, h, W_hid .refl, W_hid (Two.refl _ _ _)⟩
  case round =>
    obtain ⟨i, j, Y, rfl, rfl, hai, hjb, hR, hS, hT⟩ := hrel
    by_cases hij : i < j
    · have ci := hR.out.cell i (by omega)
      have cj := hR.out.cell j (by omega)
      have fi := hR.out.fz i
      have fj := hR.out.fz j
      have hR2 := W_hid (hR.out.swap i j (by omega) (by omega))
      have hS2 := W_hid (hS.out.step (i := i) (j := j) hai (by omega) (by omega) hjb)
      have hT2 := W_hid ((hT.out.setCell (p := ⟨g, i, none⟩) (.inl rfl) (.int .u64 (Y j : Int))).setCell (p := ⟨g, j, none⟩) (.inl rfl) (.int .u64 (Y i : Int)))
      go_wp2_with fail
      go_region
      go_wp2_with fail
      exact ⟨⟨i + 1, j - 1, _, by go_num, by congr 1; omega, by omega, by omega, W_hid hR2.out.drew, hS2, W_hid ⟨hT2.out.os, hT2.out.tape, hT2.out.output, hT2.out.size, hT2.out.block⟩⟩, by simp [intOf]; omega⟩
    · go_wp2_with fail
      go_end0
      exact ⟨rfl, hT.out, Y, hR.out, hS.out⟩

/-- What order2Ordered and its callers leave: the row as it was, the count of swaps risen by at most d. -/
structure Cnt (g N : Nat) (X : Nat → Nat) (rest : List Value) (y s d : Nat) (w w' : World) : Prop where
  row : RW w' g N X rest
  two : Two y y w w'
  ex : ∃ t, s ≤ t ∧ t ≤ s + d ∧ Blk w' y 3 [.int .i64 (t : Int)]

set_option maxRecDepth 100000 in
set_option maxHeartbeats 1000000 in
theorem order2_any (g N cap : Nat) (rest : List Value) (a b y s : Nat) (X : Nat → Nat) (w : World) (h : RW w g N X rest) (ha : a < N) (hb : b < N) (hN : N ≤ 65536) (hcap : N ≤ cap) (hy : Blk w y 3 [.int .i64 (s : Int)]) (hyg : y ≠ g) (hs : s ≤ 1000) :
    Calls Tryz.prog 198 #[.slice (some ⟨g, 0, none⟩) N cap, .int .i64 (a : Int), .int .i64 (b : Int), .pointer (some ⟨y, 0, none⟩)] w fun e w' => ∃ p q : Nat, e = .returned (.tuple #[.int .i64 (p : Int), .int .i64 (q : Int)]) ∧ ((p = a ∧ q = b) ∨ (p = b ∧ q = a)) ∧ Cnt g N X rest y s 1 w w' := by
  have ca := h.cell a ha
  have cb := h.cell b hb
  have cy := hy.cell (j := 0) rfl
  have fy := hy.fz
  have hL := W_hid (fun t => Calls.quiet_of_same (Less_any (X b) (X a) (w.drewN t)))
  have h := W_hid h
  have hy := W_hid hy
  cases hd : decide (X b < X a) with
  | true =>
    rw [hd] at hL
    clear hd
    generalize X a = xa at *
    generalize X b = xb at *
    go_enter Tryz.func198, Tryz.ntmps198
    go_wp2_with fail
    go_quiet ((go_at_call 185; exact hL.out _))
    obtain ⟨W, hW⟩ : ∃ W, w.drewN nq = W := ⟨_, rfl⟩
    have hR : RW W g N X rest := by rw [← hW]; exact h.out.drewN nq
    have hY : Blk W y 3 [.int .i64 (s : Int)] := by rw [← hW]; exact hy.out
    have hT : Two y y w W := by rw [← hW]; exact (Two.refl _ _ _).drew nq
    rw [hW]
    have c2 := hY.cell (j := 0) rfl
    have f2 := hY.fz
    have hfin := W_hid (show Cnt g N X rest y s 1 w (W.setCell ⟨y, 0, none⟩ (.int .i64 ((s + 1 : Nat) : Int))) from ⟨hR.far (Ne.symm hyg) _, hT.setCell (.inl rfl) _, s + 1, by omega, by omega, hY.set 0 _⟩)
    rw [show ((s + 1 : Nat) : Int) = (s : Int) + 1 from by omega] at hfin
    clear hR hY hT
    go_wp2
    go_ret2
    exact ⟨b, a, rfl, .inr ⟨rfl, rfl⟩, hfin.out⟩
  | false =>
    rw [hd] at hL
    clear hd
    generalize X a = xa at *
    generalize X b = xb at *
    go_enter Tryz.func198, Tryz.ntmps198
    go_wp2_with fail
    go_quiet ((go_at_call 185; exact hL.out _))
    have hfin := W_hid (show Cnt g N X rest y s 1 w (w.drewN nq) from ⟨h.out.drewN nq, (Two.refl _ _ _).drew nq, s, Nat.le_refl _, by omega, hy.out⟩)
    go_wp2
    go_ret2
    exact ⟨a, b, rfl, .inl ⟨rfl, rfl⟩, hfin.out⟩
end Go.Proofs.YtigbjhmodpplbaaGreatDoor

/- medianOrdered, medianAdjacentOrdered: a place among three. -/
namespace Go.Proofs.YtigbjhmodpplbaaGreatDoor
open Go.ChangeShapes Go.WideShapes Go.ChangeAt Go.RowKit
set_option linter.unusedVariables false
set_option linter.unusedSimpArgs false

theorem Cnt.trans {g N y s d d' t : Nat} {X : Nat → Nat} {rest : List Value} {w w1 w2 : World} (h : Cnt g N X rest y s d w w1) (hst : t ≤ s + d) (hst2 : s ≤ t) (k : Cnt g N X rest y t d' w1 w2) : Cnt g N X rest y s (d + d') w w2 := by
  obtain ⟨u, h1, h2, h3⟩ := k.ex
  exact ⟨k.row, h.two.trans k.two, u, by omega, by omega, h3⟩

set_option maxRecDepth 100000 in
set_option maxHeartbeats 1000000 in
theorem median_any (g N cap : Nat) (rest : List Value) (a b c y s : Nat) (X : Nat → Nat) (w : World) (h : RW w g N X rest) (ha : a < N) (hb : b < N) (hc : c < N) (hN : N ≤ 65536) (hcap : N ≤ cap) (hy : Blk w y 3 [.int .i64 (s : Int)]) (hyg : y ≠ g) (hs : s ≤ 900) :
    Calls Tryz.prog 196 #[.slice (some ⟨g, 0, none⟩) N cap, .int .i64 (a : Int), .int .i64 (b : Int), .int .i64 (c : Int), .pointer (some ⟨y, 0, none⟩)] w fun e w' => ∃ p : Nat, e = .returned (.int .i64 (p : Int)) ∧ (p = a ∨ p = b ∨ p = c) ∧ Cnt g N X rest y s 3 w w' := by
  have o2 := W_hid (fun a b s w h ha hb hy hs => order2_any g N cap rest a b y s X w h ha hb hN hcap hy hyg hs)
  have h1 := W_hid (o2.out a b s w h ha hb hy (by omega))
  clear h hy
  go_enter Tryz.func196, Tryz.ntmps196
  go_wp2_with fail
  refine h1.out.mono ?_
  rintro e w1 ⟨p1, q1, rfl, hp1, k1⟩
  obtain ⟨s1, l1, u1, y1⟩ := k1.ex
  have h2 := W_hid (o2.out q1 c s1 w1 k1.row (by omega) hc y1 (by omega))
  replace k1 := W_hid k1
  replace hp1 := W_hid hp1
  clear y1 h1
  go_wp2_with fail
  refine h2.out.mono ?_
  rintro e w2 ⟨p2, q2, rfl, hp2, k2⟩
  obtain ⟨s2, l2, u2, y2⟩ := k2.ex
  have h3 := W_hid (o2.out p1 p2 s2 w2 k2.row (by have := hp1.out; omega) (by have := hp1.out; omega) y2 (by omega))
  replace k2 := W_hid k2
  replace hp2 := W_hid hp2
  clear y2 h2
  go_wp2_with fail
  refine h3.out.mono ?_
  rintro e w3 ⟨p3, q3, rfl, hp3, k3⟩
  have hfin := W_hid ((k1.out.trans u1 l1 k2.out).trans (by omega) (by omega) k3)
  replace hp3 := W_hid hp3
  clear k1 k2 k3 h3
  go_wp2
  go_ret
  exact ⟨q3, rfl, by have := hp1.out; have := hp2.out; have := hp3.out; omega, hfin.out⟩

set_option maxRecDepth 100000 in
set_option maxHeartbeats 1000000 in
theorem adjacent_any (g N cap : Nat) (rest : List Value) (a y s : Nat) (X : Nat → Nat) (w : World) (h : RW w g N X rest) (h1 : 1 ≤ a) (ha : a + 1 < N) (hN : N ≤ 65536) (hcap : N ≤ cap) (hy : Blk w y 3 [.int .i64 (s : Int)]) (hyg : y ≠ g) (hs : s ≤ 900) :
    Calls Tryz.prog 195 #[.slice (some ⟨g, 0, none⟩) N cap, .int .i64 (a : Int), .pointer (some ⟨y, 0, none⟩)] w fun e w' => ∃ p : Nat, e = .returned (.int .i64 (p : Int)) ∧ a ≤ p + 1 ∧ p ≤ a + 1 ∧ Cnt g N X rest y s 3 w w' := by
  have hm := median_any g N cap rest (a - 1) a (a + 1) y s X w h (by omega) (by omega) (by omega) hN hcap hy hyg hs
  rw [show ((a - 1 : Nat) : Int) = (a : Int) - 1 from by omega, show ((a + 1 : Nat) : Int) = (a : Int) + 1 from by omega] at hm
  replace hm := W_hid hm
  clear h hy
  go_enter Tryz.func195, Tryz.ntmps195
  go_wp2_with fail
  refine hm.out.mono ?_
  rintro e w1 ⟨p, rfl, hp, k⟩
  have hfin := W_hid (show a ≤ p + 1 ∧ p ≤ a + 1 ∧ Cnt g N X rest y s 3 w w1 from ⟨by omega, by omega, k⟩)
  clear hp k
  go_wp2
  go_ret
  exact ⟨p, rfl, hfin.out⟩
end Go.Proofs.YtigbjhmodpplbaaGreatDoor

/- siftDownOrdered, heapSortOrdered. -/
namespace Go.Proofs.YtigbjhmodpplbaaGreatDoor
open Go.ChangeShapes Go.WideShapes Go.ChangeAt Go.RowKit
set_option linter.unusedVariables false
set_option linter.unusedSimpArgs false

theorem Two.drewed {g b : Nat} {w w' : World} (h : Two g b w w'.drew) : Two g b w w' := ⟨h.os, h.tape, h.output, h.size, h.block⟩

set_option maxRecDepth 100000 in
set_option maxHeartbeats 4000000 in
theorem sift_any (g N cap : Nat) (rest : List Value) (lo hi f : Nat) (X : Nat → Nat) (w : World) (h : RW w g N X rest) (hlo : lo ≤ hi) (hf : f + hi ≤ N) (hN : N ≤ 65536) (hcap : N ≤ cap) (hH : SO.Heap X f (lo + 1) hi) :
    Calls Tryz.prog 192 #[.slice (some ⟨g, 0, none⟩) N cap, .int .i64 (lo : Int), .int .i64 (hi : Int), .int .i64 (f : Int)] w fun e w' => e = .returned (.tuple #[]) ∧ Two g g w w' ∧ ∃ Y, RW w' g N Y rest ∧ SO.Sw (f + lo) (f + hi) X Y ∧ SO.Heap Y f lo hi := by
  have h := W_hid h
  obtain ⟨hx0, hg0⟩ := SO.heap_begin hH
  have hx0 := W_hid hx0
  have hg0 := W_hid hg0
  clear hH
  go_enter Tryz.func192, Tryz.ntmps192
  go_wp2_with fail
  go_loopw [8, 9] (fun v u wr => ∃ (r : Nat) (Z : Nat → Nat), v = .int .i64 (r : Int) ∧ lo ≤ r ∧ r ≤ hi ∧ Hid (RW wr g N Z rest) ∧ Hid (SO.Sw (f + lo) (f + hi) X Z) ∧ Hid (SO.HeapX Z f lo hi r) ∧ Hid (SO.Grand Z f lo hi r) ∧ Hid (Two g g w wr)) (fun v _ _ => hi - (intOf v).toNat)
  case atStart => exact ⟨lo, X, rfl, Nat.le_refl _, hlo, h, W_hid .refl, hx0, hg0, W_hid (Two.refl _ _ _)⟩
  case round =>
    clear hx0 hg0
    obtain ⟨r, Z, rfl, hlr, hrh, hR, hS, hHX, hG, hT⟩ := hrel
    obtain ⟨c1, hc1⟩ : ∃ c1, 2 * r + 1 = c1 := ⟨_, rfl⟩
    have e1 : 2 * (r : Int) + 1 = (c1 : Int) := by omega
    by_cases h1 : c1 < hi
    · obtain ⟨p0, hp0⟩ : ∃ p, f + r = p := ⟨_, rfl⟩
      obtain ⟨p1, hp1⟩ : ∃ p, f + c1 = p := ⟨_, rfl⟩
      obtain ⟨c2, hc2⟩ : ∃ c, c1 + 1 = c := ⟨_, rfl⟩
      obtain ⟨p2, hp2⟩ : ∃ p, p1 + 1 = p := ⟨_, rfl⟩
      have f0 : (f : Int) + (r : Int) = (p0 : Int) := by omega
      have f1 : (f : Int) + (c1 : Int) = (p1 : Int) := by omega
      have f2 : (p1 : Int) + 1 = (p2 : Int) := by omega
      have f3 : (c1 : Int) + 1 = (c2 : Int) := by omega
      have f4 : (f : Int) + (c2 : Int) = (p2 : Int) := by omega
      have b0 : p0 < N := by omega
      have b1 : p1 < N := by omega
      have hcc : Hid (c1 = 2 * r + 1 ∧ c2 = 2 * r + 2 ∧ f + r = p0 ∧ f + c1 = p1 ∧ f + c2 = p2) := ⟨by omega, by omega, hp0, hp1, by omega⟩
      have d0 := hR.out.cell p0 b0
      have d1 := hR.out.cell p1 b1
      have gz := hR.out.fz
      obtain ⟨v0, hv0⟩ : ∃ v, Z p0 = v := ⟨_, rfl⟩
      obtain ⟨v1, hv1⟩ : ∃ v, Z p1 = v := ⟨_, rfl⟩
      rw [hv0] at d0
      rw [hv1] at d1
      replace hv0 := W_hid hv0
      replace hv1 := W_hid hv1
      by_cases h2 : c2 < hi
      · have b2 : p2 < N := by omega
        have d2 := hR.out.cell p2 b2
        obtain ⟨v2, hv2⟩ : ∃ v, Z p2 = v := ⟨_, rfl⟩
        rw [hv2] at d2
        replace hv2 := W_hid hv2
        have hL := W_hid (fun t => Calls.quiet_of_same (Less_any v1 v2 (wr.drewN t)))
        clear hc1 hc2 hp0 hp1 hp2
        by_cases h3 : v1 < v2
        · rw [show decide (v1 < v2) = true by simp [h3]] at hL
          have hm : Hid (∀ d, (d = 2 * r + 1 ∨ d = 2 * r + 2) → d < hi → Z (f + d) ≤ Z (f + c2)) := by
            obtain ⟨q1, q2, q3, q4, q5⟩ := hcc.out
            have := hv1.out
            have := hv2.out
            rw [← q4] at hv1
            rintro d (rfl | rfl) hd
            · rw [q5, hv2.out, ← q1, hv1.out]; omega
            · rw [← q2]; exact Nat.le_refl _
          replace h3 := W_hid h3
          have hLL := W_hid (fun W t => Calls.quiet_of_same (Less_any v0 v2 (World.drewN W t)))
          have hcx : Hid ((c2 = 2 * r + 1 ∨ c2 = 2 * r + 2) ∧ c2 < hi ∧ f + c2 = p2) := by
            obtain ⟨q1, q2, q3, q4, q5⟩ := hcc.out
            exact ⟨by omega, by omega, by omega⟩
          go_wp2_with fail
          go_quiet ((go_at_call 185; exact hL.out _))
          obtain ⟨W, hW⟩ : ∃ W, wr.drewN nq = W := ⟨_, rfl⟩
          have hR3 : RW W g N Z rest := by rw [← hW]; exact hR.out.drewN nq
          have hT3 : Two g g w W := by rw [← hW]; exact hT.out.drew nq
          rw [hW]
          clear hW d0 d1 d2 gz
          have d0 := hR3.cell p0 b0
          have dc := hR3.cell p2 b2
          have gz := hR3.fz
          rw [hv0.out] at d0
          rw [hv2.out] at dc
          replace hR3 := W_hid hR3
          replace hT3 := W_hid hT3
          by_cases h4 : v0 < v2
          · replace hLL := W_hid (hLL.out W)
            rw [show decide (v0 < v2) = true by simp [h4]] at hLL
            have hnx := W_hid (SO.heap_down hHX.out hG.out hlr hcx.out.1 hcx.out.2.1 hm.out (by rw [hcx.out.2.2, hcc.out.2.2.1, hv0.out, hv2.out]; exact h4))
            rw [hcx.out.2.2, hcc.out.2.2.1] at hnx
            have hS3 := W_hid (hS.out.step (i := p0) (j := p2) (by have := hcc.out.2.2.1; omega) (by have := hcc.out.2.2.1; omega) (by have := hcx.out; omega) (by have := hcx.out; omega))
            have hlt : Hid (r < c2 ∧ c2 ≤ hi ∧ lo ≤ c2) := by
              have := hcx.out
              show _ ∧ _ ∧ _
              omega
            replace h4 := W_hid h4
            go_wp2_with fail
            go_quiet ((go_at_call 185; exact hLL.out _))
            go_wp2_with fail
            obtain ⟨V, hV⟩ : ∃ V, W.drewN nq = V := ⟨_, rfl⟩
            have hR4 : RW V g N Z rest := by rw [← hV]; exact hR3.out.drewN nq
            have hT4 : Two g g w V := by rw [← hV]; exact hT3.out.drew nq
            rw [hV]
            clear hV d0 dc gz
            have d0 := hR4.cell p0 b0
            have dc := hR4.cell p2 b2
            have gz := hR4.fz
            rw [hv0.out] at d0
            rw [hv2.out] at dc
            have hR5 := W_hid (hR4.swap p0 p2 b0 b2)
            rw [hv0.out, hv2.out] at hR5
            have hT5 := W_hid ((hT4.setCell (p := ⟨g, p0, none⟩) (.inl rfl) (.int .u64 (v2 : Int))).setCell (p := ⟨g, p2, none⟩) (.inl rfl) (.int .u64 (v0 : Int)))
            clear hR4 hT4
            go_region
            go_wp2_with fail
            exact ⟨⟨c2, _, rfl, hlt.out.2.2, hlt.out.2.1, W_hid hR5.out.drew, hS3, W_hid hnx.out.1, W_hid hnx.out.2, W_hid ⟨hT5.out.os, hT5.out.tape, hT5.out.output, hT5.out.size, hT5.out.block⟩⟩, by have := hlt.out; simp [intOf]; omega⟩
          · replace hLL := W_hid (hLL.out W)
            rw [show decide (v0 < v2) = false by simp [h4]] at hLL
            have hfin := W_hid (SO.heap_stop hHX.out hcx.out.1 hm.out (by rw [hcx.out.2.2, hcc.out.2.2.1, hv0.out, hv2.out]; omega))
            replace h4 := W_hid h4
            go_wp2_with fail
            go_quiet ((go_at_call 185; exact hLL.out _))
            go_wp2_with fail
            refine bodyPost_ret (results_none rfl _ _ _) rfl ?_
            exact ⟨rfl, hT3.out.drew nq, Z, hR3.out.drewN nq, hS.out, hfin.out⟩
        · rw [show decide (v1 < v2) = false by simp [h3]] at hL
          have hm : Hid (∀ d, (d = 2 * r + 1 ∨ d = 2 * r + 2) → d < hi → Z (f + d) ≤ Z (f + c1)) := by
            obtain ⟨q1, q2, q3, q4, q5⟩ := hcc.out
            rintro d (rfl | rfl) hd
            · rw [← q1]; exact Nat.le_refl _
            · rw [← q2, q5, hv2.out, q4, hv1.out]; omega
          replace h3 := W_hid h3
          have hLL := W_hid (fun W t => Calls.quiet_of_same (Less_any v0 v1 (World.drewN W t)))
          have hcx : Hid ((c1 = 2 * r + 1 ∨ c1 = 2 * r + 2) ∧ c1 < hi ∧ f + c1 = p1) := by
            obtain ⟨q1, q2, q3, q4, q5⟩ := hcc.out
            exact ⟨by omega, by omega, by omega⟩
          go_wp2_with fail
          go_quiet ((go_at_call 185; exact hL.out _))
          obtain ⟨W, hW⟩ : ∃ W, wr.drewN nq = W := ⟨_, rfl⟩
          have hR3 : RW W g N Z rest := by rw [← hW]; exact hR.out.drewN nq
          have hT3 : Two g g w W := by rw [← hW]; exact hT.out.drew nq
          rw [hW]
          clear hW d0 d1 d2 gz
          have d0 := hR3.cell p0 b0
          have dc := hR3.cell p1 b1
          have gz := hR3.fz
          rw [hv0.out] at d0
          rw [hv1.out] at dc
          replace hR3 := W_hid hR3
          replace hT3 := W_hid hT3
          by_cases h4 : v0 < v1
          · replace hLL := W_hid (hLL.out W)
            rw [show decide (v0 < v1) = true by simp [h4]] at hLL
            have hnx := W_hid (SO.heap_down hHX.out hG.out hlr hcx.out.1 hcx.out.2.1 hm.out (by rw [hcx.out.2.2, hcc.out.2.2.1, hv0.out, hv1.out]; exact h4))
            rw [hcx.out.2.2, hcc.out.2.2.1] at hnx
            have hS3 := W_hid (hS.out.step (i := p0) (j := p1) (by have := hcc.out.2.2.1; omega) (by have := hcc.out.2.2.1; omega) (by have := hcx.out; omega) (by have := hcx.out; omega))
            have hlt : Hid (r < c1 ∧ c1 ≤ hi ∧ lo ≤ c1) := by
              have := hcx.out
              show _ ∧ _ ∧ _
              omega
            replace h4 := W_hid h4
            go_wp2_with fail
            go_quiet ((go_at_call 185; exact hLL.out _))
            go_wp2_with fail
            obtain ⟨V, hV⟩ : ∃ V, W.drewN nq = V := ⟨_, rfl⟩
            have hR4 : RW V g N Z rest := by rw [← hV]; exact hR3.out.drewN nq
            have hT4 : Two g g w V := by rw [← hV]; exact hT3.out.drew nq
            rw [hV]
            clear hV d0 dc gz
            have d0 := hR4.cell p0 b0
            have dc := hR4.cell p1 b1
            have gz := hR4.fz
            rw [hv0.out] at d0
            rw [hv1.out] at dc
            have hR5 := W_hid (hR4.swap p0 p1 b0 b1)
            rw [hv0.out, hv1.out] at hR5
            have hT5 := W_hid ((hT4.setCell (p := ⟨g, p0, none⟩) (.inl rfl) (.int .u64 (v1 : Int))).setCell (p := ⟨g, p1, none⟩) (.inl rfl) (.int .u64 (v0 : Int)))
            clear hR4 hT4
            go_region
            go_wp2_with fail
            exact ⟨⟨c1, _, rfl, hlt.out.2.2, hlt.out.2.1, W_hid hR5.out.drew, hS3, W_hid hnx.out.1, W_hid hnx.out.2, W_hid ⟨hT5.out.os, hT5.out.tape, hT5.out.output, hT5.out.size, hT5.out.block⟩⟩, by have := hlt.out; simp [intOf]; omega⟩
          · replace hLL := W_hid (hLL.out W)
            rw [show decide (v0 < v1) = false by simp [h4]] at hLL
            have hfin := W_hid (SO.heap_stop hHX.out hcx.out.1 hm.out (by rw [hcx.out.2.2, hcc.out.2.2.1, hv0.out, hv1.out]; omega))
            replace h4 := W_hid h4
            go_wp2_with fail
            go_quiet ((go_at_call 185; exact hLL.out _))
            go_wp2_with fail
            refine bodyPost_ret (results_none rfl _ _ _) rfl ?_
            exact ⟨rfl, hT3.out.drew nq, Z, hR3.out.drewN nq, hS.out, hfin.out⟩
      · clear hc1 hc2 hp0 hp1 hp2
        have hm : Hid (∀ d, (d = 2 * r + 1 ∨ d = 2 * r + 2) → d < hi → Z (f + d) ≤ Z (f + c1)) := by
          obtain ⟨q1, q2, q3, q4, q5⟩ := hcc.out
          rintro d (rfl | rfl) hd
          · rw [← q1]; exact Nat.le_refl _
          · omega
        have hLL := W_hid (fun W t => Calls.quiet_of_same (Less_any v0 v1 (World.drewN W t)))
        have hcx : Hid ((c1 = 2 * r + 1 ∨ c1 = 2 * r + 2) ∧ c1 < hi ∧ f + c1 = p1) := by
          obtain ⟨q1, q2, q3, q4, q5⟩ := hcc.out
          exact ⟨by omega, by omega, by omega⟩
        go_wp2_with fail
        go_quiet (fail)
        obtain ⟨W, hW⟩ : ∃ W, wr.drewN nq = W := ⟨_, rfl⟩
        have hR3 : RW W g N Z rest := by rw [← hW]; exact hR.out.drewN nq
        have hT3 : Two g g w W := by rw [← hW]; exact hT.out.drew nq
        rw [hW]
        clear hW d0 d1 gz
        have d0 := hR3.cell p0 b0
        have dc := hR3.cell p1 b1
        have gz := hR3.fz
        rw [hv0.out] at d0
        rw [hv1.out] at dc
        replace hR3 := W_hid hR3
        replace hT3 := W_hid hT3
        by_cases h4 : v0 < v1
        · replace hLL := W_hid (hLL.out W)
          rw [show decide (v0 < v1) = true by simp [h4]] at hLL
          have hnx := W_hid (SO.heap_down hHX.out hG.out hlr hcx.out.1 hcx.out.2.1 hm.out (by rw [hcx.out.2.2, hcc.out.2.2.1, hv0.out, hv1.out]; exact h4))
          rw [hcx.out.2.2, hcc.out.2.2.1] at hnx
          have hS3 := W_hid (hS.out.step (i := p0) (j := p1) (by have := hcc.out.2.2.1; omega) (by have := hcc.out.2.2.1; omega) (by have := hcx.out; omega) (by have := hcx.out; omega))
          have hlt : Hid (r < c1 ∧ c1 ≤ hi ∧ lo ≤ c1) := by
            have := hcx.out
            show _ ∧ _ ∧ _
            omega
          replace h4 := W_hid h4
          go_wp2_with fail
          go_quiet ((go_at_call 185; exact hLL.out _))
          go_wp2_with fail
          obtain ⟨V, hV⟩ : ∃ V, W.drewN nq = V := ⟨_, rfl⟩
          have hR4 : RW V g N Z rest := by rw [← hV]; exact hR3.out.drewN nq
          have hT4 : Two g g w V := by rw [← hV]; exact hT3.out.drew nq
          rw [hV]
          clear hV d0 dc gz
          have d0 := hR4.cell p0 b0
          have dc := hR4.cell p1 b1
          have gz := hR4.fz
          rw [hv0.out] at d0
          rw [hv1.out] at dc
          have hR5 := W_hid (hR4.swap p0 p1 b0 b1)
          rw [hv0.out, hv1.out] at hR5
          have hT5 := W_hid ((hT4.setCell (p := ⟨g, p0, none⟩) (.inl rfl) (.int .u64 (v1 : Int))).setCell (p := ⟨g, p1, none⟩) (.inl rfl) (.int .u64 (v0 : Int)))
          clear hR4 hT4
          go_region
          go_wp2_with fail
          exact ⟨⟨c1, _, rfl, hlt.out.2.2, hlt.out.2.1, W_hid hR5.out.drew, hS3, W_hid hnx.out.1, W_hid hnx.out.2, W_hid ⟨hT5.out.os, hT5.out.tape, hT5.out.output, hT5.out.size, hT5.out.block⟩⟩, by have := hlt.out; simp [intOf]; omega⟩
        · replace hLL := W_hid (hLL.out W)
          rw [show decide (v0 < v1) = false by simp [h4]] at hLL
          have hfin := W_hid (SO.heap_stop hHX.out hcx.out.1 hm.out (by rw [hcx.out.2.2, hcc.out.2.2.1, hv0.out, hv1.out]; omega))
          replace h4 := W_hid h4
          go_wp2_with fail
          go_quiet ((go_at_call 185; exact hLL.out _))
          go_wp2_with fail
          refine bodyPost_ret (results_none rfl _ _ _) rfl ?_
          exact ⟨rfl, hT3.out.drew nq, Z, hR3.out.drewN nq, hS.out, hfin.out⟩
    · have hfin : SO.Heap Z f lo hi := SO.heap_leaf hHX.out (by omega)
      go_wp2_with fail
      go_end0
      exact ⟨rfl, hT.out, Z, hR.out, hS.out, hfin⟩

set_option maxRecDepth 100000 in
set_option maxHeartbeats 4000000 in
theorem heap_any (g N cap : Nat) (rest : List Value) (a b : Nat) (X : Nat → Nat) (w : World) (h : RW w g N X rest) (hab : a < b) (hb : b ≤ N) (hN : N ≤ 65536) (hcap : N ≤ cap) :
    Calls Tryz.prog 180 #[.slice (some ⟨g, 0, none⟩) N cap, .int .i64 (a : Int), .int .i64 (b : Int)] w fun e w' => e = .returned (.tuple #[]) ∧ Two g g w w' ∧ ∃ Y, RW w' g N Y rest ∧ SO.Sw a b X Y ∧ SO.Up Y a b := by
  have h := W_hid h
  obtain ⟨n, hn⟩ : ∃ n, b - a = n := ⟨_, rfl⟩
  have hni : (b : Int) - (a : Int) = (n : Int) := by omega
  have hn1 : 1 ≤ n := by omega
  have hnb : a + n = b := by omega
  obtain ⟨m, hm⟩ : ∃ m, (n - 1) / 2 = m := ⟨_, rfl⟩
  have hn0 : (n : Int) - 1 = ((n - 1 : Nat) : Int) := by omega
  have hmi : ((n - 1 : Nat) : Int).tdiv 2 = (m : Int) := by rw [← hm]; rfl
  obtain ⟨n1, hn2⟩ : ∃ n1, n - 1 = n1 := ⟨_, rfl⟩
  rw [hn2] at hn0 hmi
  have hmn : m < n := by omega
  have hm0 : Hid (SO.Heap X a (m + 1) n) := fun i c h1 h2 h3 => by omega
  have hn3 : n1 + 1 = n := by omega
  have cS := W_hid (fun lo hi (Z : Nat → Nat) (W : World) h1 h2 h3 h4 => sift_any g N cap rest lo hi a Z W h1 h2 h3 hN hcap h4)
  clear hn hm hn2
  go_enter Tryz.func180, Tryz.ntmps180
  go_wp2_with fail
  go_loopw [9] (fun v wr => ∃ (i : Nat) (Z : Nat → Nat), v = .int .i64 ((i : Int) - 1) ∧ i ≤ n ∧ Hid (RW wr g N Z rest) ∧ Hid (SO.Sw a b X Z) ∧ Hid (SO.Heap Z a i n) ∧ Hid (Two g g w wr)) (fun v _ => (intOf v + 1).toNat)
  case atStart => exact ⟨m + 1, X, by congr 1; omega, by omega, h, W_hid .refl, hm0, W_hid (Two.refl _ _ _)⟩
  case round =>
    clear hm0
    obtain ⟨i, Z, rfl, hi, hR, hS, hH, hT⟩ := hrel
    rcases Nat.eq_zero_or_pos i with rfl | hpos
    · obtain ⟨wa, rfl⟩ : ∃ wa, wa = wr := ⟨wr, rfl⟩
      have ht0 : Hid (SO.Tail Z a n n) := fun p q h1 h2 h3 => by omega
      rw [show (((0 : Nat) : Int) - 1) = -1 from rfl]
      go_wp2_with fail
      go_loopw [10] (fun v wr => ∃ (i : Nat) (Z : Nat → Nat), v = .int .i64 ((i : Int) - 1) ∧ i ≤ n ∧ Hid (RW wr g N Z rest) ∧ Hid (SO.Sw a b X Z) ∧ Hid (SO.Heap Z a 0 i) ∧ Hid (SO.Tail Z a i n) ∧ Hid (Two g g w wr)) (fun v _ => (intOf v + 1).toNat)
      case atStart => exact ⟨n, Z, by congr 1; omega, Nat.le_refl _, hR, hS, hH, ht0, hT⟩
      case round =>
        clear hR hS hH ht0 hT
        obtain ⟨i, Z, rfl, hi, hR, hS, hH, hTl, hT⟩ := hrel
        rcases Nat.eq_zero_or_pos i with rfl | hpos
        · have hU := SO.tail_up hTl.out
          rw [hnb] at hU
          go_wp2_with fail
          go_end0
          exact ⟨rfl, hT.out, Z, hR.out, hS.out, hU⟩
        · obtain ⟨j, rfl⟩ : ∃ j, i = j + 1 := ⟨i - 1, by omega⟩
          have ej : ((j + 1 : Nat) : Int) - 1 = (j : Int) := by omega
          obtain ⟨q, hq⟩ : ∃ q, a + j = q := ⟨_, rfl⟩
          have eq : (a : Int) + (j : Int) = (q : Int) := by omega
          have bq : q < N := by omega
          have ba : a < N := by omega
          have da := hR.out.cell a ba
          have dq := hR.out.cell q bq
          have gz := hR.out.fz
          obtain ⟨va, hva⟩ : ∃ v, Z a = v := ⟨_, rfl⟩
          obtain ⟨vq, hvq⟩ : ∃ v, Z q = v := ⟨_, rfl⟩
          have hR2 := W_hid (hR.out.swap a q ba bq)
          have hT2 := W_hid ((hT.out.setCell (p := ⟨g, a, none⟩) (.inl rfl) (.int .u64 (Z q : Int))).setCell (p := ⟨g, q, none⟩) (.inl rfl) (.int .u64 (Z a : Int)))
          have hS2 := W_hid (hS.out.step (i := a) (j := q) (Nat.le_refl _) hab (by omega) (by omega))
          have hP := W_hid (SO.heap_pop hH.out)
          have hTl2 := W_hid (SO.tail_pop hH.out hTl.out (by omega))
          rw [hq] at hP hTl2
          rw [hva, hvq] at hR2 hT2
          rw [hva] at da
          rw [hvq] at dq
          replace hq := W_hid hq
          replace hva := W_hid hva
          replace hvq := W_hid hvq
          rw [ej]
          clear hR hT hH hTl ej
          obtain ⟨V, hV⟩ : ∃ V, World.drew ((wr.setCell ⟨g, a, none⟩ (.int .u64 (vq : Int))).setCell ⟨g, q, none⟩ (.int .u64 (va : Int))) = V := ⟨_, rfl⟩
          have hR3 : RW V g N (SO.swp Z a q) rest := by rw [← hV]; exact hR2.out.drew
          have hT3 : Hid (Two g g w V) := by rw [← hV]; exact ⟨hT2.out.os, hT2.out.tape, hT2.out.output, hT2.out.size, hT2.out.block⟩
          have hc := W_hid (cS.out 0 j (SO.swp Z a q) V hR3 (Nat.zero_le _) (by omega) hP.out)
          clear hR3 hR2 hT2
          have hcs : q = a ∨ ¬ q = a := by omega
          rcases hcs with hqa | hne
          case' inl =>
            obtain rfl : va = vq := hva.out.symm.trans (by rw [← hqa]; exact hvq.out)
            subst hqa
          case' inr => have hne2 : ¬ a = q := fun e => hne e.symm
          all_goals
            go_wp2_with fail
            go_region
            try rw [hV]
            clear hV da dq gz
            go_wp2_with (go_at_call 192; refine hc.out.mono ?_; rintro e w5 ⟨rfl, hT5, Y5, hR5, hS5, hH5⟩)
            go_roundw
            case rel => exact ⟨j, Y5, by go_num, by omega, W_hid hR5, W_hid (hS2.out.trans (hS5.wide (by omega) (by omega))), W_hid hH5, W_hid (SO.tail_sw hTl2.out (hS5.wide (by omega) (Nat.le_refl _))), W_hid (hT3.out.trans hT5)⟩
            case measure => first | (simp [intOf]; omega) | simp [intOf]
    · obtain ⟨j, rfl⟩ : ∃ j, i = j + 1 := ⟨i - 1, by omega⟩
      have ej : ((j + 1 : Nat) : Int) - 1 = (j : Int) := by omega
      have hc := W_hid (cS.out j n Z wr hR.out (by omega) (by omega) hH.out)
      rw [ej]
      clear ej hR hH
      go_wp2_with (go_at_call 192; refine hc.out.mono ?_; rintro e w5 ⟨rfl, hT5, Y5, hR5, hS5, hH5⟩)
      go_roundw
      case rel => exact ⟨j, Y5, by go_num, by omega, W_hid hR5, W_hid (hS.out.trans (hS5.wide (by omega) (by omega))), W_hid hH5, W_hid (hT.out.trans hT5)⟩
      case measure => first | (simp [intOf]; omega) | simp [intOf]
end Go.Proofs.YtigbjhmodpplbaaGreatDoor

/- partitionOrdered. -/
namespace Go.Proofs.YtigbjhmodpplbaaGreatDoor
open Go.ChangeShapes Go.WideShapes Go.ChangeAt Go.RowKit
set_option linter.unusedVariables false
set_option linter.unusedSimpArgs false

set_option maxRecDepth 100000 in
set_option maxHeartbeats 8000000 in
theorem partition_any (g N cap : Nat) (rest : List Value) (a b pv : Nat) (X : Nat → Nat) (w : World) (h : RW w g N X rest) (hap : a ≤ pv) (hpb : pv < b) (hb : b ≤ N) (hN : N ≤ 65536) (hcap : N ≤ cap) :
    Calls Tryz.prog 187 #[.slice (some ⟨g, 0, none⟩) N cap, .int .i64 (a : Int), .int .i64 (b : Int), .int .i64 (pv : Int)] w fun e w' => ∃ (m : Nat) (t : Bool), e = .returned (.tuple #[.int .i64 (m : Int), .bool t]) ∧ a ≤ m ∧ m < b ∧ Two g g w w' ∧ ∃ Y, RW w' g N Y rest ∧ SO.Sw a b X Y ∧ SO.Parted Y a b m := by
  have ba : a < N := by omega
  have bp : pv < N := by omega
  have da := h.cell a ba
  have dp := h.cell pv bp
  have gz := h.fz
  have hR2 := W_hid (h.swap a pv ba bp)
  have hT2 := W_hid (((Two.refl g g w).setCell (p := ⟨g, a, none⟩) (.inl rfl) (.int .u64 (X pv : Int))).setCell (p := ⟨g, pv, none⟩) (.inl rfl) (.int .u64 (X a : Int)))
  have hS2 := W_hid ((SO.Sw.refl (a := a) (b := b) (X := X)).step (i := a) (j := pv) (Nat.le_refl _) (by omega) hap hpb)
  obtain ⟨va, hva⟩ : ∃ v, X a = v := ⟨_, rfl⟩
  obtain ⟨vp, hvp⟩ : ∃ v, X pv = v := ⟨_, rfl⟩
  rw [hva, hvp] at hR2 hT2
  rw [hva] at da
  rw [hvp] at dp
  obtain ⟨i0, hi0⟩ : ∃ i, a + 1 = i := ⟨_, rfl⟩
  obtain ⟨j0, hj0⟩ : ∃ j, b - 1 = j := ⟨_, rfl⟩
  have ei : (a : Int) + 1 = (i0 : Int) := by omega
  have ej : (b : Int) - 1 = (j0 : Int) := by omega
  have hj1 : j0 + 1 = b := by omega
  replace hva := W_hid hva
  replace hvp := W_hid hvp
  clear h hj0
  generalize hX2 : SO.swp X a pv = X2 at *
  replace hX2 := W_hid hX2
  have hM0 : Hid (SO.Mid X2 a b i0 j0) := ⟨fun p h1 h2 => by omega, fun p h1 h2 => by omega⟩
  replace hi0 := W_hid hi0
  have hbd : i0 ≤ j0 + 1 ∧ a < i0 ∧ j0 < b := by have := hi0.out; omega
  replace hj1 := W_hid hj1
  go_enter Tryz.func187, Tryz.ntmps187
  obtain ⟨V, hV⟩ : ∃ V, World.drew ((w.setCell ⟨g, a, none⟩ (.int .u64 (vp : Int))).setCell ⟨g, pv, none⟩ (.int .u64 (va : Int))) = V := ⟨_, rfl⟩
  have hR : RW V g N X2 rest := by rw [← hV]; exact hR2.out.drew
  have hT : Two g g w V := by rw [← hV]; exact ⟨hT2.out.os, hT2.out.tape, hT2.out.output, hT2.out.size, hT2.out.block⟩
  replace hR := W_hid hR
  replace hT := W_hid hT
  clear hR2 hT2
  go_upto_region 1 with fail
  go_cut [] from 12 to 167 (fun wc => wc = V)
  case first =>
    rename_i J1 K1 hJ1 hK1
    have hcs : pv = a ∨ ¬ pv = a := by omega
    rcases hcs with hqa | hne
    case' inl =>
      obtain rfl : va = vp := hva.out.symm.trans (by rw [← hqa]; exact hvp.out)
      subst hqa
    case' inr => have hne2 : ¬ a = pv := fun e => hne e.symm
    all_goals
      go_region
      try rw [hV]
      refine hK1 _ _ (Met.intro (hJ1 _ _ ?_))
      repeat apply Exists.intro
      exact ⟨rfl, rfl⟩
  case rest =>
  obtain rfl := hcut
  clear hV da dp gz
  go_upto_block 0 with fail
  go_cut [10] from 12 to 167 (fun v wx => ∃ i : Nat, v = .int .i64 (i : Int) ∧ i0 ≤ i ∧ i ≤ j0 + 1 ∧ Hid (SO.Mid X2 a b i j0) ∧ Hid (i ≤ j0 → X2 a ≤ X2 i) ∧ Hid (RW wx g N X2 rest) ∧ Hid (Two g g w wx))
  case first =>
    rename_i J1 K1 hJ1 hK1
    go_wp2_with fail
    go_loopw [10] (fun v wr => ∃ i : Nat, v = .int .i64 (i : Int) ∧ i0 ≤ i ∧ i ≤ j0 + 1 ∧ Hid (SO.Mid X2 a b i j0) ∧ Hid (RW wr g N X2 rest) ∧ Hid (Two g g w wr)) (fun v _ => j0 + 1 - (intOf v).toNat)
    case atStart => exact ⟨i0, rfl, Nat.le_refl _, hbd.1, hM0, hR, hT⟩
    case round =>
      obtain ⟨i, rfl, hi1, hi2, hM, hR, hT⟩ := hrel
      by_cases hle : i ≤ j0
      · have bi : i < N := by omega
        have di := hR.out.cell i bi
        have da := hR.out.cell a ba
        have gz := hR.out.fz
        obtain ⟨vi, hvi⟩ : ∃ v, X2 i = v := ⟨_, rfl⟩
        obtain ⟨vb, hvb⟩ : ∃ v, X2 a = v := ⟨_, rfl⟩
        rw [hvi] at di
        rw [hvb] at da
        have hL := W_hid (fun t => Calls.quiet_of_same (Less_any vi vb (wr.drewN t)))
        by_cases hl : vi < vb
        · rw [show decide (vi < vb) = true by simp [hl]] at hL
          have hM2 := W_hid (SO.mid_i hM.out (by rw [hvi, hvb]; exact hl))
          replace hl := W_hid hl
          replace hvi := W_hid hvi
          replace hvb := W_hid hvb
          go_wp2_with fail
          go_quiet ((go_at_call 185; exact hL.out _))
          go_wp2_with fail
          go_roundw
          case rel => exact ⟨i + 1, by go_num, by omega, by omega, hM2, W_hid (hR.out.drewN nq), W_hid (hT.out.drew nq)⟩
          case measure => first | (simp [intOf]; omega) | simp [intOf]
        · rw [show decide (vi < vb) = false by simp [hl]] at hL
          have hst : Hid (i ≤ j0 → X2 a ≤ X2 i) := fun _ => by rw [hvi, hvb]; omega
          replace hl := W_hid hl
          replace hvi := W_hid hvi
          replace hvb := W_hid hvb
          go_wp2_with fail
          go_quiet ((go_at_call 185; exact hL.out _))
          go_wp2_with fail
          go_meet
          exact ⟨i, rfl, hi1, hi2, hM, hst, W_hid (hR.out.drewN nq), W_hid (hT.out.drew nq)⟩
      · have hst : Hid (i ≤ j0 → X2 a ≤ X2 i) := fun h => absurd h hle
        go_wp2_with fail
        go_quiet (fail)
        go_wp2_with fail
        go_meet
        exact ⟨i, rfl, hi1, hi2, hM, hst, W_hid (hR.out.drewN nq), W_hid (hT.out.drew nq)⟩
  case rest =>
  clear hR hT hM0
  obtain ⟨i, rfl, hi1, hi2, hM, hst, hR, hT⟩ := hcut
  obtain ⟨W1, rfl⟩ : ∃ W, W = wc := ⟨wc, rfl⟩
  go_upto_block 2 with fail
  go_cut [11] from 12 to 167 (fun v wx => ∃ j : Nat, v = .int .i64 (j : Int) ∧ i ≤ j + 1 ∧ j ≤ j0 ∧ Hid (SO.Mid X2 a b i j) ∧ Hid (i ≤ j → X2 a ≤ X2 i) ∧ Hid (i ≤ j → X2 j < X2 a) ∧ Hid (RW wx g N X2 rest) ∧ Hid (Two g g w wx))
  case first =>
    rename_i J1 K1 hJ1 hK1
    go_wp2_with fail
    go_loopw [11] (fun v wr => ∃ j : Nat, v = .int .i64 (j : Int) ∧ i ≤ j + 1 ∧ j ≤ j0 ∧ Hid (SO.Mid X2 a b i j) ∧ Hid (RW wr g N X2 rest) ∧ Hid (Two g g w wr)) (fun v _ => (intOf v).toNat)
    case atStart => exact ⟨j0, rfl, hi2, Nat.le_refl _, hM, hR, hT⟩
    case round =>
      obtain ⟨j, rfl, hj1, hj2, hM, hR, hT⟩ := hrel
      by_cases hle : i ≤ j
      · have bj : j < N := by omega
        have dj := hR.out.cell j bj
        have da := hR.out.cell a ba
        have gz := hR.out.fz
        obtain ⟨vj, hvj⟩ : ∃ v, X2 j = v := ⟨_, rfl⟩
        obtain ⟨vb, hvb⟩ : ∃ v, X2 a = v := ⟨_, rfl⟩
        rw [hvj] at dj
        rw [hvb] at da
        have hL := W_hid (fun t => Calls.quiet_of_same (Less_any vj vb (wr.drewN t)))
        by_cases hl : vj < vb
        · rw [show decide (vj < vb) = true by simp [hl]] at hL
          have hst2 : Hid (i ≤ j → X2 j < X2 a) := fun _ => by rw [hvj, hvb]; exact hl
          have hst1 : Hid (i ≤ j → X2 a ≤ X2 i) := fun h => hst.out (by omega)
          replace hl := W_hid hl
          replace hvj := W_hid hvj
          replace hvb := W_hid hvb
          go_wp2_with fail
          go_quiet ((go_at_call 185; exact hL.out _))
          go_wp2_with fail
          go_meet
          exact ⟨j, rfl, hj1, hj2, hM, hst1, hst2, W_hid (hR.out.drewN nq), W_hid (hT.out.drew nq)⟩
        · rw [show decide (vj < vb) = false by simp [hl]] at hL
          obtain ⟨j', hj'⟩ : ∃ j', j = j' + 1 := ⟨j - 1, by omega⟩
          have ejj : (j : Int) - 1 = (j' : Int) := by omega
          have hM2 : Hid (SO.Mid X2 a b i j') := by
            subst hj'
            exact SO.mid_j hM.out (by rw [hvj, hvb]; omega)
          replace hl := W_hid hl
          replace hvj := W_hid hvj
          replace hvb := W_hid hvb
          have hjb : Hid (i ≤ j' + 1 ∧ j' ≤ j0 ∧ j' < j) := by show _ ∧ _ ∧ _; omega
          replace hj' := W_hid hj'
          go_wp2_with fail
          go_quiet ((go_at_call 185; exact hL.out _))
          go_wp2_with fail
          go_roundw
          case rel => exact ⟨j', rfl, hjb.out.1, hjb.out.2.1, hM2, W_hid (hR.out.drewN nq), W_hid (hT.out.drew nq)⟩
          case measure => (have := hjb.out.2.2); first | (simp [intOf]; omega) | simp [intOf]
      · have hst1 : Hid (i ≤ j → X2 a ≤ X2 i) := fun h => absurd h hle
        have hst2 : Hid (i ≤ j → X2 j < X2 a) := fun h => absurd h hle
        go_wp2_with fail
        go_quiet (fail)
        go_wp2_with fail
        go_meet
        exact ⟨j, rfl, hj1, hj2, hM, hst1, hst2, W_hid (hR.out.drewN nq), W_hid (hT.out.drew nq)⟩
  case rest =>
  clear hR hT hM hst
  obtain ⟨j, rfl, hj1, hj2, hM, hst1, hst2, hR, hT⟩ := hcut
  by_cases hgt : j < i
  · clear hst1 hst2
    have bj : j < N := by omega
    have dj := hR.out.cell j bj
    have da := hR.out.cell a ba
    have gz := hR.out.fz
    obtain ⟨vj, hvj⟩ : ∃ v, X2 j = v := ⟨_, rfl⟩
    obtain ⟨vb, hvb⟩ : ∃ v, X2 a = v := ⟨_, rfl⟩
    have hR2 := W_hid (hR.out.swap j a bj ba)
    have hT2 := W_hid ((hT.out.setCell (p := ⟨g, j, none⟩) (.inl rfl) (.int .u64 (X2 a : Int))).setCell (p := ⟨g, a, none⟩) (.inl rfl) (.int .u64 (X2 j : Int)))
    have haj : a ≤ j := by have := hbd.2.1; omega
    have hS5 := W_hid ((hS2.out).step (i := j) (j := a) haj (by omega) (Nat.le_refl _) (by omega))
    have hP5 := W_hid (SO.mid_done hM.out haj (by omega))
    rw [hvb, hvj] at hR2 hT2
    rw [hvj] at dj
    rw [hvb] at da
    have hjb : j < b := by omega
    replace hvj := W_hid hvj
    replace hvb := W_hid hvb
    obtain ⟨V5, hV5⟩ : ∃ V, World.drew ((wc.setCell ⟨g, j, none⟩ (.int .u64 (vb : Int))).setCell ⟨g, a, none⟩ (.int .u64 (vj : Int))) = V := ⟨_, rfl⟩
    have hR5 : RW V5 g N (SO.swp X2 j a) rest := by rw [← hV5]; exact hR2.out.drew
    have hT5 : Two g g w V5 := by rw [← hV5]; exact ⟨hT2.out.os, hT2.out.tape, hT2.out.output, hT2.out.size, hT2.out.block⟩
    replace hR5 := W_hid hR5
    replace hT5 := W_hid hT5
    clear hR2 hT2 hR hT hM
    have hcs : j = a ∨ ¬ j = a := by omega
    rcases hcs with hqa | hne
    case' inl =>
      obtain rfl : vj = vb := hvj.out.symm.trans (by rw [hqa]; exact hvb.out)
      subst hqa
    case' inr => have hne2 : ¬ a = j := fun e => hne e.symm
    all_goals
      go_wp2_with fail
      go_region
      try rw [hV5]
      go_wp2_with fail
      go_ret2
      exact ⟨j, true, rfl, haj, hjb, hT5.out, _, hR5.out, hS5.out, hP5.out⟩
  · 
    have hij : i < j := by
      have h1 := hst1.out (by omega)
      have h2 := hst2.out (by omega)
      rcases Nat.lt_or_ge i j with hh | hh
      · exact hh
      · exfalso
        have : i = j := by omega
        subst this
        omega
    have bi : i < N := by omega
    have bj : j < N := by omega
    have di := hR.out.cell i bi
    have dj := hR.out.cell j bj
    have gz := hR.out.fz
    obtain ⟨vi, hvi⟩ : ∃ v, X2 i = v := ⟨_, rfl⟩
    obtain ⟨vj, hvj⟩ : ∃ v, X2 j = v := ⟨_, rfl⟩
    have hR2 := W_hid (hR.out.swap i j bi bj)
    have hT2 := W_hid ((hT.out.setCell (p := ⟨g, i, none⟩) (.inl rfl) (.int .u64 (X2 j : Int))).setCell (p := ⟨g, j, none⟩) (.inl rfl) (.int .u64 (X2 i : Int)))
    have hai : a < i := by have := hbd.2.1; omega
    have hS5 := W_hid ((hS2.out).step (i := i) (j := j) (by omega) (by omega) (by omega) (by omega))
    have hM5 := W_hid (SO.mid_swap hM.out hai hij (hst1.out (by omega)) (hst2.out (by omega)))
    rw [hvi, hvj] at hR2 hT2
    rw [hvi] at di
    rw [hvj] at dj
    obtain ⟨j', hj'⟩ : ∃ j', j - 1 = j' := ⟨_, rfl⟩
    have ejj : (j : Int) - 1 = (j' : Int) := by omega
    rw [hj'] at hM5
    have hjb : Hid (i + 1 ≤ j' + 1 ∧ j' ≤ j0 ∧ j' < j) := by show _ ∧ _ ∧ _; omega
    replace hj' := W_hid hj'
    replace hvi := W_hid hvi
    replace hvj := W_hid hvj
    obtain ⟨V4, hV4⟩ : ∃ V, World.drew ((wc.setCell ⟨g, i, none⟩ (.int .u64 (vj : Int))).setCell ⟨g, j, none⟩ (.int .u64 (vi : Int))) = V := ⟨_, rfl⟩
    have hR4 : RW V4 g N (SO.swp X2 i j) rest := by rw [← hV4]; exact hR2.out.drew
    have hT4 : Two g g w V4 := by rw [← hV4]; exact ⟨hT2.out.os, hT2.out.tape, hT2.out.output, hT2.out.size, hT2.out.block⟩
    replace hR4 := W_hid hR4
    replace hT4 := W_hid hT4
    have hne1 : ¬ i = j := by omega
    have hne2 : ¬ j = i := by omega
    clear hR2 hT2 hR hT hM
    go_wp2_with fail
    go_region
    try rw [hV4]
    clear hV4 di dj gz
    go_upto_block 4 with fail
    go_wp2_with fail
    obtain ⟨W2, rfl⟩ : ∃ W, W = V4 := ⟨V4, rfl⟩
    go_loopw [10, 11] (fun u v wr => ∃ (i j : Nat) (Y : Nat → Nat), u = .int .i64 (i : Int) ∧ v = .int .i64 (j : Int) ∧ i0 ≤ i ∧ i ≤ j + 1 ∧ j ≤ j0 ∧ Hid (SO.Mid Y a b i j) ∧ Hid (RW wr g N Y rest) ∧ Hid (SO.Sw a b X Y) ∧ Hid (Two g g w wr)) (fun _ v _ => (intOf v).toNat)
    case atStart => exact ⟨i + 1, j', _, by go_num, rfl, by omega, hjb.out.1, hjb.out.2.1, hM5, hR4, hS5, hT4⟩
    case round =>
      clear hM5 hR4 hS5 hT4 hst1 hst2
      obtain ⟨i1, jm, Y, rfl, rfl, hi1, hij, hjj, hM, hR, hS, hT⟩ := hrel
      go_upto_block 6 with fail
      go_cut [10] from 99 to 152 (fun v wx => ∃ i : Nat, v = .int .i64 (i : Int) ∧ i0 ≤ i ∧ i ≤ jm + 1 ∧ Hid (SO.Mid Y a b i jm) ∧ Hid (i ≤ jm → Y a ≤ Y i) ∧ Hid (RW wx g N Y rest) ∧ Hid (Two g g w wx))
      case first =>
        rename_i J1 K1 hJ1 hK1
        go_wp2_with fail
        go_loopw [10] (fun v wr => ∃ i : Nat, v = .int .i64 (i : Int) ∧ i0 ≤ i ∧ i ≤ jm + 1 ∧ Hid (SO.Mid Y a b i jm) ∧ Hid (RW wr g N Y rest) ∧ Hid (Two g g w wr)) (fun v _ => jm + 1 - (intOf v).toNat)
        case atStart => exact ⟨i1, rfl, hi1, hij, hM, hR, hT⟩
        case round =>
          obtain ⟨i, rfl, hi1, hi2, hM, hR, hT⟩ := hrel
          by_cases hle : i ≤ jm
          · have bi : i < N := by omega
            have di := hR.out.cell i bi
            have da := hR.out.cell a ba
            have gz := hR.out.fz
            obtain ⟨vi, hvi⟩ : ∃ v, Y i = v := ⟨_, rfl⟩
            obtain ⟨vb, hvb⟩ : ∃ v, Y a = v := ⟨_, rfl⟩
            rw [hvi] at di
            rw [hvb] at da
            have hL := W_hid (fun t => Calls.quiet_of_same (Less_any vi vb (wr.drewN t)))
            by_cases hl : vi < vb
            · rw [show decide (vi < vb) = true by simp [hl]] at hL
              have hM2 := W_hid (SO.mid_i hM.out (by rw [hvi, hvb]; exact hl))
              replace hl := W_hid hl
              replace hvi := W_hid hvi
              replace hvb := W_hid hvb
              go_wp2_with fail
              go_quiet ((go_at_call 185; exact hL.out _))
              go_wp2_with fail
              go_roundw
              case rel => exact ⟨i + 1, by go_num, by omega, by omega, hM2, W_hid (hR.out.drewN nq), W_hid (hT.out.drew nq)⟩
              case measure => first | (simp [intOf]; omega) | simp [intOf]
            · rw [show decide (vi < vb) = false by simp [hl]] at hL
              have hst : Hid (i ≤ jm → Y a ≤ Y i) := fun _ => by rw [hvi, hvb]; omega
              replace hl := W_hid hl
              replace hvi := W_hid hvi
              replace hvb := W_hid hvb
              go_wp2_with fail
              go_quiet ((go_at_call 185; exact hL.out _))
              go_wp2_with fail
              go_meet
              exact ⟨i, rfl, hi1, hi2, hM, hst, W_hid (hR.out.drewN nq), W_hid (hT.out.drew nq)⟩
          · have hst : Hid (i ≤ jm → Y a ≤ Y i) := fun h => absurd h hle
            go_wp2_with fail
            go_quiet (fail)
            go_wp2_with fail
            go_meet
            exact ⟨i, rfl, hi1, hi2, hM, hst, W_hid (hR.out.drewN nq), W_hid (hT.out.drew nq)⟩
      case rest =>
      clear hR hT hM
      obtain ⟨i, rfl, hi1, hi2, hM, hst, hR, hT⟩ := hcut
      obtain ⟨W3, rfl⟩ : ∃ W, W = wc := ⟨wc, rfl⟩
      go_upto_block 8 with fail
      go_cut [11] from 99 to 152 (fun v wx => ∃ j : Nat, v = .int .i64 (j : Int) ∧ i ≤ j + 1 ∧ j ≤ jm ∧ Hid (SO.Mid Y a b i j) ∧ Hid (i ≤ j → Y a ≤ Y i) ∧ Hid (i ≤ j → Y j < Y a) ∧ Hid (RW wx g N Y rest) ∧ Hid (Two g g w wx))
      case first =>
        rename_i J1 K1 hJ1 hK1
        go_wp2_with fail
        go_loopw [11] (fun v wr => ∃ j : Nat, v = .int .i64 (j : Int) ∧ i ≤ j + 1 ∧ j ≤ jm ∧ Hid (SO.Mid Y a b i j) ∧ Hid (RW wr g N Y rest) ∧ Hid (Two g g w wr)) (fun v _ => (intOf v).toNat)
        case atStart => exact ⟨jm, rfl, hi2, Nat.le_refl _, hM, hR, hT⟩
        case round =>
          obtain ⟨j, rfl, hj1, hj2, hM, hR, hT⟩ := hrel
          by_cases hle : i ≤ j
          · have bj : j < N := by omega
            have dj := hR.out.cell j bj
            have da := hR.out.cell a ba
            have gz := hR.out.fz
            obtain ⟨vj, hvj⟩ : ∃ v, Y j = v := ⟨_, rfl⟩
            obtain ⟨vb, hvb⟩ : ∃ v, Y a = v := ⟨_, rfl⟩
            rw [hvj] at dj
            rw [hvb] at da
            have hL := W_hid (fun t => Calls.quiet_of_same (Less_any vj vb (wr.drewN t)))
            by_cases hl : vj < vb
            · rw [show decide (vj < vb) = true by simp [hl]] at hL
              have hst2 : Hid (i ≤ j → Y j < Y a) := fun _ => by rw [hvj, hvb]; exact hl
              have hst1 : Hid (i ≤ j → Y a ≤ Y i) := fun h => hst.out (by omega)
              replace hl := W_hid hl
              replace hvj := W_hid hvj
              replace hvb := W_hid hvb
              go_wp2_with fail
              go_quiet ((go_at_call 185; exact hL.out _))
              go_wp2_with fail
              go_meet
              exact ⟨j, rfl, hj1, hj2, hM, hst1, hst2, W_hid (hR.out.drewN nq), W_hid (hT.out.drew nq)⟩
            · rw [show decide (vj < vb) = false by simp [hl]] at hL
              obtain ⟨j', hj'⟩ : ∃ j', j = j' + 1 := ⟨j - 1, by omega⟩
              have ejj : (j : Int) - 1 = (j' : Int) := by omega
              have hM2 : Hid (SO.Mid Y a b i j') := by
                subst hj'
                exact SO.mid_j hM.out (by rw [hvj, hvb]; omega)
              replace hl := W_hid hl
              replace hvj := W_hid hvj
              replace hvb := W_hid hvb
              have hjb : Hid (i ≤ j' + 1 ∧ j' ≤ jm ∧ j' < j) := by show _ ∧ _ ∧ _; omega
              replace hj' := W_hid hj'
              go_wp2_with fail
              go_quiet ((go_at_call 185; exact hL.out _))
              go_wp2_with fail
              go_roundw
              case rel => exact ⟨j', rfl, hjb.out.1, hjb.out.2.1, hM2, W_hid (hR.out.drewN nq), W_hid (hT.out.drew nq)⟩
              case measure => (have := hjb.out.2.2); first | (simp [intOf]; omega) | simp [intOf]
          · have hst1 : Hid (i ≤ j → Y a ≤ Y i) := fun h => absurd h hle
            have hst2 : Hid (i ≤ j → Y j < Y a) := fun h => absurd h hle
            go_wp2_with fail
            go_quiet (fail)
            go_wp2_with fail
            go_meet
            exact ⟨j, rfl, hj1, hj2, hM, hst1, hst2, W_hid (hR.out.drewN nq), W_hid (hT.out.drew nq)⟩
      case rest =>
      clear hR hT hM hst
      obtain ⟨j, rfl, hj1, hj2, hM, hst1, hst2, hR, hT⟩ := hcut
      by_cases hgt : j < i
      · clear hst1 hst2
        have bj : j < N := by omega
        have dj := hR.out.cell j bj
        have da := hR.out.cell a ba
        have gz := hR.out.fz
        obtain ⟨vj, hvj⟩ : ∃ v, Y j = v := ⟨_, rfl⟩
        obtain ⟨vb, hvb⟩ : ∃ v, Y a = v := ⟨_, rfl⟩
        have hR2 := W_hid (hR.out.swap j a bj ba)
        have hT2 := W_hid ((hT.out.setCell (p := ⟨g, j, none⟩) (.inl rfl) (.int .u64 (Y a : Int))).setCell (p := ⟨g, a, none⟩) (.inl rfl) (.int .u64 (Y j : Int)))
        have haj : a ≤ j := by have := hbd.2.1; omega
        have hS5 := W_hid ((hS.out).step (i := j) (j := a) haj (by omega) (Nat.le_refl _) (by omega))
        have hP5 := W_hid (SO.mid_done hM.out haj (by omega))
        rw [hvb, hvj] at hR2 hT2
        rw [hvj] at dj
        rw [hvb] at da
        have hjb : j < b := by omega
        replace hvj := W_hid hvj
        replace hvb := W_hid hvb
        obtain ⟨V5, hV5⟩ : ∃ V, World.drew ((wc.setCell ⟨g, j, none⟩ (.int .u64 (vb : Int))).setCell ⟨g, a, none⟩ (.int .u64 (vj : Int))) = V := ⟨_, rfl⟩
        have hR5 : RW V5 g N (SO.swp Y j a) rest := by rw [← hV5]; exact hR2.out.drew
        have hT5 : Two g g w V5 := by rw [← hV5]; exact ⟨hT2.out.os, hT2.out.tape, hT2.out.output, hT2.out.size, hT2.out.block⟩
        replace hR5 := W_hid hR5
        replace hT5 := W_hid hT5
        clear hR2 hT2 hR hT hM
        have hcs : j = a ∨ ¬ j = a := by omega
        rcases hcs with hqa | hne
        case' inl =>
          obtain rfl : vj = vb := hvj.out.symm.trans (by rw [hqa]; exact hvb.out)
          subst hqa
        case' inr => have hne2 : ¬ a = j := fun e => hne e.symm
        all_goals
          go_wp2_with fail
          go_region
          try rw [hV5]
          go_wp2_with fail
          go_ret2
          exact ⟨j, false, rfl, haj, hjb, hT5.out, _, hR5.out, hS5.out, hP5.out⟩
      · 
        have hij : i < j := by
          have h1 := hst1.out (by omega)
          have h2 := hst2.out (by omega)
          rcases Nat.lt_or_ge i j with hh | hh
          · exact hh
          · exfalso
            have : i = j := by omega
            subst this
            omega
        have bi : i < N := by omega
        have bj : j < N := by omega
        have di := hR.out.cell i bi
        have dj := hR.out.cell j bj
        have gz := hR.out.fz
        obtain ⟨vi, hvi⟩ : ∃ v, Y i = v := ⟨_, rfl⟩
        obtain ⟨vj, hvj⟩ : ∃ v, Y j = v := ⟨_, rfl⟩
        have hR2 := W_hid (hR.out.swap i j bi bj)
        have hT2 := W_hid ((hT.out.setCell (p := ⟨g, i, none⟩) (.inl rfl) (.int .u64 (Y j : Int))).setCell (p := ⟨g, j, none⟩) (.inl rfl) (.int .u64 (Y i : Int)))
        have hai : a < i := by have := hbd.2.1; omega
        have hS5 := W_hid ((hS.out).step (i := i) (j := j) (by omega) (by omega) (by omega) (by omega))
        have hM5 := W_hid (SO.mid_swap hM.out hai hij (hst1.out (by omega)) (hst2.out (by omega)))
        rw [hvi, hvj] at hR2 hT2
        rw [hvi] at di
        rw [hvj] at dj
        obtain ⟨j', hj'⟩ : ∃ j', j - 1 = j' := ⟨_, rfl⟩
        have ejj : (j : Int) - 1 = (j' : Int) := by omega
        rw [hj'] at hM5
        have hjb : Hid (i + 1 ≤ j' + 1 ∧ j' ≤ j0 ∧ j' < j) := by show _ ∧ _ ∧ _; omega
        replace hj' := W_hid hj'
        replace hvi := W_hid hvi
        replace hvj := W_hid hvj
        obtain ⟨V4, hV4⟩ : ∃ V, World.drew ((wc.setCell ⟨g, i, none⟩ (.int .u64 (vj : Int))).setCell ⟨g, j, none⟩ (.int .u64 (vi : Int))) = V := ⟨_, rfl⟩
        have hR4 : RW V4 g N (SO.swp Y i j) rest := by rw [← hV4]; exact hR2.out.drew
        have hT4 : Two g g w V4 := by rw [← hV4]; exact ⟨hT2.out.os, hT2.out.tape, hT2.out.output, hT2.out.size, hT2.out.block⟩
        replace hR4 := W_hid hR4
        replace hT4 := W_hid hT4
        have hne1 : ¬ i = j := by omega
        have hne2 : ¬ j = i := by omega
        clear hR2 hT2 hR hT hM
        go_wp2_with fail
        go_region
        try rw [hV4]
        clear hV4 di dj gz
        go_wp2_with fail
        go_roundw
        case rel => exact ⟨i + 1, j', _, by go_num, rfl, by omega, hjb.out.1, by have := hjb.out.2.1; omega, hM5, hR4, hS5, hT4⟩
        case measure => (have := hjb.out.2.2); first | (simp [intOf]; omega) | simp [intOf]
end Go.Proofs.YtigbjhmodpplbaaGreatDoor

/- partialInsertionSortOrdered. -/
namespace Go.Proofs.YtigbjhmodpplbaaGreatDoor
open Go.ChangeShapes Go.WideShapes Go.ChangeAt Go.RowKit
set_option linter.unusedVariables false
set_option linter.unusedSimpArgs false

theorem up_cut {Y : Nat → Nat} {a b c : Nat} (h : SO.Up Y a b) (hc : c ≤ b) : SO.Up Y a c := fun p q h1 h2 h3 => h p q h1 h2 (by omega)
theorem up_away {Y : Nat → Nat} {a i p q : Nat} (h : SO.Up Y a i) (hp : i ≤ p) (hq : i ≤ q) : SO.Up (SO.swp Y p q) a i := fun r s h1 h2 h3 => by
  rw [SO.swp_o _ (by omega) (by omega), SO.swp_o _ (by omega) (by omega)]
  exact h r s h1 h2 h3

set_option maxRecDepth 100000 in
set_option maxHeartbeats 8000000 in
theorem partins_any (g N cap : Nat) (rest : List Value) (a b : Nat) (X : Nat → Nat) (w : World) (h : RW w g N X rest) (hab : a < b) (hb : b ≤ N) (hN : N ≤ 65536) (hcap : N ≤ cap) (hBel : SO.Bel X a b) :
    Calls Tryz.prog 184 #[.slice (some ⟨g, 0, none⟩) N cap, .int .i64 (a : Int), .int .i64 (b : Int)] w fun e w' => ∃ t : Bool, e = .returned (.bool t) ∧ Two g g w w' ∧ ∃ Y, RW w' g N Y rest ∧ SO.Sw a b X Y ∧ (t = true → SO.Up Y a b) := by
  have h := W_hid h
  have hBel := W_hid hBel
  have hU0 : Hid (SO.Up X a (a + 1)) := SO.up_one X a
  obtain ⟨n, hn⟩ : ∃ n, b - a = n := ⟨_, rfl⟩
  have hni : (b : Int) - (a : Int) = (n : Int) := by omega
  replace hn := W_hid hn
  go_enter Tryz.func184, Tryz.ntmps184
  go_wp2_with fail
  go_loopw [7, 8] (fun u v wr => ∃ (i c : Nat) (Z : Nat → Nat), u = .int .i64 (i : Int) ∧ v = .int .i64 (c : Int) ∧ c ≤ 5 ∧ a + 1 ≤ i ∧ i ≤ b ∧ Hid (RW wr g N Z rest) ∧ Hid (SO.Sw a b X Z) ∧ Hid (SO.Up Z a i) ∧ Hid (Two g g w wr)) (fun _ v _ => 5 - (intOf v).toNat)
  case atStart => exact ⟨a + 1, 0, X, by go_num, rfl, by omega, Nat.le_refl _, by omega, h, W_hid .refl, hU0, W_hid (Two.refl _ _ _)⟩
  case round =>
    clear hU0
    obtain ⟨i1, c, Z, rfl, rfl, hc, hi1, hi2, hR, hS, hU, hT⟩ := hrel
    by_cases hc5 : c < 5
    · go_upto_block 2 with fail
      go_cut [7] from 13 to 132 (fun u wx => ∃ i : Nat, u = .int .i64 (i : Int) ∧ a + 1 ≤ i ∧ i ≤ b ∧ Hid (RW wx g N Z rest) ∧ Hid (SO.Up Z a i) ∧ Hid (Two g g w wx))
      case first =>
        go_wp2_with fail
        go_loopw [7] (fun u wr => ∃ i : Nat, u = .int .i64 (i : Int) ∧ a + 1 ≤ i ∧ i ≤ b ∧ Hid (RW wr g N Z rest) ∧ Hid (SO.Up Z a i) ∧ Hid (Two g g w wr)) (fun u _ => b - (intOf u).toNat)
        case atStart => exact ⟨i1, rfl, hi1, hi2, hR, hU, hT⟩
        case round =>
          clear hR hU hT hi1 hi2
          obtain ⟨i, rfl, hi1, hi2, hR, hU, hT⟩ := hrel
          by_cases hlt : i < b
          · obtain ⟨k, hk⟩ : ∃ k, i - 1 = k := ⟨_, rfl⟩
            have ek : (i : Int) - 1 = (k : Int) := by omega
            have di := hR.out.cell i (by omega)
            have dk := hR.out.cell k (by omega)
            have gz := hR.out.fz
            obtain ⟨vi, hvi⟩ : ∃ v, Z i = v := ⟨_, rfl⟩
            obtain ⟨vk, hvk⟩ : ∃ v, Z k = v := ⟨_, rfl⟩
            rw [hvi] at di
            rw [hvk] at dk
            have hL := W_hid (fun t => Calls.quiet_of_same (Less_any vi vk (wr.drewN t)))
            have bk : k < N := by omega
            by_cases hl : vi < vk
            · rw [show decide (vi < vk) = true by simp [hl]] at hL
              replace hl := W_hid hl
              replace hvi := W_hid hvi
              replace hvk := W_hid hvk
              replace hk := W_hid hk
              go_wp2_with fail
              go_quiet ((go_at_call 185; exact hL.out _))
              go_wp2_with fail
              go_meet
              exact ⟨i, rfl, hi1, hi2, W_hid (hR.out.drewN nq), hU, W_hid (hT.out.drew nq)⟩
            · rw [show decide (vi < vk) = false by simp [hl]] at hL
              have hU2 := W_hid (SO.up_next hU.out (by omega) (by rw [hk, hvi, hvk]; omega))
              replace hl := W_hid hl
              replace hvi := W_hid hvi
              replace hvk := W_hid hvk
              replace hk := W_hid hk
              go_wp2_with fail
              go_quiet ((go_at_call 185; exact hL.out _))
              go_wp2_with fail
              go_roundw
              case rel => exact ⟨i + 1, by go_num, by omega, by omega, W_hid (hR.out.drewN nq), hU2, W_hid (hT.out.drew nq)⟩
              case measure => first | (simp [intOf]; omega) | simp [intOf]
          · go_wp2_with fail
            go_quiet (fail)
            go_wp2_with fail
            go_meet
            exact ⟨i, rfl, hi1, hi2, W_hid (hR.out.drewN nq), hU, W_hid (hT.out.drew nq)⟩
      case rest =>
      clear hR hU hT hi1 hi2
      obtain ⟨i, rfl, hi1, hi2, hR, hU, hT⟩ := hcut
      by_cases hib : i = b
      · have hU2 := hU.out
        rw [hib] at hU2
        have hib2 : ((i : Int) == (b : Int)) = true := by simp [hib]
        replace hU2 := W_hid hU2
        subst hib
        go_wp2_with fail
        go_ret
        exact ⟨true, rfl, hT.out, Z, hR.out, hS.out, fun _ => hU2.out⟩
      · have hib2 : ((i : Int) == (b : Int)) = false := by simp; omega
        have hlt : i < b := by omega
        by_cases h50 : n < 50
        · go_wp2_with fail
          go_ret
          exact ⟨false, rfl, hT.out, Z, hR.out, hS.out, fun h => by cases h⟩
        · obtain ⟨k, hk⟩ : ∃ k, i = k + 1 := ⟨i - 1, by omega⟩
          have ek : (i : Int) - 1 = (k : Int) := by omega
          have hak : a ≤ k := by omega
          have bI := (show i < N by omega)
          have bJ := (show k < N by omega)
          have dI := hR.out.cell i bI
          have dJ := hR.out.cell k bJ
          have gz := hR.out.fz
          obtain ⟨vI, hvI⟩ : ∃ v, Z i = v := ⟨_, rfl⟩
          obtain ⟨vJ, hvJ⟩ : ∃ v, Z k = v := ⟨_, rfl⟩
          have hR2 := W_hid (hR.out.swap i k bI bJ)
          have hT2 := W_hid ((hT.out.setCell (p := ⟨g, i, none⟩) (.inl rfl) (.int .u64 (Z k : Int))).setCell (p := ⟨g, k, none⟩) (.inl rfl) (.int .u64 (Z i : Int)))
          rw [hvI, hvJ] at hR2 hT2
          rw [hvI] at dI
          rw [hvJ] at dJ
          replace hvI := W_hid hvI
          replace hvJ := W_hid hvJ
          obtain ⟨V1, hV1⟩ : ∃ V, World.drew ((wc.setCell ⟨g, i, none⟩ (.int .u64 (vJ : Int))).setCell ⟨g, k, none⟩ (.int .u64 (vI : Int))) = V := ⟨_, rfl⟩
          have hRs : RW V1 g N (SO.swp Z i k) rest := by rw [← hV1]; exact hR2.out.drew
          have hTs : Two g g w V1 := by rw [← hV1]; exact ⟨hT2.out.os, hT2.out.tape, hT2.out.output, hT2.out.size, hT2.out.block⟩
          replace hRs := W_hid hRs
          replace hTs := W_hid hTs
          have hne1 : ¬ i = k := by omega
          have hne2 : ¬ k = i := by omega
          clear hR2 hT2
          have hSs := W_hid (hS.out.step (i := i) (j := k) (by omega) hlt hak (by omega))
          have hUs : Hid (SO.Up (SO.swp Z i k) a k) := up_away (up_cut hU.out (by omega)) (by omega) (Nat.le_refl _)
          have hU1 : Hid (k = a → SO.Up (SO.swp Z i k) a i) := fun e => by subst e; rw [hk]; exact SO.up_one _ _
          replace hk := W_hid hk
          clear hR hT hU hS
          go_wp2_with fail
          go_region
          try rw [hV1]
          clear hV1 dI dJ gz
          generalize SO.swp Z i k = Z1 at *
          obtain ⟨n2, hn2⟩ : ∃ n2, i - a = n2 := ⟨_, rfl⟩
          have hn2i : (i : Int) - (a : Int) = (n2 : Int) := by omega
          have hk2 : Hid (i = k + 1) := hk
          obtain ⟨n3, hn3⟩ : ∃ n3, b - i = n3 := ⟨_, rfl⟩
          have hn3i : (b : Int) - (i : Int) = (n3 : Int) := by omega
          have hbn : n2 ≤ 65536 ∧ n3 ≤ 65536 := by omega
          replace hn2 := W_hid hn2
          replace hn3 := W_hid hn3
          clear hk
          go_upto_if 61 with fail
          go_cut [9] from 13 to 132 (fun _ wx => ∃ Y : Nat → Nat, Hid (RW wx g N Y rest) ∧ Hid (SO.Sw a b X Y) ∧ Hid (SO.Up Y a i) ∧ Hid (Two g g w wx))
          case first =>
            by_cases h2 : 2 ≤ n2
            · go_wp2_with fail
              go_loopw [9] (fun v wr => ∃ (j : Nat) (Y : Nat → Nat), v = .int .i64 (j : Int) ∧ a ≤ j ∧ j ≤ k ∧ Hid (RW wr g N Y rest) ∧ Hid (SO.Sw a b X Y) ∧ Hid (SO.Ins Y a k j) ∧ Hid (Two g g w wr)) (fun v _ => (intOf v).toNat)
              case atStart => exact ⟨k, Z1, rfl, hak, Nat.le_refl _, hRs, hSs, W_hid (SO.ins_start hUs.out), hTs⟩
              case round =>
                clear hRs hSs hUs hTs hU1
                obtain ⟨j, Y, rfl, haj, hjk, hR, hS, hI, hT⟩ := hrel
                by_cases hj1 : 1 ≤ j
                · obtain ⟨q, hq⟩ : ∃ q, j = q + 1 := ⟨j - 1, by omega⟩
                  have eq : (j : Int) - 1 = (q : Int) := by omega
                  have dj := hR.out.cell j (by omega)
                  have dq := hR.out.cell q (by omega)
                  have gz := hR.out.fz
                  obtain ⟨vj, hvj⟩ : ∃ v, Y j = v := ⟨_, rfl⟩
                  obtain ⟨vq, hvq⟩ : ∃ v, Y q = v := ⟨_, rfl⟩
                  rw [hvj] at dj
                  rw [hvq] at dq
                  have hL := W_hid (fun t => Calls.quiet_of_same (Less_any vj vq (wr.drewN t)))
                  by_cases hl : vj < vq
                  · rw [show decide (vj < vq) = true by simp [hl]] at hL
                    have hja : a < j := by
                      rcases Nat.lt_or_ge a j with hh | hh
                      · exact hh
                      · exfalso
                        rcases SO.bel_sw hBel.out hS.out with h0 | h0
                        · omega
                        · have h1 := h0 j haj (by omega)
                          rw [show a - 1 = q by omega, hvj, hvq] at h1
                          omega
                    have hI2 : Hid (SO.Ins (SO.swp Y j q) a k q) := by
                      have h1 := SO.ins_swap hI.out hja hjk (by rw [show j - 1 = q by omega, hvj, hvq]; exact hl)
                      rw [show j - 1 = q by omega] at h1
                      exact h1
                    have hS2 := W_hid (hS.out.step (i := j) (j := q) haj (by omega) (by omega) (by omega))
                    have hqq : Hid (a ≤ q ∧ q ≤ k ∧ q < j) := by show _ ∧ _ ∧ _; omega
                    replace hl := W_hid hl
                    replace hvj := W_hid hvj
                    replace hvq := W_hid hvq
                    replace hq := W_hid hq
                    go_wp2_with fail
                    go_quiet ((go_at_call 185; exact hL.out _))
                    go_wp2_with fail
                    have hqx := hq.out
                    obtain ⟨W, hW⟩ : ∃ W, wr.drewN nq = W := ⟨_, rfl⟩
                    replace hR : RW W g N Y rest := by rw [← hW]; exact hR.out.drewN nq
                    replace hT : Two g g w W := by rw [← hW]; exact hT.out.drew nq
                    replace hR := W_hid hR
                    replace hT := W_hid hT
                    rw [hW]
                    clear hW dj dq gz hS hI
                    have bI := (show j < N by omega)
                    have bJ := (show q < N by omega)
                    have dI := hR.out.cell j bI
                    have dJ := hR.out.cell q bJ
                    have gz := hR.out.fz
                    obtain ⟨vI, hvI⟩ : ∃ v, Y j = v := ⟨_, rfl⟩
                    obtain ⟨vJ, hvJ⟩ : ∃ v, Y q = v := ⟨_, rfl⟩
                    have hR2 := W_hid (hR.out.swap j q bI bJ)
                    have hT2 := W_hid ((hT.out.setCell (p := ⟨g, j, none⟩) (.inl rfl) (.int .u64 (Y q : Int))).setCell (p := ⟨g, q, none⟩) (.inl rfl) (.int .u64 (Y j : Int)))
                    rw [hvI, hvJ] at hR2 hT2
                    rw [hvI] at dI
                    rw [hvJ] at dJ
                    replace hvI := W_hid hvI
                    replace hvJ := W_hid hvJ
                    obtain ⟨V2, hV2⟩ : ∃ V, World.drew ((W.setCell ⟨g, j, none⟩ (.int .u64 (vJ : Int))).setCell ⟨g, q, none⟩ (.int .u64 (vI : Int))) = V := ⟨_, rfl⟩
                    have hRt : RW V2 g N (SO.swp Y j q) rest := by rw [← hV2]; exact hR2.out.drew
                    have hTt : Two g g w V2 := by rw [← hV2]; exact ⟨hT2.out.os, hT2.out.tape, hT2.out.output, hT2.out.size, hT2.out.block⟩
                    replace hRt := W_hid hRt
                    replace hTt := W_hid hTt
                    have hne1 : ¬ j = q := by omega
                    have hne2 : ¬ q = j := by omega
                    clear hR2 hT2
                    clear hR hT hqx
                    go_region
                    try rw [hV2]
                    clear hV2 dI dJ gz
                    go_wp2_with fail
                    go_roundw
                    case rel => exact ⟨q, _, rfl, hqq.out.1, hqq.out.2.1, hRt, hS2, hI2, hTt⟩
                    case measure => (have := hqq.out.2.2); first | (simp [intOf]; omega) | simp [intOf]
                  · rw [show decide (vj < vq) = false by simp [hl]] at hL
                    have hfin : Hid (SO.Up Y a i) := by
                      have h1 := SO.ins_done hI.out haj hjk (.inr (by rw [show j - 1 = q by omega, hvj, hvq]; omega))
                      rw [← hk2.out] at h1
                      exact h1
                    replace hl := W_hid hl
                    replace hvj := W_hid hvj
                    replace hvq := W_hid hvq
                    replace hq := W_hid hq
                    go_wp2_with fail
                    go_quiet ((go_at_call 185; exact hL.out _))
                    go_wp2_with fail
                    go_meet
                    exact ⟨Y, W_hid (hR.out.drewN nq), hS, hfin, W_hid (hT.out.drew nq)⟩
                · have hfin : Hid (SO.Up Y a i) := by
                    have h1 := SO.ins_done hI.out haj hjk (.inl (by omega))
                    rw [← hk2.out] at h1
                    exact h1
                  go_wp2_with fail
                  go_meet
                  exact ⟨Y, hR, hS, hfin, hT⟩
            · have hfin := W_hid (hU1.out (by have := hn2.out; have := hk2.out; omega))
              go_wp2_with fail
              go_meet
              exact ⟨Z1, hRs, hSs, hfin, hTs⟩
          case rest =>
          clear hRs hSs hUs hTs hU1
          obtain ⟨Z2, hRs, hSs, hUs, hTs⟩ := hcut
          by_cases h3 : 2 ≤ n3
          · go_wp2_with fail
            obtain ⟨W4, rfl⟩ : ∃ W, W = wc := ⟨wc, rfl⟩
            go_loopw [10] (fun v wr => ∃ (j : Nat) (Y : Nat → Nat), v = .int .i64 (j : Int) ∧ i + 1 ≤ j ∧ j ≤ b ∧ Hid (RW wr g N Y rest) ∧ Hid (SO.Sw a b X Y) ∧ Hid (SO.Up Y a i) ∧ Hid (Two g g w wr)) (fun v _ => b - (intOf v).toNat)
            case atStart => exact ⟨i + 1, Z2, by go_num, Nat.le_refl _, by omega, hRs, hSs, hUs, hTs⟩
            case round =>
              clear hRs hSs hUs hTs
              obtain ⟨j, Y, rfl, hij, hjb, hR, hS, hU, hT⟩ := hrel
              by_cases hjl : j < b
              · obtain ⟨q, hq⟩ : ∃ q, j = q + 1 := ⟨j - 1, by omega⟩
                have eq : (j : Int) - 1 = (q : Int) := by omega
                have dj := hR.out.cell j (by omega)
                have dq := hR.out.cell q (by omega)
                have gz := hR.out.fz
                obtain ⟨vj, hvj⟩ : ∃ v, Y j = v := ⟨_, rfl⟩
                obtain ⟨vq, hvq⟩ : ∃ v, Y q = v := ⟨_, rfl⟩
                rw [hvj] at dj
                rw [hvq] at dq
                have hL := W_hid (fun t => Calls.quiet_of_same (Less_any vj vq (wr.drewN t)))
                have bq : q < N := by omega
                by_cases hl : vj < vq
                · rw [show decide (vj < vq) = true by simp [hl]] at hL
                  have hU2 : Hid (SO.Up (SO.swp Y j q) a i) := up_away hU.out (by omega) (by omega)
                  have hS2 := W_hid (hS.out.step (i := j) (j := q) (by omega) (by omega) (by omega) (by omega))
                  replace hl := W_hid hl
                  replace hvj := W_hid hvj
                  replace hvq := W_hid hvq
                  replace hq := W_hid hq
                  go_wp2_with fail
                  go_quiet ((go_at_call 185; exact hL.out _))
                  go_wp2_with fail
                  have hqx := hq.out
                  obtain ⟨W, hW⟩ : ∃ W, wr.drewN nq = W := ⟨_, rfl⟩
                  replace hR : RW W g N Y rest := by rw [← hW]; exact hR.out.drewN nq
                  replace hT : Two g g w W := by rw [← hW]; exact hT.out.drew nq
                  replace hR := W_hid hR
                  replace hT := W_hid hT
                  rw [hW]
                  clear hW dj dq gz hS hU
                  have bI := (show j < N by omega)
                  have bJ := (show q < N by omega)
                  have dI := hR.out.cell j bI
                  have dJ := hR.out.cell q bJ
                  have gz := hR.out.fz
                  obtain ⟨vI, hvI⟩ : ∃ v, Y j = v := ⟨_, rfl⟩
                  obtain ⟨vJ, hvJ⟩ : ∃ v, Y q = v := ⟨_, rfl⟩
                  have hR2 := W_hid (hR.out.swap j q bI bJ)
                  have hT2 := W_hid ((hT.out.setCell (p := ⟨g, j, none⟩) (.inl rfl) (.int .u64 (Y q : Int))).setCell (p := ⟨g, q, none⟩) (.inl rfl) (.int .u64 (Y j : Int)))
                  rw [hvI, hvJ] at hR2 hT2
                  rw [hvI] at dI
                  rw [hvJ] at dJ
                  replace hvI := W_hid hvI
                  replace hvJ := W_hid hvJ
                  obtain ⟨V2, hV2⟩ : ∃ V, World.drew ((W.setCell ⟨g, j, none⟩ (.int .u64 (vJ : Int))).setCell ⟨g, q, none⟩ (.int .u64 (vI : Int))) = V := ⟨_, rfl⟩
                  have hRt : RW V2 g N (SO.swp Y j q) rest := by rw [← hV2]; exact hR2.out.drew
                  have hTt : Two g g w V2 := by rw [← hV2]; exact ⟨hT2.out.os, hT2.out.tape, hT2.out.output, hT2.out.size, hT2.out.block⟩
                  replace hRt := W_hid hRt
                  replace hTt := W_hid hTt
                  have hne1 : ¬ j = q := by omega
                  have hne2 : ¬ q = j := by omega
                  clear hR2 hT2
                  clear hR hT hqx
                  go_region
                  try rw [hV2]
                  clear hV2 dI dJ gz
                  go_wp2_with fail
                  go_roundw
                  case rel => exact ⟨j + 1, _, by go_num, by omega, by omega, hRt, hS2, hU2, hTt⟩
                  case measure => first | (simp [intOf]; omega) | simp [intOf]
                · rw [show decide (vj < vq) = false by simp [hl]] at hL
                  replace hl := W_hid hl
                  replace hvj := W_hid hvj
                  replace hvq := W_hid hvq
                  replace hq := W_hid hq
                  go_wp2_with fail
                  go_quiet ((go_at_call 185; exact hL.out _))
                  go_wp2_with fail
                  go_roundw
                  case rel => exact ⟨i, c + 1, Y, rfl, by go_num, by omega, hi1, hi2, W_hid (hR.out.drewN nq), hS, hU, W_hid (hT.out.drew nq)⟩
                  case measure => first | (simp [intOf]; omega) | simp [intOf]
              · go_wp2_with fail
                go_roundw
                case rel => exact ⟨i, c + 1, Y, rfl, by go_num, by omega, hi1, hi2, hR, hS, hU, hT⟩
                case measure => first | (simp [intOf]; omega) | simp [intOf]
          · go_wp2_with fail
            go_roundw
            case rel => exact ⟨i, c + 1, Z2, rfl, by go_num, by omega, hi1, hi2, hRs, hSs, hUs, hTs⟩
            case measure => first | (simp [intOf]; omega) | simp [intOf]
    · go_wp2_with fail
      go_ret
      exact ⟨false, rfl, hT.out, Z, hR.out, hS.out, fun h => by cases h⟩
end Go.Proofs.YtigbjhmodpplbaaGreatDoor

namespace Go.Proofs.YtigbjhmodpplbaaGreatDoor
open Go.ChangeShapes Go.WideShapes Go.ChangeAt Go.RowKit
set_option linter.unusedVariables false
set_option linter.unusedSimpArgs false

theorem und_str : Tryz.prog.underlying 9 = some .string := by kernel_rfl
theorem str_at (s : ByteArray) (hs : s.size = 256) (k : Int) (hk : 0 ≤ k) (hk2 : k < 256) : ∃ t : Nat, t ≤ 255 ∧ ∀ w, (Instr.index 9 (.string s) (.int .u8 k)).run Tryz.prog w = .ok (.int .u8 (t : Int)) w := by
  have hlt : k.toNat < s.size := by omega
  refine ⟨(s[k.toNat]).toNat, by have := (s[k.toNat]).toNat_lt; omega, fun w => ?_⟩
  rw [run_index_string w _ s _ _ und_str, dif_pos ⟨by omega, by omega⟩]

set_option maxRecDepth 100000 in
set_option maxHeartbeats 4000000 in
theorem Len64_any (X : Int) (w : World) (h0 : 0 ≤ X) (hX : X < 65536) : Calls Tryz.prog 189 #[.int .u64 X] w fun e w' => (∃ k : Nat, e = .returned (.int .i64 (k : Int)) ∧ k ≤ 300) ∧ w' = w := by
  have d1 : X < 4294967296 := by omega
  go_enter Tryz.func189, Tryz.ntmps189
  generalize hT : Value.string _ = T
  have hI : ∀ k : Int, 0 ≤ k → k < 256 → ∃ t : Nat, t ≤ 255 ∧ ∀ w, (Instr.index 9 T (.int .u8 k)).run Tryz.prog w = .ok (.int .u8 (t : Int)) w := by
    intro k hk hk2
    rw [← hT]
    exact str_at _ (by rfl) k hk hk2
  clear hT
  by_cases h : 256 ≤ X
  · obtain ⟨t, ht, hi⟩ := hI (X / 256) (by omega) (by omega)
    clear hI
    have q0 : 0 ≤ X / 256 := by omega
    have q1 : X / 256 < 256 := by omega
    go_wp2_with fail
    go_ret
    exact ⟨⟨t + 8, by simp; omega, by omega⟩, rfl⟩
  · obtain ⟨t, ht, hi⟩ := hI X (by omega) (by omega)
    clear hI
    have h2 : X < 256 := by omega
    go_wp2_with fail
    go_ret
    exact ⟨⟨t, rfl, by omega⟩, rfl⟩

set_option maxRecDepth 100000 in
set_option maxHeartbeats 4000000 in
theorem Len_any (X : Int) (w : World) (h0 : 0 ≤ X) (hX : X < 65536) : Calls Tryz.prog 161 #[.int .u64 X] w fun e w' => (∃ k : Nat, e = .returned (.int .i64 (k : Int)) ∧ k ≤ 300) ∧ w' = w := by
  have c := Len64_any X w h0 hX
  go_enter Tryz.func161, Tryz.ntmps161
  go_wp2_with (go_at_call 189; refine c.mono ?_; rintro e w' ⟨⟨k, rfl, hk⟩, rfl⟩)
  go_ret
  exact ⟨⟨k, rfl, hk⟩, rfl⟩
end Go.Proofs.YtigbjhmodpplbaaGreatDoor

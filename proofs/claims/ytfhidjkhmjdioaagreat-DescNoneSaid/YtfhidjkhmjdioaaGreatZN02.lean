/- xorshift's Next, nextPowerOfTwo, breakPatternsOrdered, choosePivotOrdered. -/
import Derived.Test.YtfhidjkhmjdioaaGreatZN01
import Derived.RangeFuncNested
import Derived.RangeFuncBound
import Derived.RangeFuncCalls
import Derived.RangeFuncLeaves
import Derived.RangeFuncStops
import Derived.Shelf.Abstract
import Derived.Shelf.RegionOpen
import Derived.WalkKit
import Derived.OwnWalkIn
import Derived.TacticsInMore
import Derived.RegionIn
import Derived.LoopNIn
import Derived.LoopIn
import Derived.Maps.OwnIn
import Derived.Maps.AppendAt
import Derived.Sort.MapsRangeIn
import Derived.RangeFuncBox
import Derived.BigRegion
import Derived.Deep.CutRange
import Derived.Deep.CutBlock
import Derived.Laws.BitsAllLaws

namespace Go.Proofs.YtfhidjkhmjdioaaGreat
open Go.ChangeShapes Go.WideShapes Go.ChangeAt Go.RowKit Go.Maps
set_option linter.unusedVariables false
set_option linter.unusedSimpArgs false
namespace IN
theorem ok_fit : ∀ {b : Int} {l : List (Int × ByteArray)}, 0 ≤ b → EM.ok b l = true → XFit l
  | _, [], _, _ => fun x hx => by simp at hx
  | b, y :: r, hb, h => by
    obtain ⟨h1, h2, h3, h4⟩ := EM.ok_cons.1 h
    have hf : EM.fin y = y.1 + y.2.size := rfl
    intro x hx
    rcases List.mem_cons.1 hx with e | hx
    · subst e
      exact ⟨⟨by omega, by omega⟩, by unfold maxLen; omega⟩
    · exact ok_fit (by omega) h4 x hx
theorem ok_cnt {l : List (Int × ByteArray)} (h : EM.ok 0 l = true) : (EM.cnt l : Int) ≤ 1048576 := by
  have := (EM.wk_cnt (EM.ok_wk h) (by decide)).1
  omega
set_option maxRecDepth 100000 in
set_option maxHeartbeats 1000000 in
theorem stored_any (v : Value) (l : List (Int × ByteArray)) (w : World) (h : XE w v l) (hok : EM.ok 0 l = true) :
    Calls Tryz.prog 113 #[v] w fun e w' => e = .returned (.int .i64 (EM.cnt l : Int)) ∧ Below w.heap.size w w' := by
  obtain ⟨ao, n, c, rfl, hx, -⟩ := h
  have cS := Stored_any ao n c l w hx (ok_fit (Int.le_refl _) hok)
  have e1 : stV l = (EM.cnt l : Int) := by unfold stV; rw [if_pos hok]
  rw [e1] at cS
  have cS := W_hid cS
  clear hx e1
  go_enter Tryz.func113, Tryz.ntmps113
  go_wp2_with fail
  refine cS.out.mono ?_
  rintro e w1 ⟨rfl, b1⟩
  go_wp2_with fail
  go_ret
  exact ⟨rfl, b1⟩
section
variable {base sg mb : Nat} {M : Int → Option Nat} {I L left : Int} {S : Int → Option Nd}
set_option maxRecDepth 100000 in
set_option maxHeartbeats 4000000 in
theorem replace_any (n : Int) (g : Nat) (d : Nd) (v v' : Value) (l' : List (Int × ByteArray)) (w : World) (h : PM base w sg mb M I L left S) (hM : M n = some g) (hS : S n = some d) (hN : NB w g d v) (hx : XE w v' l') (h1 : EM.ok 0 d.l = true) (h2 : EM.ok 0 l' = true) (hl : 0 ≤ left ∧ left ≤ 16777216) :
    Calls Tryz.prog 121 #[.pointer (some ⟨sg, 0, none⟩), .pointer (some ⟨g, 0, none⟩), v'] w fun e w' =>
      (left < (EM.cnt l' : Int) - (EM.cnt d.l : Int) ∧ e = .returned (.int .i64 21) ∧ Below w.heap.size w w') ∨
      ((EM.cnt l' : Int) - (EM.cnt d.l : Int) ≤ left ∧ e = .returned (.int .i64 0) ∧ PM base w' sg mb M I L (left - ((EM.cnt l' : Int) - (EM.cnt d.l : Int))) (upd S n (some { d with l := l' })) ∧ NB w' g { d with l := l' } v' ∧ Keeps base (PT mb) w w') := by
  obtain ⟨ao', n', c', rfl, hx1, hx2⟩ := hx
  have hx : XE w (.slice ao' n' c') l' := ⟨ao', n', c', rfl, hx1, hx2⟩
  clear hx1 hx2
  have d4 := hN.1.cell (j := 4) rfl
  have b1 := ok_cnt h1
  have b2 := ok_cnt h2
  have hlow : base ≤ w.heap.size := Nat.le_trans h.ge.1 (Nat.le_of_lt h.box.lt)
  have cA : ∀ W, Below w.heap.size w W → Calls Tryz.prog 113 #[(.slice ao' n' c')] W fun e w' => e = .returned (.int .i64 (EM.cnt l' : Int)) ∧ w'.cell? ⟨g, 4, none⟩ = some v ∧ Below w.heap.size w w' := fun W hW =>
    (stored_any (.slice ao' n' c') l' W (hx.keep hW) h2).mono fun e w' hh => ⟨hh.1, (hN.1.keep (hW.trans (hh.2.mono hW.size))).cell (j := 4) rfl, hW.trans (hh.2.mono hW.size)⟩
  have cB : ∀ W, Below w.heap.size w W → Calls Tryz.prog 113 #[v] W fun e w' => e = .returned (.int .i64 (EM.cnt d.l : Int)) ∧ w'.cell? ⟨g, 4, none⟩ = some v ∧ Below w.heap.size w w' := fun W hW =>
    (stored_any v d.l W (hN.2.keep hW) h1).mono fun e w' hh => ⟨hh.1, (hN.1.keep (hW.trans (hh.2.mono hW.size))).cell (j := 4) rfl, hW.trans (hh.2.mono hW.size)⟩
  replace cA := W_hid cA
  replace cB := W_hid cB
  obtain ⟨A, hA⟩ : ∃ A, EM.cnt l' = A := ⟨_, rfl⟩
  obtain ⟨D, hD⟩ : ∃ D, EM.cnt d.l = D := ⟨_, rfl⟩
  rw [hA] at b2 cA ⊢
  rw [hD] at b1 cB ⊢
  have H := W_hid h
  have HN := W_hid hN
  have HX := W_hid hx
  clear hA hD h hN hx h1 h2
  have bel := Below.refl w.heap.size w
  have hw0 : IntKind.i64.wrap ((A : Int) - (D : Int)) = (A : Int) - (D : Int) := by rw [IntKind.wrap_i64]; omega
  go_enter Tryz.func121, Tryz.ntmps121
  go_wp2_with fail
  refine wp_region_held_drew (S := (fun w' => w'.cell? ⟨g, 4, none⟩ = some v ∧ Below w.heap.size w w')) (by kernel_rfl) ⟨d4, Below.drew bel⟩ (fun hHeld => ?_)
  refine wpAnyH_take (i := 0) (v := (.slice ao' n' c')) rfl (by kernel_rfl) (by kernel_rfl) (by kernel_rfl) (fun _ _ _ h => h) (Or.inl ⟨by rfl, fun w0 ⟨s1, s2⟩ => ?_⟩) hHeld ?_
  · go_simp
  try simp only [Act.put, List.setIfInBounds_toArray, List.set_cons_zero, List.set_cons_succ, List.getElem_toArray, List.getElem_cons_zero, List.getElem_cons_succ]
  refine wpAnyH_take (i := 2) (v := .pointer (some ⟨g, 0, none⟩)) rfl (by kernel_rfl) (by kernel_rfl) (by kernel_rfl) (fun _ _ _ h => h) (Or.inl ⟨by rfl, fun w0 ⟨s1, s2⟩ => ?_⟩) hHeld ?_
  · go_simp
  try simp only [Act.put, List.setIfInBounds_toArray, List.set_cons_zero, List.set_cons_succ, List.getElem_toArray, List.getElem_cons_zero, List.getElem_cons_succ]
  refine wpAnyH_take (i := 3) (v := .pointer (some ⟨g, 0, none⟩)) rfl (by kernel_rfl) (by kernel_rfl) (by kernel_rfl) (fun _ _ _ h => h) (Or.inl ⟨by rfl, fun w0 ⟨s1, s2⟩ => ?_⟩) hHeld ?_
  · go_simp
  try simp only [Act.put, List.setIfInBounds_toArray, List.set_cons_zero, List.set_cons_succ, List.getElem_toArray, List.getElem_cons_zero, List.getElem_cons_succ]
  refine wpAnyH_take (i := 4) (v := .pointer (some ⟨g, 4, none⟩)) rfl (by kernel_rfl) (by kernel_rfl) (by kernel_rfl) (fun _ _ _ h => h) (Or.inl ⟨by rfl, fun w0 ⟨s1, s2⟩ => ?_⟩) hHeld ?_
  · go_simp
  try simp only [Act.put, List.setIfInBounds_toArray, List.set_cons_zero, List.set_cons_succ, List.getElem_toArray, List.getElem_cons_zero, List.getElem_cons_succ]
  refine wpAnyH_take (i := 5) (v := v) rfl (by kernel_rfl) (by kernel_rfl) (by kernel_rfl) (fun _ _ _ h => h) (Or.inl ⟨by rfl, fun w0 ⟨s1, s2⟩ => ?_⟩) hHeld ?_
  · go_simp
  try simp only [Act.put, List.setIfInBounds_toArray, List.set_cons_zero, List.set_cons_succ, List.getElem_toArray, List.getElem_cons_zero, List.getElem_cons_succ]
  refine wpAnyH_ready (rs := [1]) (by kernel_rfl) (by simp) ?_
  refine AllReadyH.cons rfl (fun K hK => ?_) AllReadyH.nil
  go_simp
  refine (cA.out _ (Below.drew bel)).mono ?_
  rintro e w2 ⟨rfl, hc2, hb2⟩
  refine hK.out _ _ ⟨hc2, hb2⟩ (fun hHeld2 => ?_)
  clear hK K
  try simp only [Act.put, List.setIfInBounds_toArray, List.set_cons_zero, List.set_cons_succ, List.getElem_toArray, List.getElem_cons_zero, List.getElem_cons_succ]
  refine wpAnyH_ready (rs := [6]) (by kernel_rfl) (by simp) ?_
  refine AllReadyH.cons rfl (fun K hK => ?_) AllReadyH.nil
  go_simp
  refine (cB.out _ hb2).mono ?_
  rintro e w3 ⟨rfl, hc3, hb3⟩
  refine hK.out _ _ ⟨hc3, hb3⟩ (fun hHeld3 => ?_)
  clear hK K
  try simp only [Act.put, List.setIfInBounds_toArray, List.set_cons_zero, List.set_cons_succ, List.getElem_toArray, List.getElem_cons_zero, List.getElem_cons_succ]
  refine wpAnyH_take (i := 7) (v := .int .i64 ((A : Int) - (D : Int))) rfl (by kernel_rfl) (by kernel_rfl) (by kernel_rfl) (fun _ _ _ h => h) (Or.inl ⟨by rfl, fun w0 ⟨s1, s2⟩ => ?_⟩) hHeld3 ?_
  · go_simp
  try simp only [Act.put, List.setIfInBounds_toArray, List.set_cons_zero, List.set_cons_succ, List.getElem_toArray, List.getElem_cons_zero, List.getElem_cons_succ]
  refine wpAnyH_take (i := 8) (v := .int .i64 ((A : Int) - (D : Int))) rfl (by kernel_rfl) (by kernel_rfl) (by kernel_rfl) (fun _ _ _ h => h) (Or.inl ⟨by rfl, fun w0 ⟨s1, s2⟩ => ?_⟩) hHeld3 ?_
  · go_simp
  try simp only [Act.put, List.setIfInBounds_toArray, List.set_cons_zero, List.set_cons_succ, List.getElem_toArray, List.getElem_cons_zero, List.getElem_cons_succ]
  refine wpAnyH_done (by kernel_rfl) ?_ _
  have h3 := H.out.keep hb3
  have hN3 : NB w3 g d v := ⟨HN.out.1.keep hb3, HN.out.2.keep hb3⟩
  have hX3 := HX.out.keep hb3
  have c3 := h3.box.cell (j := 3) rfl
  have fs := h3.box.fz
  have fg := hN3.1.fz
  have hgs : g ≠ sg := blk_ne hN3.1 h3.box (by decide)
  by_cases hlt : left < (A : Int) - (D : Int)
  · replace hb3 := W_hid hb3
    clear h3 hN3 hX3 hb2 hc2 hc3
    go_wp2_with fail
    go_ret
    exact .inl ⟨hlt, rfl, hb3.out⟩
  · have hle : Hid ((A : Int) - (D : Int) ≤ left) := W_hid (by omega)
    have hw : IntKind.i64.wrap (left - ((A : Int) - (D : Int))) = left - ((A : Int) - (D : Int)) := by rw [IntKind.wrap_i64]; omega
    obtain ⟨q1, q2⟩ := h3.setLeft (left - ((A : Int) - (D : Int)))
    have hN4 : Blk (w3.setCell ⟨sg, 3, none⟩ (.int .i64 (left - ((A : Int) - (D : Int))))) g 155 (ncl d v) := hN3.1.far (p := ⟨sg, 3, none⟩) hgs _
    obtain ⟨r1, r2, r3⟩ := q1.setNode (d' := { d with l := l' }) (v' := (.slice ao' n' c')) hM hS hN4 (hX3.keeps q2 (by simp [PT])) 4 (.slice ao' n' c') rfl
    have K3 := W_hid ((Keeps.new (T := PT mb) hb3 hlow).trans (q2.trans r3))
    have r1 := W_hid r1
    have r2 := W_hid r2
    replace hb3 := W_hid hb3
    clear h3 hN3 hX3 hb2 hc2 q1 q2 hN4 r3
    have hgs2 : ¬ sg = g := fun e => hgs e.symm
    go_wp2_with fail
    go_ret
    exact .inr ⟨rfl, r1.out, r2.out, K3.out⟩
end
end IN
namespace IN
section
variable {base sg mb I L B k : Nat} {M : Int → Option Nat} {S : Int → Option Nd}
set_option maxRecDepth 100000 in
set_option maxHeartbeats 4000000 in
theorem Open_any (n : Int) (w : World) (h : PS base w sg mb M I L B k S) (hn : IS.I64 n) (hk : k < 1000000) : Calls Tryz.prog 68 #[.pointer (some ⟨sg, 0, none⟩), .int .i64 n] w (Out base sg mb I L B (k + 1) w (opR S n) (opS S n)) := by
  have hmf : ∀ (fn : Fn) (first cap : Array Value) (w : World), (Instr.makeFunc fn first cap).run Tryz.prog w = .ok (.func fn first cap) w := fun _ _ _ _ => rfl
  have cA := ask_two n h.pm hn
  cases hS : S n with
  | none =>
    have e1 : opR S n = 11 := by simp [opR, askR, hS]
    have e2 : opS S n = S := by simp [opS, hS]
    have e3 : (askR S n fun _ => 0) = 11 := e1
    rw [e1, e2]
    rw [e3] at cA
    have H := W_hid h
    have cA := W_hid cA
    clear h e1 e2 e3 hS
    go_enter Tryz.func68, Tryz.ntmps68
    go_wp2_with fail
    refine cA.out.mono ?_
    rintro e w1 ⟨rfl, b1⟩
    go_wp2_with fail
    go_ret
    exact Out.same H.out (Nat.le_succ _) b1 11
  | some d =>
    have hg := h.fn.good n d hS
    have e1 : opR S n = 0 := by simp [opR, askR, hS]
    have e2 : opS S n = upd S n (some { d with opens := d.opens + 1 }) := by simp [opS, hS]
    have e3 : (askR S n fun _ => 0) = 0 := e1
    rw [e1, e2]
    rw [e3] at cA
    have H := W_hid h
    have cA := W_hid cA
    have hw : IntKind.i64.wrap (d.opens + 1) = d.opens + 1 := by rw [IntKind.wrap_i64]; have := hg.links; have := hg.opens; have := h.lim; omega
    have HS := W_hid hS
    have HG := W_hid hg
    clear h e1 e2 e3 hS hg
    go_enter Tryz.func68, Tryz.ntmps68
    go_wp2_with fail
    refine cA.out.mono ?_
    rintro e w1 ⟨rfl, b1⟩
    have h1 := H.out.keep b1
    have c0 := h1.pm.box.cell (j := 0) rfl
    have hlk := h1.pm.mp.look n hn
    obtain ⟨g, v, hM, hN, hge, hgs, hgm⟩ := h1.pm.has HS.out
    rw [hM] at hlk
    simp only [IS.ptr] at hlk
    have d1 := hN.1.cell (j := 2) rfl
    have f1 := hN.1.fz
    obtain ⟨p1, p2, p3⟩ := h1.pm.setNode (d' := { d with opens := d.opens + 1 }) (v' := v) hM HS.out hN.1 hN.2 2 (.int .i64 (d.opens + 1)) rfl
    have b1' := W_hid b1
    have p1 := W_hid p1
    have p3 := W_hid p3
    have hlim := W_hid h1.lim
    have hfn := W_hid h1.fn
    have hlow := W_hid H.out.low
    clear h1 hN hM p2 b1
    go_wp2_with fail
    go_ret
    refine ⟨rfl, ⟨M, ?_, hfn.out.set HS.out (Nat.le_succ _) rfl ⟨HG.out.kind, by simpa using HG.out.links, ⟨by have := HG.out.opens; simp; omega, by have := HG.out.opens; simp; omega⟩, by have := HG.out.some; simp; omega, HG.out.size, HG.out.ok, HG.out.fin, HG.out.dir⟩, hlim.out⟩, (Keeps.new b1'.out hlow.out).trans p3.out⟩
    rw [tot_same (d' := { d with opens := d.opens + 1 }) HS.out hfn.out rfl]
    exact p1.out
end
end IN
namespace IN
def stl (n : Int) (d : Nd) : List Value := [.int .i64 n, .int .i64 d.kind, .int .i64 d.links, .int .i64 d.opens, .int .i64 d.size, .int .i64 (EM.cnt d.l : Int)]
def zl : List Value := [.int .i64 0, .int .i64 0, .int .i64 0, .int .i64 0, .int .i64 0, .int .i64 0]
def six (a b c d e f : Int) : List Value := [.int .i64 a, .int .i64 b, .int .i64 c, .int .i64 d, .int .i64 e, .int .i64 f]
theorem res_one {fn : Func} {r : Tmp} (hres : fn.results = #[.cell r 65]) (tmps : Array Value) (w : World) {g : Nat} {a b c d e f : Int} (hr : tmps.getD r undef = .pointer (some ⟨g, 0, none⟩)) (hp : Blk w g 65 (six a b c d e f)) :
    (results fn tmps).run Tryz.prog w = .ok (.agg (six a b c d e f).toArray) w := by
  have c0 := hp.cell (j := 0) rfl
  have c1 := hp.cell (j := 1) rfl
  have c2 := hp.cell (j := 2) rfl
  have c3 := hp.cell (j := 3) rfl
  have c4 := hp.cell (j := 4) rfl
  have c5 := hp.cell (j := 5) rfl
  rw [Array.getD_eq_getD_getElem?] at hr
  simp [results, hres, go_sem, hr, c0, c1, c2, c3, c4, c5, six]
theorem res_two {fn : Func} {r t : Tmp} (hres : fn.results = #[.cell r 65, .tmp t]) (tmps : Array Value) (w : World) {g : Nat} {a b c d e f : Int} (hr : tmps.getD r undef = .pointer (some ⟨g, 0, none⟩)) (hp : Blk w g 65 (six a b c d e f)) :
    (results fn tmps).run Tryz.prog w = .ok (.tuple #[.agg (six a b c d e f).toArray, tmps.getD t undef]) w := by
  have c0 := hp.cell (j := 0) rfl
  have c1 := hp.cell (j := 1) rfl
  have c2 := hp.cell (j := 2) rfl
  have c3 := hp.cell (j := 3) rfl
  have c4 := hp.cell (j := 4) rfl
  have c5 := hp.cell (j := 5) rfl
  rw [Array.getD_eq_getD_getElem?] at hr
  simp [results, hres, go_sem, hr, c0, c1, c2, c3, c4, c5, six]
def six_set (w : World) (r : Nat) (a b c d e f : Int) : World := (((((w.setCell ⟨r, 0, none⟩ (.int .i64 a)).setCell ⟨r, 1, none⟩ (.int .i64 b)).setCell ⟨r, 2, none⟩ (.int .i64 c)).setCell ⟨r, 3, none⟩ (.int .i64 d)).setCell ⟨r, 4, none⟩ (.int .i64 e)).setCell ⟨r, 5, none⟩ (.int .i64 f)
theorem six_blk {w : World} {r : Nat} {x0 x1 x2 x3 x4 x5 : Value} (h : Blk w r 65 [x0, x1, x2, x3, x4, x5]) (a b c d e f : Int) : Blk (six_set w r a b c d e f) r 65 (six a b c d e f) :=
  (((((h.set 0 (.int .i64 a)).set 1 (.int .i64 b)).set 2 (.int .i64 c)).set 3 (.int .i64 d)).set 4 (.int .i64 e)).set 5 (.int .i64 f)
theorem six_below {w0 w : World} {r B : Nat} (h : Below B w0 w) (hr : B ≤ r) (a b c d e f : Int) : Below B w0 (six_set w r a b c d e f) :=
  (((((h.setCell (p := ⟨r, 0, none⟩) hr _).setCell (p := ⟨r, 1, none⟩) hr _).setCell (p := ⟨r, 2, none⟩) hr _).setCell (p := ⟨r, 3, none⟩) hr _).setCell (p := ⟨r, 4, none⟩) hr _).setCell (p := ⟨r, 5, none⟩) hr _
section
variable {base sg mb : Nat} {M : Int → Option Nat} {S : Int → Option Nd}
set_option maxRecDepth 100000 in
set_option maxHeartbeats 4000000 in
theorem stat_any (n : Int) (d : Nd) (w : World) {I L left : Int} (h : PM base w sg mb M I L left S) (hn : IS.I64 n) (hS : S n = some d) (hok : EM.ok 0 d.l = true) :
    Calls Tryz.prog 62 #[.pointer (some ⟨sg, 0, none⟩), .int .i64 n] w fun e w' => e = .returned (.agg (stl n d).toArray) ∧ Below w.heap.size w w' := by
  obtain ⟨g, v, hM, hN, -⟩ := h.has hS
  have hlt := hN.1.lt
  obtain ⟨W0, hW0⟩ : ∃ W0, w.alloc (.cells #[.int .i64 0, .int .i64 0, .int .i64 0, .int .i64 0, .int .i64 0, .int .i64 0] 65) = W0 := ⟨_, rfl⟩
  have hb0 : Below w.heap.size w W0 := by rw [← hW0]; exact (Below.refl _ _).alloc (Nat.le_refl _) _
  have hr0 : Blk W0 w.heap.size 65 zl := by rw [← hW0]; exact Blk.new w _ zl rfl
  have h0 := h.keep hb0
  have c0 := h0.box.cell (j := 0) rfl
  have hlk := h0.mp.look n hn
  rw [hM] at hlk
  simp only [IS.ptr] at hlk
  have hN0 : NB W0 g d v := ⟨hN.1.keep hb0, hN.2.keep hb0⟩
  have d0 := hN0.1.cell (j := 0) rfl
  have d1 := hN0.1.cell (j := 1) rfl
  have d2 := hN0.1.cell (j := 2) rfl
  have d3 := hN0.1.cell (j := 3) rfl
  have d4 := hN0.1.cell (j := 4) rfl
  have hNN := W_hid (show Blk W0.drew g 155 (ncl d v) from hN0.1)
  have cS := W_hid (stored_any v d.l W0.drew hN0.2 hok)
  have hN1 := W_hid (fun w' (hb : Below W0.heap.size W0 w') => hN0.1.keep hb)
  have hs0 : W0.heap.size = w.heap.size + 1 := by rw [← hW0]; simp
  have hb0 := W_hid hb0
  have hr0 := W_hid hr0
  replace hs0 := W_hid hs0
  clear h h0 hN hM hS hok hN0
  go_enter Tryz.func62, Tryz.ntmps62
  go_wp2_with fail
  replace hW0 := W_hid hW0
  have hne : ¬ g = w.heap.size := by omega
  have hne2 : ¬ w.heap.size = g := by omega
  have fr := hr0.out.fz
  refine wp_region_held_drew (S := (fun w' => Blk w' g 155 (ncl d v))) (by kernel_rfl) hNN.out (fun hHeld => ?_)
  refine wpAnyH_take (i := 0) (v := .int .i64 n) rfl (by kernel_rfl) (by kernel_rfl) (by kernel_rfl) (fun _ _ _ h => h) (Or.inl ⟨by rfl, fun w0 s1 => ?_⟩) hHeld ?_
  · go_simp
  try simp only [Act.put, List.setIfInBounds_toArray, List.set_cons_zero, List.set_cons_succ, List.getElem_toArray, List.getElem_cons_zero, List.getElem_cons_succ]
  refine wpAnyH_take (i := 1) (v := .pointer (some ⟨g, 0, none⟩)) rfl (by kernel_rfl) (by kernel_rfl) (by kernel_rfl) (fun _ _ _ h => h) (Or.inl ⟨by rfl, fun w0 s1 => ?_⟩) hHeld ?_
  · go_simp
  try simp only [Act.put, List.setIfInBounds_toArray, List.set_cons_zero, List.set_cons_succ, List.getElem_toArray, List.getElem_cons_zero, List.getElem_cons_succ]
  refine wpAnyH_take (i := 2) (v := .pointer (some ⟨g, 0, none⟩)) rfl (by kernel_rfl) (by kernel_rfl) (by kernel_rfl) (fun _ _ _ h => h) (Or.inl ⟨by rfl, fun w0 s1 => ?_⟩) hHeld ?_
  · go_simp
  try simp only [Act.put, List.setIfInBounds_toArray, List.set_cons_zero, List.set_cons_succ, List.getElem_toArray, List.getElem_cons_zero, List.getElem_cons_succ]
  refine wpAnyH_take (i := 3) (v := .pointer (some ⟨g, 0, none⟩)) rfl (by kernel_rfl) (by kernel_rfl) (by kernel_rfl) (fun _ _ _ h => h) (Or.inl ⟨by rfl, fun w0 s1 => ?_⟩) hHeld ?_
  · go_simp
  try simp only [Act.put, List.setIfInBounds_toArray, List.set_cons_zero, List.set_cons_succ, List.getElem_toArray, List.getElem_cons_zero, List.getElem_cons_succ]
  refine wpAnyH_take (i := 4) (v := .int .i64 d.kind) rfl (by kernel_rfl) (by kernel_rfl) (by kernel_rfl) (fun _ _ _ h => h) (Or.inl ⟨by rfl, fun w0 s1 => ?_⟩) hHeld ?_
  · (have q := Blk.cell (j := 0) s1 rfl; go_simp)
  try simp only [Act.put, List.setIfInBounds_toArray, List.set_cons_zero, List.set_cons_succ, List.getElem_toArray, List.getElem_cons_zero, List.getElem_cons_succ]
  refine wpAnyH_take (i := 5) (v := .pointer (some ⟨g, 0, none⟩)) rfl (by kernel_rfl) (by kernel_rfl) (by kernel_rfl) (fun _ _ _ h => h) (Or.inl ⟨by rfl, fun w0 s1 => ?_⟩) hHeld ?_
  · go_simp
  try simp only [Act.put, List.setIfInBounds_toArray, List.set_cons_zero, List.set_cons_succ, List.getElem_toArray, List.getElem_cons_zero, List.getElem_cons_succ]
  refine wpAnyH_take (i := 6) (v := .pointer (some ⟨g, 0, none⟩)) rfl (by kernel_rfl) (by kernel_rfl) (by kernel_rfl) (fun _ _ _ h => h) (Or.inl ⟨by rfl, fun w0 s1 => ?_⟩) hHeld ?_
  · go_simp
  try simp only [Act.put, List.setIfInBounds_toArray, List.set_cons_zero, List.set_cons_succ, List.getElem_toArray, List.getElem_cons_zero, List.getElem_cons_succ]
  refine wpAnyH_take (i := 7) (v := .pointer (some ⟨g, 1, none⟩)) rfl (by kernel_rfl) (by kernel_rfl) (by kernel_rfl) (fun _ _ _ h => h) (Or.inl ⟨by rfl, fun w0 s1 => ?_⟩) hHeld ?_
  · go_simp
  try simp only [Act.put, List.setIfInBounds_toArray, List.set_cons_zero, List.set_cons_succ, List.getElem_toArray, List.getElem_cons_zero, List.getElem_cons_succ]
  refine wpAnyH_take (i := 8) (v := .int .i64 d.links) rfl (by kernel_rfl) (by kernel_rfl) (by kernel_rfl) (fun _ _ _ h => h) (Or.inl ⟨by rfl, fun w0 s1 => ?_⟩) hHeld ?_
  · (have q := Blk.cell (j := 1) s1 rfl; go_simp)
  try simp only [Act.put, List.setIfInBounds_toArray, List.set_cons_zero, List.set_cons_succ, List.getElem_toArray, List.getElem_cons_zero, List.getElem_cons_succ]
  refine wpAnyH_take (i := 9) (v := .pointer (some ⟨g, 0, none⟩)) rfl (by kernel_rfl) (by kernel_rfl) (by kernel_rfl) (fun _ _ _ h => h) (Or.inl ⟨by rfl, fun w0 s1 => ?_⟩) hHeld ?_
  · go_simp
  try simp only [Act.put, List.setIfInBounds_toArray, List.set_cons_zero, List.set_cons_succ, List.getElem_toArray, List.getElem_cons_zero, List.getElem_cons_succ]
  refine wpAnyH_take (i := 10) (v := .pointer (some ⟨g, 0, none⟩)) rfl (by kernel_rfl) (by kernel_rfl) (by kernel_rfl) (fun _ _ _ h => h) (Or.inl ⟨by rfl, fun w0 s1 => ?_⟩) hHeld ?_
  · go_simp
  try simp only [Act.put, List.setIfInBounds_toArray, List.set_cons_zero, List.set_cons_succ, List.getElem_toArray, List.getElem_cons_zero, List.getElem_cons_succ]
  refine wpAnyH_take (i := 11) (v := .pointer (some ⟨g, 2, none⟩)) rfl (by kernel_rfl) (by kernel_rfl) (by kernel_rfl) (fun _ _ _ h => h) (Or.inl ⟨by rfl, fun w0 s1 => ?_⟩) hHeld ?_
  · go_simp
  try simp only [Act.put, List.setIfInBounds_toArray, List.set_cons_zero, List.set_cons_succ, List.getElem_toArray, List.getElem_cons_zero, List.getElem_cons_succ]
  refine wpAnyH_take (i := 12) (v := .int .i64 d.opens) rfl (by kernel_rfl) (by kernel_rfl) (by kernel_rfl) (fun _ _ _ h => h) (Or.inl ⟨by rfl, fun w0 s1 => ?_⟩) hHeld ?_
  · (have q := Blk.cell (j := 2) s1 rfl; go_simp)
  try simp only [Act.put, List.setIfInBounds_toArray, List.set_cons_zero, List.set_cons_succ, List.getElem_toArray, List.getElem_cons_zero, List.getElem_cons_succ]
  refine wpAnyH_take (i := 13) (v := .pointer (some ⟨g, 0, none⟩)) rfl (by kernel_rfl) (by kernel_rfl) (by kernel_rfl) (fun _ _ _ h => h) (Or.inl ⟨by rfl, fun w0 s1 => ?_⟩) hHeld ?_
  · go_simp
  try simp only [Act.put, List.setIfInBounds_toArray, List.set_cons_zero, List.set_cons_succ, List.getElem_toArray, List.getElem_cons_zero, List.getElem_cons_succ]
  refine wpAnyH_take (i := 14) (v := .pointer (some ⟨g, 0, none⟩)) rfl (by kernel_rfl) (by kernel_rfl) (by kernel_rfl) (fun _ _ _ h => h) (Or.inl ⟨by rfl, fun w0 s1 => ?_⟩) hHeld ?_
  · go_simp
  try simp only [Act.put, List.setIfInBounds_toArray, List.set_cons_zero, List.set_cons_succ, List.getElem_toArray, List.getElem_cons_zero, List.getElem_cons_succ]
  refine wpAnyH_take (i := 15) (v := .pointer (some ⟨g, 3, none⟩)) rfl (by kernel_rfl) (by kernel_rfl) (by kernel_rfl) (fun _ _ _ h => h) (Or.inl ⟨by rfl, fun w0 s1 => ?_⟩) hHeld ?_
  · go_simp
  try simp only [Act.put, List.setIfInBounds_toArray, List.set_cons_zero, List.set_cons_succ, List.getElem_toArray, List.getElem_cons_zero, List.getElem_cons_succ]
  refine wpAnyH_take (i := 16) (v := .int .i64 d.size) rfl (by kernel_rfl) (by kernel_rfl) (by kernel_rfl) (fun _ _ _ h => h) (Or.inl ⟨by rfl, fun w0 s1 => ?_⟩) hHeld ?_
  · (have q := Blk.cell (j := 3) s1 rfl; go_simp)
  try simp only [Act.put, List.setIfInBounds_toArray, List.set_cons_zero, List.set_cons_succ, List.getElem_toArray, List.getElem_cons_zero, List.getElem_cons_succ]
  refine wpAnyH_take (i := 17) (v := .pointer (some ⟨g, 0, none⟩)) rfl (by kernel_rfl) (by kernel_rfl) (by kernel_rfl) (fun _ _ _ h => h) (Or.inl ⟨by rfl, fun w0 s1 => ?_⟩) hHeld ?_
  · go_simp
  try simp only [Act.put, List.setIfInBounds_toArray, List.set_cons_zero, List.set_cons_succ, List.getElem_toArray, List.getElem_cons_zero, List.getElem_cons_succ]
  refine wpAnyH_take (i := 18) (v := .pointer (some ⟨g, 0, none⟩)) rfl (by kernel_rfl) (by kernel_rfl) (by kernel_rfl) (fun _ _ _ h => h) (Or.inl ⟨by rfl, fun w0 s1 => ?_⟩) hHeld ?_
  · go_simp
  try simp only [Act.put, List.setIfInBounds_toArray, List.set_cons_zero, List.set_cons_succ, List.getElem_toArray, List.getElem_cons_zero, List.getElem_cons_succ]
  refine wpAnyH_take (i := 19) (v := .pointer (some ⟨g, 4, none⟩)) rfl (by kernel_rfl) (by kernel_rfl) (by kernel_rfl) (fun _ _ _ h => h) (Or.inl ⟨by rfl, fun w0 s1 => ?_⟩) hHeld ?_
  · go_simp
  try simp only [Act.put, List.setIfInBounds_toArray, List.set_cons_zero, List.set_cons_succ, List.getElem_toArray, List.getElem_cons_zero, List.getElem_cons_succ]
  refine wpAnyH_take (i := 20) (v := v) rfl (by kernel_rfl) (by kernel_rfl) (by kernel_rfl) (fun _ _ _ h => h) (Or.inl ⟨by rfl, fun w0 s1 => ?_⟩) hHeld ?_
  · (have q := Blk.cell (j := 4) s1 rfl; go_simp)
  try simp only [Act.put, List.setIfInBounds_toArray, List.set_cons_zero, List.set_cons_succ, List.getElem_toArray, List.getElem_cons_zero, List.getElem_cons_succ]
  refine wpAnyH_ready (rs := [21]) (by kernel_rfl) (by simp) ?_
  refine AllReadyH.cons rfl (fun K hK => ?_) AllReadyH.nil
  go_simp
  refine cS.out.mono ?_
  rintro e w2 ⟨rfl, hb2⟩
  have hN2 := hN1.out w2 (Own.bundrew hb2)
  have hr2 := hr0.out.keep (Own.bundrew hb2)
  have kf := hr2.fz
  have r0 := hr2.cell (j := 0) rfl
  have r1 := hr2.cell (j := 1) rfl
  have r2 := hr2.cell (j := 2) rfl
  have r3 := hr2.cell (j := 3) rfl
  have r4 := hr2.cell (j := 4) rfl
  have r5 := hr2.cell (j := 5) rfl
  refine hK.out _ _ hN2 (fun hHeld1 => ?_)
  clear hK K
  try simp only [Act.put, List.setIfInBounds_toArray, List.set_cons_zero, List.set_cons_succ, List.getElem_toArray, List.getElem_cons_zero, List.getElem_cons_succ]
  refine wpAnyH_take (i := 22) (v := .agg #[.int .i64 n, .int .i64 d.kind, .int .i64 d.links, .int .i64 d.opens, .int .i64 d.size, .int .i64 (EM.cnt d.l : Int)]) rfl (by kernel_rfl) (by kernel_rfl) (by kernel_rfl) (fun _ _ _ h => h) (Or.inl ⟨by rfl, fun w0 s1 => ?_⟩) hHeld1 ?_
  · go_simp
  try simp only [Act.put, List.setIfInBounds_toArray, List.set_cons_zero, List.set_cons_succ, List.getElem_toArray, List.getElem_cons_zero, List.getElem_cons_succ]
  refine wpAnyH_ready (rs := [23]) (by kernel_rfl) (by simp) ?_
  refine AllReadyH.cons rfl (fun K hK => ?_) AllReadyH.nil
  go_simp
  skip
  refine hK.out _ _ ((((((hN2.far (p := ⟨w.heap.size, 0, none⟩) hne _).far (p := ⟨w.heap.size, 1, none⟩) hne _).far (p := ⟨w.heap.size, 2, none⟩) hne _).far (p := ⟨w.heap.size, 3, none⟩) hne _).far (p := ⟨w.heap.size, 4, none⟩) hne _).far (p := ⟨w.heap.size, 5, none⟩) hne _) (fun hHeld2 => ?_)
  clear hK K
  try simp only [Act.put, List.setIfInBounds_toArray, List.set_cons_zero, List.set_cons_succ, List.getElem_toArray, List.getElem_cons_zero, List.getElem_cons_succ]
  refine wpAnyH_done (by kernel_rfl) ?_ _
  have hfin := six_blk hr2 n d.kind d.links d.opens d.size (EM.cnt d.l)
  have hbl := six_below (hb0.out.trans ((Own.bundrew hb2).mono hb0.out.size)) (Nat.le_refl _) n d.kind d.links d.opens d.size (EM.cnt d.l : Int)
  go_wp2_with fail
  refine bodyPost_ret (res_one rfl _ _ rfl hfin) rfl ⟨rfl, hbl⟩
end
end IN
namespace IN
def stV (S : Int → Option Nd) (n : Int) : List Value := match S n with
  | none => zl
  | some d => stl n d
section
variable {base sg mb I L B k : Nat} {M : Int → Option Nat} {S : Int → Option Nd}
set_option maxRecDepth 100000 in
set_option maxHeartbeats 4000000 in
theorem Stat_any (n : Int) (w : World) (h : PS base w sg mb M I L B k S) (hn : IS.I64 n) :
    Calls Tryz.prog 39 #[.pointer (some ⟨sg, 0, none⟩), .int .i64 n] w fun e w' => e = .returned (.tuple #[.agg (stV S n).toArray, .int .i64 (opR S n)]) ∧ Below w.heap.size w w' := by
  have hmf : ∀ (fn : Fn) (first cap : Array Value) (w : World), (Instr.makeFunc fn first cap).run Tryz.prog w = .ok (.func fn first cap) w := fun _ _ _ _ => rfl
  obtain ⟨W0, hW0⟩ : ∃ W0, w.alloc (.cells #[.int .i64 0, .int .i64 0, .int .i64 0, .int .i64 0, .int .i64 0, .int .i64 0] 65) = W0 := ⟨_, rfl⟩
  have hb0 : Below w.heap.size w W0 := by rw [← hW0]; exact (Below.refl _ _).alloc (Nat.le_refl _) _
  have hr0 : Blk W0 w.heap.size 65 zl := by rw [← hW0]; exact Blk.new w _ zl rfl
  have h0 := h.keep hb0
  have cA := ask_two n h0.pm hn
  have e1 : (askR S n fun _ => 0) = opR S n := rfl
  rw [e1] at cA
  have hs0 : w.heap.size ≤ W0.heap.size := hb0.size
  cases hS : S n with
  | none =>
    have e2 : opR S n = 11 := by simp [opR, askR, hS]
    have e3 : stV S n = zl := by simp [stV, hS]
    rw [e2, e3]
    rw [e2] at cA
    replace cA := W_hid cA
    replace hb0 := W_hid hb0
    replace hr0 := W_hid hr0
    clear h h0 e1 e2 e3 hS
    go_enter Tryz.func39, Tryz.ntmps39
    go_wp2_with fail
    refine cA.out.mono ?_
    rintro e w1 ⟨rfl, b1⟩
    have hr1 := hr0.out.keep b1
    have f1 := hr1.fz
    have r0 := hr1.cell (j := 0) rfl
    have r1 := hr1.cell (j := 1) rfl
    have r2 := hr1.cell (j := 2) rfl
    have r3 := hr1.cell (j := 3) rfl
    have r4 := hr1.cell (j := 4) rfl
    have r5 := hr1.cell (j := 5) rfl
    have hfin := W_hid (six_blk hr1 0 0 0 0 0 0)
    have hbl := W_hid (six_below (hb0.out.trans (b1.mono hs0)) (Nat.le_refl _) 0 0 0 0 0 0)
    clear hr1 b1
    go_wp2_with fail
    exact bodyPost_ret (res_two rfl _ _ rfl hfin.out) rfl ⟨rfl, hbl.out⟩
  | some d =>
    have e2 : opR S n = 0 := by simp [opR, askR, hS]
    have e3 : stV S n = stl n d := by simp [stV, hS]
    rw [e2, e3]
    rw [e2] at cA
    have cS := W_hid (fun w' (hb : Below W0.heap.size W0 w') => stat_any n d w' (h0.keep hb).pm hn hS (h.fn.good n d hS).ok)
    replace cA := W_hid cA
    replace hb0 := W_hid hb0
    replace hr0 := W_hid hr0
    clear h h0 e1 e2 e3 hS
    go_enter Tryz.func39, Tryz.ntmps39
    go_wp2_with fail
    refine cA.out.mono ?_
    rintro e w1 ⟨rfl, b1⟩
    have cS1 := W_hid (cS.out w1 b1)
    have b1 := W_hid b1
    go_wp2_with fail
    refine cS1.out.mono ?_
    rintro e w2 ⟨rfl, b2⟩
    have b2 := b1.out.trans (b2.mono b1.out.size)
    have hr1 := hr0.out.keep b2
    have f1 := hr1.fz
    have r0 := hr1.cell (j := 0) rfl
    have r1 := hr1.cell (j := 1) rfl
    have r2 := hr1.cell (j := 2) rfl
    have r3 := hr1.cell (j := 3) rfl
    have r4 := hr1.cell (j := 4) rfl
    have r5 := hr1.cell (j := 5) rfl
    have hfin := W_hid (six_blk hr1 n d.kind d.links d.opens d.size (EM.cnt d.l : Int))
    have hbl := W_hid (six_below (hb0.out.trans (b2.mono hs0)) (Nat.le_refl _) n d.kind d.links d.opens d.size (EM.cnt d.l : Int))
    unfold stl
    clear hr1 b2 b1
    go_wp2_with fail
    exact bodyPost_ret (res_two rfl _ _ rfl hfin.out) rfl ⟨rfl, hbl.out⟩
end
/-! New. -/
def cap7 (a b c d e f g : Int) : Value := .agg #[.int .i64 a, .int .i64 b, .int .i64 c, .int .i64 d, .int .i64 e, .int .i64 f, .int .i64 g]
def Right (a b c : Int) : Prop := 1 ≤ a ∧ a ≤ 4096 ∧ 0 ≤ b ∧ b ≤ 16777216 ∧ 1 ≤ c ∧ c ≤ 32768
set_option maxRecDepth 100000 in
set_option maxHeartbeats 4000000 in
theorem New_yes (a b c d e f g : Int) (w : World) (hr : Right a b c) :
    Calls Tryz.prog 12 #[cap7 a b c d e f g] w fun r w' => ∃ sg mb M, r = .returned (.tuple #[.pointer (some ⟨sg, 0, none⟩), .int .i64 0]) ∧ PS w.heap.size w' sg mb M a.toNat c.toNat b.toNat 0 (fun _ => none) ∧ Below w.heap.size w w' := by
  have hmm := @run_makeMap Tryz.prog
  obtain ⟨h1, h2, h3, h4, h5, h6⟩ := hr
  unfold cap7
  go_enter Tryz.func12, Tryz.ntmps12
  go_wp2_with fail
  go_ret2
  have ht : tot (fun _ => none) a.toNat = 0 := by have := (Fine.empty a.toNat c.toNat 0).tot; omega
  refine ⟨_, _, fun _ => none, rfl, ⟨⟨?_, (IS.MB.new _).alloc _, fun _ => ⟨fun _ => rfl, fun _ => rfl⟩, fun _ _ _ h => (by cases h), fun _ _ _ h => (by cases h), ⟨by (try simp) <;> omega, by (try simp) <;> omega, fun _ _ h => by cases h⟩⟩, Fine.empty _ _ _, by omega⟩, ?_⟩
  · rw [ht, Int.toNat_of_nonneg h3, Int.toNat_of_nonneg (by omega : 0 ≤ a), Int.toNat_of_nonneg (by omega : 0 ≤ c)]
    simp only [Int.ofNat_zero, Int.sub_zero]
    have hsz : ∀ (o : Obj), (w.alloc o).heap.size = w.heap.size + 1 := fun o => by simp
    rw [hsz]
    exact Blk.new _ 86 [.map (some (w.heap.size + 1)), .int .i64 a, .int .i64 c, .int .i64 b] (by simp)
  · exact (((Below.refl _ w).alloc (Nat.le_refl _) _).alloc (by simp) _).alloc (by simp; omega) _
end IN
namespace IN
section
variable {base sg mb I L B k : Nat} {M : Int → Option Nat} {S : Int → Option Nd}
def mkR (I : Nat) (S : Int → Option Nd) (kd : Int) : Int := if kd = 1 ∨ kd = 2 then (if (lst S I).length < I then 0 else 21) else 2
set_option maxRecDepth 100000 in
theorem ask_make (kd : Int) (w : World) (h : PS base w sg mb M I L B k S) :
    Calls Tryz.prog 58 #[.int .i64 kd, .slice (some ⟨w.heap.size, 0, none⟩) 3 3] (w.alloc (.cells #[.func (.func 59) #[.pointer (some ⟨sg, 0, none⟩)] #[], .func (.func 82) #[] #[], .func (.func 83) #[.pointer (some ⟨sg, 0, none⟩)] #[]] 42)) fun e w' => e = .returned (.int .i64 (mkR I S kd)) ∧ Below w.heap.size w w' := by
  have hal := (Below.refl w.heap.size w).alloc (Nat.le_refl _) (.cells #[.func (.func 59) #[.pointer (some ⟨sg, 0, none⟩)] #[], .func (.func 82) #[] #[], .func (.func 83) #[.pointer (some ⟨sg, 0, none⟩)] #[]] 42)
  have hb : ∀ W, Below _ _ W → Below w.heap.size w W := fun W hW => hal.trans (hW.mono hal.size)
  refine (first_make (.pointer (some ⟨sg, 0, none⟩)) _ _ _ 0 (if kd = 1 ∨ kd = 2 then 0 else 2) (if ((ks S I).length : Int) < (I : Int) then 0 else 21) kd w.heap.size _ (chk_blk w [.func (.func 59) #[.pointer (some ⟨sg, 0, none⟩)] #[], .func (.func 82) #[] #[], .func (.func 83) #[.pointer (some ⟨sg, 0, none⟩)] #[]] _ rfl)
    (fun w => by kernel_rfl) (fun w => by kernel_rfl) (fun w => by kernel_rfl) (fun W hW => made_some _ W (h.keep (hb W hW)).pm) (fun W _ hW => isKind_any kd W) (fun W _ _ hW => room_any _ _ W (h.keep (hb W hW)).pm h.nums)).mono ?_
  rintro e w' ⟨rfl, hb'⟩
  refine ⟨?_, hb w' hb'⟩
  have hlen : ((ks S I).length : Int) < (I : Int) ↔ (lst S I).length < I := by rw [ks_len]; omega
  unfold mkR
  by_cases h1 : kd = 1 ∨ kd = 2
  · by_cases h2 : (lst S I).length < I
    · simp [fst, h1, h2, hlen]
    · simp [fst, h1, h2, hlen]
  · simp [fst, h1]
set_option maxRecDepth 100000 in
set_option maxHeartbeats 4000000 in
theorem Make_no (kd : Int) (w : World) (h : PS base w sg mb M I L B k S) (r : Int) (hr : mkR I S kd = r) (hr0 : r ≠ 0) :
    Calls Tryz.prog 37 #[.pointer (some ⟨sg, 0, none⟩), .int .i64 kd] w fun e w' => e = .returned (.tuple #[.int .i64 0, .int .i64 r]) ∧ Below w.heap.size w w' := by
  have hmf : ∀ (fn : Fn) (first cap : Array Value) (w : World), (Instr.makeFunc fn first cap).run Tryz.prog w = .ok (.func fn first cap) w := fun _ _ _ _ => rfl
  have cA := ask_make kd w h
  rw [hr] at cA
  replace cA := W_hid cA
  clear h hr
  go_enter Tryz.func37, Tryz.ntmps37
  go_wp2_with fail
  refine cA.out.mono ?_
  rintro e w1 ⟨rfl, b1⟩
  go_wp2_with fail
  go_ret2
  exact ⟨rfl, b1⟩
def newNd (kd : Int) : Nd := { kind := kd, links := 1, opens := 0, size := 0, l := [] }
theorem wpList_update_n {w : World} {ops : Array Oper} {rest : List Oper} {o : Oper} {a : Act} {Q : Exit → Act → World → Prop} (hg : o.guard = none) (m x v : Operand) (hop : o.op = Op.mapUpdate 84 m x v)
    (b : Nat) (f : Int) (g : Nat) (M : Int → Option Nat) (hm : a.eval m = .map (some b)) (hx : a.eval x = .int .i64 f) (hv : a.eval v = .pointer (some ⟨g, 0, none⟩)) (h : IS.MB w b M) (hf : 0 ≤ f ∧ f < 65536)
    (hK : ∀ w', IS.MB w' b (IS.upd M f (some g)) → w.grownBy w' (some b) → w'.heap.size = w.heap.size → wpList Tryz.prog ops Q rest (a.put o.dst undef) w') : wpList Tryz.prog ops Q (o :: rest) a w := by
  refine wpList_plain hg fun K' hK' => ?_
  obtain ⟨w', hrun, r1, r2, r3⟩ := h.put f g hf
  unfold Oper.wp
  simp [execOp, hop, hm, hx, hv, hrun, Result.andThen]
  exact hK' _ _ (hK w' r1 r2 r3)
set_option maxRecDepth 100000 in
set_option maxHeartbeats 4000000 in
theorem Make_yes (kd : Int) (n : Nat) (w : World) (h : PS base w sg mb M I L B k S) (hr : mkR I S kd = 0) (hlow : Low S n) (hnI : n ≤ I) (hL : 1 ≤ L) :
    Calls Tryz.prog 37 #[.pointer (some ⟨sg, 0, none⟩), .int .i64 kd] w fun e w' => e = .returned (.tuple #[.int .i64 (n : Int), .int .i64 0]) ∧ (∃ M', PS base w' sg mb M' I L B k (upd S (n : Int) (some (newNd kd)))) ∧ Keeps base (PT mb) w w' := by
  have hmf : ∀ (fn : Fn) (first cap : Array Value) (w : World), (Instr.makeFunc fn first cap).run Tryz.prog w = .ok (.func fn first cap) w := fun _ _ _ _ => rfl
  have cA := ask_make kd w h
  rw [hr] at cA
  replace cA := W_hid cA
  have hkd : kd = 1 ∨ kd = 2 := by
    unfold mkR at hr
    by_cases e : kd = 1 ∨ kd = 2
    · exact e
    · rw [if_neg e] at hr; cases hr
  have hI := h.lim.1
  have H := W_hid h
  have hn1 := hlow.1
  have hlow := W_hid hlow
  have hkd := W_hid hkd
  clear h hr
  go_enter Tryz.func37, Tryz.ntmps37
  go_wp2_with fail
  refine cA.out.mono ?_
  rintro e w1 ⟨rfl, b1⟩
  have h1 := H.out.keep b1
  have c0 := h1.pm.box.cell (j := 0) rfl
  have hlook := W_hid (fun f hf => h1.pm.mp.look f hf)
  have hsome : Hid (∀ m : Nat, 1 ≤ m → m < n → ∃ g, M (m : Int) = some g) := W_hid (fun m a b => by
    have := hlow.out.2.2 m a b
    have hd := h1.pm.dom (m : Int)
    cases e : M (m : Int) with
    | none => exact absurd (hd.1 e) this
    | some g => exact ⟨g, rfl⟩)
  have hnone : Hid (M (n : Int) = none) := W_hid ((h1.pm.dom _).2 hlow.out.2.1)
  have hlw := H.out.low
  have b1' := W_hid b1
  have h1 := W_hid h1
  clear b1 cA
  go_wp2_with fail
  go_loopw [7] (fun v wr => ∃ m : Nat, v = .int .i64 (m : Int) ∧ 1 ≤ m ∧ m ≤ n ∧ wr = w1) (fun v _ => n - (intOf v).toNat)
  case atStart => exact ⟨1, rfl, Nat.le_refl _, hn1, rfl⟩
  case round =>
    obtain ⟨m, rfl, hm1, hmn, rfl⟩ := hrel
    have hlk := hlook.out (m : Int) (IS.i64_nat (by omega))
    rcases Nat.lt_or_ge m n with hlt | hge
    · obtain ⟨g, hg⟩ := hsome.out m hm1 hlt
      rw [hg] at hlk
      simp only [IS.ptr] at hlk
      clear hg
      go_wp2_with fail
      go_roundw
      case rel => exact ⟨m + 1, by go_num, by omega, by omega, by first | trivial | rfl⟩
      case measure => simp [intOf]; omega
    · obtain rfl : m = n := by omega
      rw [hnone.out] at hlk
      simp only [IS.ptr] at hlk
      have hmb := W_hid (h1.out.pm.mp.alloc (.cells #[.int .i64 kd, .int .i64 1, .int .i64 0, .int .i64 0, .slice none 0 0] 155))
      have hbk := W_hid (h1.out.pm.alloc (.cells #[.int .i64 kd, .int .i64 1, .int .i64 0, .int .i64 0, .slice none 0 0] 155))
      have hnw := W_hid (Blk.new wr 155 (ncl (newNd kd) (.slice none 0 0)) rfl)
      have hgsz : ∀ x g, M x = some g → g < wr.heap.size := fun x g hx => h1.out.pm.glt hx
      have hgsz := W_hid hgsz
      go_wp2_with (first | (refine wpList_update_n rfl _ _ _ rfl mb (m : Int) wr.heap.size M rfl rfl rfl hmb.out (by omega) ?_; intro w2 hm2 hg2 hs2))
      have hu : ∀ x, IS.upd M (m : Int) (some wr.heap.size) x = none ↔ upd S (m : Int) (some (newNd kd)) x = none := fun x => by
        by_cases e : x = (m : Int)
        · subst e; rw [upd_at]; simp [IS.upd]
        · rw [upd_ne e]; unfold IS.upd; rw [if_neg e]; exact h1.out.pm.dom x
      obtain ⟨q1, q2⟩ := hbk.out.turn hm2 hg2 (upd S (m : Int) (some (newNd kd))) hu (fun x g' d' hM' hS' => by
        by_cases e : x = (m : Int)
        · subst e
          rw [upd_at] at hS'
          cases hS'
          unfold IS.upd at hM'
          rw [if_pos rfl] at hM'
          cases hM'
          exact .inr ⟨_, ⟨hnw.out, XE.nil _⟩, by have := b1'.out.size; omega⟩
        · rw [upd_ne e] at hS'
          unfold IS.upd at hM'
          rw [if_neg e] at hM'
          exact .inl ⟨hM', hS'⟩) (fun x y g' hA hB => by
        unfold IS.upd at hA hB
        split at hA
        · split at hB
          · omega
          · cases hA; have := hgsz.out _ _ hB; omega
        · split at hB
          · cases hB; have := hgsz.out _ _ hA; omega
          · exact h1.out.pm.inj x y g' hA hB)
      have ht := tot_upd S m I (some (newNd kd)) hm1 hnI
      rw [hlow.out.2.1] at ht
      simp only [cntOf, newNd, EM.cnt_nil] at ht
      have ht : tot (upd S (m : Int) (some (newNd kd))) I = tot S I := by simp only [newNd]; omega
      have q1 := W_hid q1
      have q2 := W_hid ((Keeps.new (T := PT mb) b1'.out hlw).trans (((Keeps.refl base (PT mb) wr).alloc (Nat.le_trans hlw b1'.out.size) _).trans q2))
      have ht := W_hid ht
      clear hm2 hg2 hu hs2
      go_wp2_with fail
      go_ret2
      have hf1 := h1.out.fn
      refine ⟨rfl, ⟨IS.upd M (m : Int) (some wr.heap.size), ?_, hf1.turn hm1 hnI (fun d hd => by
        cases hd
        exact ⟨hkd.out, by simp [newNd]; omega, by simp [newNd], by simp [newNd], by simp [newNd], rfl, by simp [newNd, ends], fun _ => ⟨rfl, rfl⟩⟩) (by have := hf1.tot; simp [cntOf, newNd, EM.cnt_nil]; omega), h1.out.lim⟩, q2.out⟩
      rw [ht.out]
      exact q1.out
end
end IN
namespace IN
/-! Where a list ends. -/
theorem nxt_ge : ∀ {b : Int} {l : List (Int × ByteArray)}, EM.ok b l = true → l ≠ [] → b ≤ EM.nxt b l - 1
  | _, [], _, h => absurd rfl h
  | b, x :: r, h, _ => by
    obtain ⟨h1, h2, h3, h4⟩ := EM.ok_cons.1 h
    have hf : EM.fin x = x.1 + x.2.size := rfl
    show b ≤ EM.nxt (EM.fin x + 1) r - 1
    cases r with
    | nil => show b ≤ EM.fin x + 1 - 1; omega
    | cons y r' => have := nxt_ge h4 (by simp); omega
theorem none_from : ∀ {b : Int} {l : List (Int × ByteArray)}, EM.ok b l = true → ∀ i, EM.nxt b l - 1 ≤ i → l ≠ [] → EM.cont l i = none
  | _, [], _, _, _, _ => rfl
  | b, x :: r, h, i, hi, _ => by
    obtain ⟨h1, h2, h3, h4⟩ := EM.ok_cons.1 h
    have hi' : EM.nxt (EM.fin x + 1) r - 1 ≤ i := hi
    show (EM.get x i).or (EM.cont r i) = none
    cases r with
    | nil =>
      have : EM.nxt (EM.fin x + 1) [] = EM.fin x + 1 := rfl
      rw [EM.get_none (.inr (by omega))]; rfl
    | cons y r' =>
      have h5 := nxt_ge h4 (by simp)
      rw [EM.get_none (.inr (by omega)), none_from h4 i hi' (by simp)]; rfl
theorem cnt_nxt : ∀ {b : Int} {l : List (Int × ByteArray)}, EM.ok b l = true → l ≠ [] → (EM.cnt l : Int) ≤ EM.nxt b l - 1 - b
  | _, [], _, h => absurd rfl h
  | b, x :: r, h, _ => by
    obtain ⟨h1, h2, h3, h4⟩ := EM.ok_cons.1 h
    have hf : EM.fin x = x.1 + x.2.size := rfl
    rw [EM.cnt_cons]
    show _ ≤ EM.nxt (EM.fin x + 1) r - 1 - b
    cases r with
    | nil => show _ ≤ EM.fin x + 1 - 1 - b; rw [EM.cnt_nil]; omega
    | cons y r' => have := cnt_nxt h4 (by simp); omega
theorem ends_eq {l : List (Int × ByteArray)} (h : l ≠ []) : ends l = EM.nxt 0 l - 1 := by
  cases l with
  | nil => exact absurd rfl h
  | cons x r => rfl
theorem cnt_ends {l : List (Int × ByteArray)} (h : EM.ok 0 l = true) : (EM.cnt l : Int) ≤ ends l := by
  by_cases e : l = []
  · subst e; exact Int.le_refl _
  · rw [ends_eq e]; have := cnt_nxt h e; omega
theorem none_ends {l : List (Int × ByteArray)} (h : EM.ok 0 l = true) (i : Int) (hi : ends l ≤ i) : EM.cont l i = none := by
  by_cases e : l = []
  · subst e; rfl
  · rw [ends_eq e] at hi; exact none_from h i hi e
theorem ends_le {l : List (Int × ByteArray)} (h : EM.ok 0 l = true) {b : Int} (hb : 0 ≤ b) (hc : ∀ i, b ≤ i → EM.cont l i = none) : ends l ≤ b := by
  rcases List.eq_nil_or_concat l with rfl | ⟨q, x, rfl⟩
  · exact hb
  · rw [List.concat_eq_append] at h hc ⊢
    have e : ends (q ++ [x]) = EM.fin x := by
      rw [ends_eq (by simp), EM.nxt_snoc]; omega
    rw [e]
    have h0 : 0 < x.2.size := EM.wk_pos (EM.ok_wk h) x (by simp)
    have hf : EM.fin x = x.1 + x.2.size := rfl
    rcases Int.lt_or_le b (EM.fin x) with hlt | hle
    · obtain ⟨c, hx⟩ := EM.get_some (x := x) (i := EM.fin x - 1) (by omega) (by omega)
      have h1 := hc (EM.fin x - 1) (by omega)
      rw [EM.cont_append, EM.cont_one, hx] at h1
      cases hq : EM.cont q (EM.fin x - 1) <;> rw [hq] at h1 <;> cases h1
    · exact hle
theorem cnt_part (lo hi : Int) : ∀ l : List (Int × ByteArray), EM.cnt (EM.part lo hi l) ≤ EM.cnt l
  | [] => Nat.le_refl _
  | x :: r => by
    have ih := cnt_part lo hi r
    rw [EM.cnt_cons]
    unfold EM.part at ih ⊢
    cases h : EM.piece lo hi x with
    | none => rw [List.filterMap_cons_none h]; omega
    | some y =>
      rw [List.filterMap_cons_some h, EM.cnt_cons]
      obtain ⟨h1, h2, h3⟩ := EM.piece_fin h
      have hf : EM.fin x = x.1 + x.2.size := rfl
      have hg : EM.fin y = y.1 + y.2.size := rfl
      omega
theorem ends_part {l : List (Int × ByteArray)} (h : EM.ok 0 l = true) {s : Int} (hs : 0 ≤ s) : EM.ok 0 (EM.part 0 s l) = true ∧ ends (EM.part 0 s l) ≤ s :=
  ⟨EM.ok_part h 0 s (Int.le_refl _), ends_le (EM.ok_part h 0 s (Int.le_refl _)) hs fun i hi => by rw [EM.cont_part, if_neg (by omega)]⟩
theorem ends_wr {l : List (Int × ByteArray)} (h : EM.ok 0 l = true) {f : Int} {d : ByteArray} (hf : 0 ≤ f) (hd : f + d.size ≤ 1048576) {s : Int} (hs : ends l ≤ s) (h0 : 0 ≤ s) :
    EM.ok 0 (EM.wr l f d) = true ∧ ends (EM.wr l f d) ≤ if d.size = 0 then s else max s (f + d.size) := by
  refine ⟨EM.wr_ok h hf hd, ?_⟩
  by_cases e : d.size = 0
  · rw [if_pos e, EM.wr_nil h e]; exact hs
  · rw [if_neg e]
    exact ends_le (EM.wr_ok h hf hd) (by omega) fun i hi => by
      rw [EM.wr_cont h hf hd, if_neg (by omega)]
      exact none_ends h i (by omega)
/-! Read. -/
def rdErr (S : Int → Option Nd) (n f m : Int) : Int := askR S n fun d => if d.kind = 1 then rdE d.l d.size f m else 14
def rdRes (S : Int → Option Nd) (n f m : Int) : ByteArray := match S n with
  | none => ⟨#[]⟩
  | some d => if d.kind = 1 then strOf (rdV d.l d.size f m) else ⟨#[]⟩
section
variable {base sg mb I L B k : Nat} {M : Int → Option Nat} {S : Int → Option Nd}
theorem ask_file {w : World} (n : Int) {I L left : Int} (h : PM base w sg mb M I L left S) (hn : IS.I64 n) :
    Calls Tryz.prog 58 #[.int .i64 n, .slice (some ⟨w.heap.size, 0, none⟩) 3 3] (w.alloc (.cells #[.func (.func 59) #[.pointer (some ⟨sg, 0, none⟩)] #[], .func (.func 84) #[.pointer (some ⟨sg, 0, none⟩)] #[], .func (.func 119) #[.pointer (some ⟨sg, 0, none⟩)] #[]] 42)) fun e w' => e = .returned (.int .i64 (askR S n fun d => if d.kind = 1 then 0 else 14)) ∧ Below w.heap.size w w' :=
  ask_three 119 (fun d => if d.kind = 1 then 0 else 14) n h hn (fun w => by kernel_rfl) (fun d hS W hW => file_any n d W (h.keep hW) hn hS)
set_option maxRecDepth 100000 in
set_option maxHeartbeats 4000000 in
theorem Read_yes (n f m : Int) (d : Nd) (w : World) (h : PS base w sg mb M I L B k S) (hn : IS.I64 n) (hf : I64 f) (hm : I64 m) (hS : S n = some d) (hk : d.kind = 1) :
    Calls Tryz.prog 79 #[.pointer (some ⟨sg, 0, none⟩), .int .i64 n, .int .i64 f, .int .i64 m] w fun e w' => e = .returned (.tuple #[.string (strOf (rdV d.l d.size f m)), .int .i64 (rdE d.l d.size f m)]) ∧ Below w.heap.size w w' := by
  have hmf : ∀ (fn : Fn) (first cap : Array Value) (w : World), (Instr.makeFunc fn first cap).run Tryz.prog w = .ok (.func fn first cap) w := fun _ _ _ _ => rfl
  have cA := ask_file n h.pm hn
  have hr : (askR S n fun d => if d.kind = 1 then (0 : Int) else 14) = 0 := by simp [askR, hS, hk]
  rw [hr] at cA
  have cA := W_hid cA
  have H := W_hid h
  have hS := W_hid hS
  clear h hr
  go_enter Tryz.func79, Tryz.ntmps79
  go_wp2_with fail
  refine cA.out.mono ?_
  rintro e w1 ⟨rfl, b1⟩
  have h1 := H.out.keep b1
  have c0 := h1.pm.box.cell (j := 0) rfl
  have hlk := h1.pm.mp.look n hn
  obtain ⟨g, v, hM, hN, hge, hgs, hgm⟩ := h1.pm.has hS.out
  rw [hM] at hlk
  simp only [IS.ptr] at hlk
  have hg := h1.fn.good n d hS.out
  obtain ⟨ao, nn, cc, rfl, hx1, -⟩ := hN.2
  have hb1 := W_hid b1
  have cR := W_hid (Read_any ao nn cc d.l d.size f m w1.drew hx1 (ok_fit (Int.le_refl _) hg.ok) ⟨by have := hg.size; omega, by have := hg.size; omega⟩ hf hm)
  have hNN := W_hid (show Blk w1.drew g 155 (ncl d (.slice ao nn cc)) from hN.1)
  have hN1 := W_hid (fun w' (hb : Below w1.heap.size w1 w') => hN.1.keep hb)
  clear h1 hN hM b1 hx1 hg
  go_wp2_with fail
  refine wp_region_held_drew (S := (fun w' => Blk w' g 155 (ncl d (.slice ao nn cc)))) (by kernel_rfl) hNN.out (fun hHeld => ?_)
  refine wpAnyH_take (i := 0) (v := .pointer (some ⟨g, 0, none⟩)) rfl (by kernel_rfl) (by kernel_rfl) (by kernel_rfl) (fun _ _ _ h => h) (Or.inl ⟨by rfl, fun w0 s1 => ?_⟩) hHeld ?_
  · go_simp
  try simp only [Act.put, List.setIfInBounds_toArray, List.set_cons_zero, List.set_cons_succ, List.getElem_toArray, List.getElem_cons_zero, List.getElem_cons_succ]
  refine wpAnyH_take (i := 1) (v := .pointer (some ⟨g, 0, none⟩)) rfl (by kernel_rfl) (by kernel_rfl) (by kernel_rfl) (fun _ _ _ h => h) (Or.inl ⟨by rfl, fun w0 s1 => ?_⟩) hHeld ?_
  · go_simp
  try simp only [Act.put, List.setIfInBounds_toArray, List.set_cons_zero, List.set_cons_succ, List.getElem_toArray, List.getElem_cons_zero, List.getElem_cons_succ]
  refine wpAnyH_take (i := 2) (v := .pointer (some ⟨g, 4, none⟩)) rfl (by kernel_rfl) (by kernel_rfl) (by kernel_rfl) (fun _ _ _ h => h) (Or.inl ⟨by rfl, fun w0 s1 => ?_⟩) hHeld ?_
  · go_simp
  try simp only [Act.put, List.setIfInBounds_toArray, List.set_cons_zero, List.set_cons_succ, List.getElem_toArray, List.getElem_cons_zero, List.getElem_cons_succ]
  refine wpAnyH_take (i := 3) (v := .slice ao nn cc) rfl (by kernel_rfl) (by kernel_rfl) (by kernel_rfl) (fun _ _ _ h => h) (Or.inl ⟨by rfl, fun w0 s1 => ?_⟩) hHeld ?_
  · (have q := Blk.cell (j := 4) s1 rfl; go_simp)
  try simp only [Act.put, List.setIfInBounds_toArray, List.set_cons_zero, List.set_cons_succ, List.getElem_toArray, List.getElem_cons_zero, List.getElem_cons_succ]
  refine wpAnyH_take (i := 4) (v := .pointer (some ⟨g, 0, none⟩)) rfl (by kernel_rfl) (by kernel_rfl) (by kernel_rfl) (fun _ _ _ h => h) (Or.inl ⟨by rfl, fun w0 s1 => ?_⟩) hHeld ?_
  · go_simp
  try simp only [Act.put, List.setIfInBounds_toArray, List.set_cons_zero, List.set_cons_succ, List.getElem_toArray, List.getElem_cons_zero, List.getElem_cons_succ]
  refine wpAnyH_take (i := 5) (v := .pointer (some ⟨g, 0, none⟩)) rfl (by kernel_rfl) (by kernel_rfl) (by kernel_rfl) (fun _ _ _ h => h) (Or.inl ⟨by rfl, fun w0 s1 => ?_⟩) hHeld ?_
  · go_simp
  try simp only [Act.put, List.setIfInBounds_toArray, List.set_cons_zero, List.set_cons_succ, List.getElem_toArray, List.getElem_cons_zero, List.getElem_cons_succ]
  refine wpAnyH_take (i := 6) (v := .pointer (some ⟨g, 3, none⟩)) rfl (by kernel_rfl) (by kernel_rfl) (by kernel_rfl) (fun _ _ _ h => h) (Or.inl ⟨by rfl, fun w0 s1 => ?_⟩) hHeld ?_
  · go_simp
  try simp only [Act.put, List.setIfInBounds_toArray, List.set_cons_zero, List.set_cons_succ, List.getElem_toArray, List.getElem_cons_zero, List.getElem_cons_succ]
  refine wpAnyH_take (i := 7) (v := .int .i64 d.size) rfl (by kernel_rfl) (by kernel_rfl) (by kernel_rfl) (fun _ _ _ h => h) (Or.inl ⟨by rfl, fun w0 s1 => ?_⟩) hHeld ?_
  · (have q := Blk.cell (j := 3) s1 rfl; go_simp)
  try simp only [Act.put, List.setIfInBounds_toArray, List.set_cons_zero, List.set_cons_succ, List.getElem_toArray, List.getElem_cons_zero, List.getElem_cons_succ]
  refine wpAnyH_take (i := 8) (v := .int .i64 f) rfl (by kernel_rfl) (by kernel_rfl) (by kernel_rfl) (fun _ _ _ h => h) (Or.inl ⟨by rfl, fun w0 s1 => ?_⟩) hHeld ?_
  · go_simp
  try simp only [Act.put, List.setIfInBounds_toArray, List.set_cons_zero, List.set_cons_succ, List.getElem_toArray, List.getElem_cons_zero, List.getElem_cons_succ]
  refine wpAnyH_take (i := 9) (v := .int .i64 m) rfl (by kernel_rfl) (by kernel_rfl) (by kernel_rfl) (fun _ _ _ h => h) (Or.inl ⟨by rfl, fun w0 s1 => ?_⟩) hHeld ?_
  · go_simp
  try simp only [Act.put, List.setIfInBounds_toArray, List.set_cons_zero, List.set_cons_succ, List.getElem_toArray, List.getElem_cons_zero, List.getElem_cons_succ]
  refine wpAnyH_ready (rs := [10]) (by kernel_rfl) (by simp) ?_
  refine AllReadyH.cons rfl (fun K hK => ?_) AllReadyH.nil
  go_simp
  refine cR.out.mono ?_
  rintro e w2 ⟨rfl, hb2⟩
  have hN2 := hN1.out w2 (Own.bundrew hb2)
  refine hK.out _ _ hN2 (fun hHeld1 => ?_)
  clear hK K
  try simp only [Act.put, List.setIfInBounds_toArray, List.set_cons_zero, List.set_cons_succ, List.getElem_toArray, List.getElem_cons_zero, List.getElem_cons_succ]
  refine wpAnyH_take (i := 11) (v := .string (strOf (rdV d.l d.size f m))) rfl (by kernel_rfl) (by kernel_rfl) (by kernel_rfl) (fun _ _ _ h => h) (Or.inl ⟨by rfl, fun w0 s1 => ?_⟩) hHeld1 ?_
  · go_simp
  try simp only [Act.put, List.setIfInBounds_toArray, List.set_cons_zero, List.set_cons_succ, List.getElem_toArray, List.getElem_cons_zero, List.getElem_cons_succ]
  refine wpAnyH_take (i := 12) (v := .int .i64 (rdE d.l d.size f m)) rfl (by kernel_rfl) (by kernel_rfl) (by kernel_rfl) (fun _ _ _ h => h) (Or.inl ⟨by rfl, fun w0 s1 => ?_⟩) hHeld1 ?_
  · go_simp
  try simp only [Act.put, List.setIfInBounds_toArray, List.set_cons_zero, List.set_cons_succ, List.getElem_toArray, List.getElem_cons_zero, List.getElem_cons_succ]
  refine wpAnyH_take (i := 13) (v := .string (strOf (rdV d.l d.size f m))) rfl (by kernel_rfl) (by kernel_rfl) (by kernel_rfl) (fun _ _ _ h => h) (Or.inl ⟨by rfl, fun w0 s1 => ?_⟩) hHeld1 ?_
  · go_simp
  try simp only [Act.put, List.setIfInBounds_toArray, List.set_cons_zero, List.set_cons_succ, List.getElem_toArray, List.getElem_cons_zero, List.getElem_cons_succ]
  refine wpAnyH_take (i := 14) (v := .int .i64 (rdE d.l d.size f m)) rfl (by kernel_rfl) (by kernel_rfl) (by kernel_rfl) (fun _ _ _ h => h) (Or.inl ⟨by rfl, fun w0 s1 => ?_⟩) hHeld1 ?_
  · go_simp
  try simp only [Act.put, List.setIfInBounds_toArray, List.set_cons_zero, List.set_cons_succ, List.getElem_toArray, List.getElem_cons_zero, List.getElem_cons_succ]
  refine wpAnyH_done (by kernel_rfl) ?_ _
  go_wp2_with fail
  go_ret2
  exact ⟨rfl, hb1.out.trans ((Own.bundrew hb2).mono hb1.out.size)⟩
end
end IN
namespace IN
def wNd (d : Nd) (f : Int) (s : ByteArray) : Nd := { d with l := EM.wr d.l f s, size := if s.size = 0 then d.size else max d.size (f + s.size) }
def wrErr (I B : Nat) (S : Int → Option Nd) (n f : Int) (s : ByteArray) : Int := askR S n fun d => if d.kind = 1 then (if wrE d.l f s = 0 then (if tot S I + EM.cnt (EM.wr d.l f s) ≤ B + EM.cnt d.l then 0 else 21) else wrE d.l f s) else 14
def wrS (I B : Nat) (S : Int → Option Nd) (n f : Int) (s : ByteArray) : Int → Option Nd := match S n with
  | none => S
  | some d => if d.kind = 1 ∧ wrE d.l f s = 0 ∧ tot S I + EM.cnt (EM.wr d.l f s) ≤ B + EM.cnt d.l then upd S n (some (wNd d f s)) else S
def tNd (d : Nd) (s : Int) : Nd := { d with l := EM.part 0 s d.l, size := s }
def tErr (S : Int → Option Nd) (n s : Int) : Int := askR S n fun d => if d.kind = 1 then (if s < 0 then 2 else if 1048576 < s then 28 else 0) else 14
def tS (S : Int → Option Nd) (n s : Int) : Int → Option Nd := match S n with
  | none => S
  | some d => if d.kind = 1 ∧ 0 ≤ s ∧ s ≤ 1048576 then upd S n (some (tNd d s)) else S
section
variable {base sg mb I L B k : Nat} {M : Int → Option Nat} {S : Int → Option Nd}
theorem turn_left {n : Int} {d d' : Nd} (hf : Fine I L B k S) (hS : S n = some d) (hg : Good L k d') (ht : (EM.cnt d'.l : Int) - (EM.cnt d.l : Int) ≤ (B : Int) - (tot S I : Int)) :
    Fine I L B k (upd S n (some d')) ∧ (B : Int) - (tot S I : Int) - ((EM.cnt d'.l : Int) - (EM.cnt d.l : Int)) = (B : Int) - (tot (upd S n (some d')) I : Int) := by
  have hb := hf.num n (by rw [hS]; simp)
  obtain ⟨m, rfl⟩ : ∃ m : Nat, n = m := ⟨n.toNat, by omega⟩
  have h := tot_upd S m I (some d') (by omega) (by omega)
  rw [hS] at h
  simp only [cntOf] at h
  have h2 := tot_ge S m I (by omega) (by omega)
  rw [hS] at h2
  simp only [cntOf] at h2
  exact ⟨hf.turn (by omega) (by omega) (fun x hx => by cases hx; exact hg) (by rw [hS]; simp only [cntOf]; omega), by omega⟩
theorem wr_good {d : Nd} {f : Int} {s : ByteArray} (hg : Good L k d) (hk : d.kind = 1) (he : wrE d.l f s = 0) : Good L k (wNd d f s) ∧ wrL d.l f s = EM.wr d.l f s ∧ EM.ok 0 (EM.wr d.l f s) = true ∧ 0 ≤ f ∧ f + s.size ≤ 1048576 := by
  have h0 : 0 ≤ f ∧ f + s.size ≤ 1048576 := by
    unfold wrE at he
    split at he
    · rename_i h
      split at he
      · exact ⟨h.2, by assumption⟩
      · cases he
    · cases he
  obtain ⟨h1, h2⟩ := ends_wr hg.ok (d := s) h0.1 h0.2 hg.fin hg.size.1
  refine ⟨⟨hg.kind, hg.links, hg.opens, hg.some, ?_, h1, h2, fun h => ?_⟩, by unfold wrL; rw [if_pos he], h1, h0⟩
  · have := hg.size
    show 0 ≤ (if s.size = 0 then d.size else max d.size (f + s.size)) ∧ (if s.size = 0 then d.size else max d.size (f + s.size)) ≤ 1048576
    split <;> omega
  · have e : d.kind = 2 := h
    rw [hk] at e; cases e
theorem t_good {d : Nd} {s : Int} (hg : Good L k d) (hk : d.kind = 1) (h0 : 0 ≤ s) (h1 : s ≤ 1048576) : Good L k (tNd d s) ∧ ctL d.l s = EM.part 0 s d.l ∧ EM.ok 0 (EM.part 0 s d.l) = true := by
  obtain ⟨h2, h3⟩ := ends_part hg.ok h0
  exact ⟨⟨hg.kind, hg.links, hg.opens, hg.some, ⟨h0, h1⟩, h2, h3, fun h => by
    have e : d.kind = 2 := h
    rw [hk] at e; cases e⟩, by unfold ctL; rw [if_pos ⟨hg.ok, h0⟩], h2⟩
set_option maxRecDepth 100000 in
set_option maxHeartbeats 8000000 in
theorem Write_any (n f : Int) (s : ByteArray) (w : World) (h : PS base w sg mb M I L B k S) (hn : IS.I64 n) (hf : I64 f) (hs : s.size ≤ maxLen) :
    Calls Tryz.prog 73 #[.pointer (some ⟨sg, 0, none⟩), .int .i64 n, .int .i64 f, .string s] w (Out base sg mb I L B k w (wrErr I B S n f s) (wrS I B S n f s)) := by
  have hmf : ∀ (fn : Fn) (first cap : Array Value) (w : World), (Instr.makeFunc fn first cap).run Tryz.prog w = .ok (.func fn first cap) w := fun _ _ _ _ => rfl
  have cA := ask_file n h.pm hn
  by_cases hno : ∃ d, S n = some d ∧ d.kind = 1
  · obtain ⟨d, hS, hk⟩ := hno
    have hr : (askR S n fun d => if d.kind = 1 then (0 : Int) else 14) = 0 := by simp [askR, hS, hk]
    rw [hr] at cA
    have cA := W_hid cA
    have H := W_hid h
    have hg := h.fn.good n d hS
    have hlow := W_hid h.low
    obtain ⟨E, hE⟩ : ∃ E, wrE d.l f s = E := ⟨_, rfl⟩
    have hSS : ∀ x, wrErr I B S n f s = x ↔ (if E = 0 then (if tot S I + EM.cnt (EM.wr d.l f s) ≤ B + EM.cnt d.l then (0 : Int) else 21) else E) = x := fun x => by unfold wrErr askR; rw [hS]; simp [hk, hE]
    have hSt : wrS I B S n f s = if E = 0 ∧ tot S I + EM.cnt (EM.wr d.l f s) ≤ B + EM.cnt d.l then upd S n (some (wNd d f s)) else S := by unfold wrS; rw [hS]; simp [hk, hE]
    replace hS := W_hid hS
    replace hSS := W_hid hSS
    replace hSt := W_hid hSt
    have hG := W_hid hg
    have hwg := W_hid (fun he => wr_good (s := s) (f := f) hg hk he)
    replace hE := W_hid hE
    clear h hr hg
    go_enter Tryz.func73, Tryz.ntmps73
    go_wp2_with fail
    refine cA.out.mono ?_
    rintro e w1 ⟨rfl, b1⟩
    have h1 := H.out.keep b1
    have c0 := h1.pm.box.cell (j := 0) rfl
    have hlk := h1.pm.mp.look n hn
    obtain ⟨g, v, hM, hN, hge, hgs, hgm⟩ := h1.pm.has hS.out
    rw [hM] at hlk
    simp only [IS.ptr] at hlk
    obtain ⟨ao, nn, cc, rfl, hx1, -⟩ := hN.2
    have d4 := hN.1.cell (j := 4) rfl
    have cW := Go.Proofs.YtfhidjkhmjdioaaGreat.Write_any ao nn cc d.l f s w1 hx1 (ok_fit (Int.le_refl _) hG.out.ok) hf hs
    rw [hE.out] at cW
    have hb1 := W_hid b1
    have cW := W_hid cW
    have hM := W_hid hM
    have hN := W_hid hN
    have h1 := W_hid h1
    clear b1 hx1
    go_wp2_with fail
    refine cW.out.mono ?_
    rintro e w2 ⟨v2, rfl, ho2, b2⟩
    have b2' := W_hid (hb1.out.trans (b2.mono hb1.out.size))
    by_cases he : E = 0
    · obtain ⟨hGw, hL2, hok2, hf0, hf1⟩ := hwg.out (hE.out.trans he)
      subst he
      rw [hL2] at ho2
      have hX2 := XE.own ho2
      have h2 := h1.out.keep b2
      have hN2 : NB w2 g d (.slice ao nn cc) := ⟨hN.out.1.keep b2, hN.out.2.keep b2⟩
      have htot := h2.fn.tot
      have hlim := h2.lim
      have cR := W_hid (replace_any n g d _ v2 (EM.wr d.l f s) w2 h2.pm hM.out hS.out hN2 hX2 hG.out.ok hok2 ⟨by omega, by omega⟩)
      obtain ⟨ao2, nn2, cc2, rfl, -, -⟩ := hX2
      have h2 := W_hid h2
      have hGw := W_hid hGw
      clear ho2 b2 hN2 hL2 hok2 htot hlim cW cA
      go_wp2_with fail
      refine cR.out.mono ?_
      rintro e w3 (⟨q1, rfl, b3⟩ | ⟨q1, rfl, q2, q3, q4⟩)
      · have hbad : ¬ (tot S I + EM.cnt (EM.wr d.l f s) ≤ B + EM.cnt d.l) := by omega
        have e1 : wrErr I B S n f s = 21 := (hSS.out _).2 (by simp [hbad])
        have e2 : wrS I B S n f s = S := by rw [hSt.out]; simp [hbad]
        have e1 := W_hid e1
        have e2 := W_hid e2
        have b3 := W_hid (b2'.out.trans (b3.mono b2'.out.size))
        clear q1 hbad cR
        go_wp2_with fail
        go_ret
        rw [e1.out, e2.out]
        exact Out.same H.out (Nat.le_refl _) b3.out 21
      · have hgood : tot S I + EM.cnt (EM.wr d.l f s) ≤ B + EM.cnt d.l := by omega
        have e1 : wrErr I B S n f s = 0 := (hSS.out _).2 (by simp [hgood])
        have e2 : wrS I B S n f s = upd S n (some (wNd d f s)) := by rw [hSt.out]; simp [hgood]
        have e1 := W_hid e1
        have e2 := W_hid e2
        obtain ⟨t1, t2⟩ := turn_left (d' := wNd d f s) h2.out.fn hS.out hGw.out q1
        have K0 := W_hid ((Keeps.new (T := PT mb) b2'.out hlow.out).trans q4)
        have t1 := W_hid t1
        have hlim := W_hid h2.out.lim
        have t2' : (B : Int) - (tot S I : Int) - ((EM.cnt (EM.wr d.l f s) : Int) - (EM.cnt d.l : Int)) = (B : Int) - (tot (upd S n (some (wNd d f s))) I : Int) := t2
        rw [t2'] at q2
        clear q1 hgood cR t2 t2' q4 h2 h1
        by_cases hz : s.size = 0
        · obtain ⟨z1, z2⟩ := xempty hz
          have ew : wNd d f s = { d with l := EM.wr d.l f s } := by unfold wNd; rw [if_pos hz]
          have ez : s = ⟨#[]⟩ := EM.ba_inj (List.eq_nil_of_length_eq_zero (by rw [EM.list_size]; exact hz))
          rw [ew] at t1 q2 e2
          replace q2 := W_hid q2
          replace q3 := W_hid q3
          replace ez := W_hid ez
          clear ew
          go_wp2_with fail
          go_ret
          rw [e1.out, e2.out]
          exact ⟨rfl, ⟨M, q2.out, t1.out, hlim.out⟩, K0.out⟩
        · obtain ⟨z1, z2⟩ := xfull hz
          obtain ⟨mx, hmx⟩ : ∃ mx, (if d.size < f + (s.size : Int) then f + (s.size : Int) else d.size) = mx := ⟨_, rfl⟩
          have hmax : max d.size (f + (s.size : Int)) = mx := by rw [← hmx]; split <;> omega
          have ew : wNd d f s = { d with l := EM.wr d.l f s, size := mx } := by unfold wNd; rw [if_neg hz, hmax]
          have hw : IntKind.i64.wrap (f + (s.size : Int)) = f + (s.size : Int) := by rw [IntKind.wrap_i64]; omega
          have f3 := q3.1.fz
          have d3 := q3.1.cell (j := 3) rfl
          obtain ⟨r1, r2, r3⟩ := q2.setNode (n := n) (d' := { d with l := EM.wr d.l f s, size := mx }) (v' := .slice ao2 nn2 cc2) hM.out (upd_at _ _ _) q3.1 q3.2 3 (.int .i64 mx) rfl
          rw [upd_upd] at r1
          rw [ew] at t1 r1 e2
          replace r1 := W_hid r1
          have K1 := W_hid (K0.out.trans r3)
          clear q2 q3 r2 r3 ew hmax
          go_wp2_with fail
          go_ret
          rw [e1.out, e2.out]
          exact ⟨rfl, ⟨M, r1.out, t1.out, hlim.out⟩, K1.out⟩
    · have e1 : wrErr I B S n f s = E := (hSS.out _).2 (by rw [if_neg he])
      have e2 : wrS I B S n f s = S := by rw [hSt.out, if_neg (fun h => he h.1)]
      have e1 := W_hid e1
      have e2 := W_hid e2
      clear cW cA b2
      obtain ⟨ao2, c2, rfl⟩ := Own.form ho2
      clear ho2
      go_wp2_with fail
      go_ret
      rw [e1.out, e2.out]
      exact Out.same H.out (Nat.le_refl _) b2'.out E
  · have hr : ∃ r, r ≠ 0 ∧ (askR S n fun d => if d.kind = 1 then (0 : Int) else 14) = r ∧ wrErr I B S n f s = r ∧ wrS I B S n f s = S := by
      cases hS : S n with
      | none => exact ⟨11, by decide, by simp [askR, hS], by simp [wrErr, askR, hS], by simp [wrS, hS]⟩
      | some d =>
        have hk : ¬ d.kind = 1 := fun e => hno ⟨d, hS, e⟩
        exact ⟨14, by decide, by simp [askR, hS, hk], by simp [wrErr, askR, hS, hk], by simp [wrS, hS, hk]⟩
    obtain ⟨r, hr0, hr1, hr2, hr3⟩ := hr
    rw [hr2, hr3]
    rw [hr1] at cA
    have cA := W_hid cA
    have H := W_hid h
    clear h hr1 hr2 hr3 hno
    go_enter Tryz.func73, Tryz.ntmps73
    go_wp2_with fail
    refine cA.out.mono ?_
    rintro e w1 ⟨rfl, b1⟩
    go_wp2_with fail
    go_ret
    exact Out.same H.out (Nat.le_refl _) b1 r
set_option maxRecDepth 100000 in
set_option maxHeartbeats 8000000 in
theorem Trunc_any (n s : Int) (w : World) (h : PS base w sg mb M I L B k S) (hn : IS.I64 n) (hs : I64 s) :
    Calls Tryz.prog 81 #[.pointer (some ⟨sg, 0, none⟩), .int .i64 n, .int .i64 s] w (Out base sg mb I L B k w (tErr S n s) (tS S n s)) := by
  have hmf : ∀ (fn : Fn) (first cap : Array Value) (w : World), (Instr.makeFunc fn first cap).run Tryz.prog w = .ok (.func fn first cap) w := fun _ _ _ _ => rfl
  have cA := ask_file n h.pm hn
  by_cases hno : ∃ d, S n = some d ∧ d.kind = 1
  · obtain ⟨d, hS, hk⟩ := hno
    have hr : (askR S n fun d => if d.kind = 1 then (0 : Int) else 14) = 0 := by simp [askR, hS, hk]
    rw [hr] at cA
    have cA := W_hid cA
    have H := W_hid h
    have hg := h.fn.good n d hS
    have hlow := W_hid h.low
    have hSS : tErr S n s = if s < 0 then 2 else if 1048576 < s then 28 else 0 := by unfold tErr askR; rw [hS]; simp [hk]
    have hSt : tS S n s = if 0 ≤ s ∧ s ≤ 1048576 then upd S n (some (tNd d s)) else S := by unfold tS; rw [hS]; simp [hk]
    replace hS := W_hid hS
    replace hSS := W_hid hSS
    replace hSt := W_hid hSt
    have hG := W_hid hg
    have hwg := W_hid (fun h0 h1 => t_good (s := s) hg hk h0 h1)
    clear h hr hg
    by_cases hs0 : s < 0
    · have e1 : Hid (tErr S n s = 2) := W_hid (by rw [hSS.out, if_pos hs0])
      have e2 : Hid (tS S n s = S) := W_hid (by rw [hSt.out, if_neg (by omega)])
      go_enter Tryz.func81, Tryz.ntmps81
      go_wp2_with fail
      refine cA.out.mono ?_
      rintro e w1 ⟨rfl, b1⟩
      go_wp2_with fail
      go_ret
      rw [e1.out, e2.out]
      exact Out.same H.out (Nat.le_refl _) b1 2
    · by_cases hs1 : 1048576 < s
      · have e1 : Hid (tErr S n s = 28) := W_hid (by rw [hSS.out, if_neg hs0, if_pos hs1])
        have e2 : Hid (tS S n s = S) := W_hid (by rw [hSt.out, if_neg (by omega)])
        go_enter Tryz.func81, Tryz.ntmps81
        go_wp2_with fail
        refine cA.out.mono ?_
        rintro e w1 ⟨rfl, b1⟩
        go_wp2_with fail
        go_ret
        rw [e1.out, e2.out]
        exact Out.same H.out (Nat.le_refl _) b1 28
      · have e1 : Hid (tErr S n s = 0) := W_hid (by rw [hSS.out, if_neg hs0, if_neg hs1])
        have e2 : Hid (tS S n s = upd S n (some (tNd d s))) := W_hid (by rw [hSt.out, if_pos (by omega)])
        obtain ⟨hGw, hL2, hok2⟩ := hwg.out (by omega) (by omega)
        go_enter Tryz.func81, Tryz.ntmps81
        go_wp2_with fail
        refine cA.out.mono ?_
        rintro e w1 ⟨rfl, b1⟩
        have h1 := H.out.keep b1
        have c0 := h1.pm.box.cell (j := 0) rfl
        have hlk := h1.pm.mp.look n hn
        obtain ⟨g, v, hM, hN, hge, hgs, hgm⟩ := h1.pm.has hS.out
        rw [hM] at hlk
        simp only [IS.ptr] at hlk
        obtain ⟨ao, nn, cc, rfl, hx1, -⟩ := hN.2
        have d4 := hN.1.cell (j := 4) rfl
        have cW := Cut_any ao nn cc d.l s w1 hx1 (ok_fit (Int.le_refl _) hG.out.ok) hs
        rw [hL2] at cW
        have hb1 := W_hid b1
        have cW := W_hid cW
        have hM := W_hid hM
        have hN := W_hid hN
        have h1 := W_hid h1
        clear b1 hx1 hL2
        go_wp2_with fail
        refine cW.out.mono ?_
        rintro e w2 ⟨v2, rfl, ho2, b2⟩
        have b2' := W_hid (hb1.out.trans (b2.mono hb1.out.size))
        have hX2 := XE.own ho2
        have h2 := h1.out.keep b2
        have hN2 : NB w2 g d (.slice ao nn cc) := ⟨hN.out.1.keep b2, hN.out.2.keep b2⟩
        have htot := h2.fn.tot
        have hlim := h2.lim
        have hcp := cnt_part 0 s d.l
        have hle : Hid ((EM.cnt (EM.part 0 s d.l) : Int) - (EM.cnt d.l : Int) ≤ (B : Int) - (tot S I : Int)) := W_hid (by omega)
        have cR := W_hid (replace_any n g d _ v2 (EM.part 0 s d.l) w2 h2.pm hM.out hS.out hN2 hX2 hG.out.ok hok2 ⟨by omega, by omega⟩)
        obtain ⟨ao2, nn2, cc2, rfl, -, -⟩ := hX2
        have h2 := W_hid h2
        have hGw := W_hid hGw
        clear ho2 b2 hN2 hok2 htot hlim cW cA hcp
        go_wp2_with fail
        refine cR.out.mono ?_
        rintro e w3 (⟨q1, rfl, b3⟩ | ⟨q1, rfl, q2, q3, q4⟩)
        · have := hle.out; omega
        · obtain ⟨t1, t2⟩ := turn_left (d' := tNd d s) h2.out.fn hS.out hGw.out hle.out
          have K0 := W_hid ((Keeps.new (T := PT mb) b2'.out hlow.out).trans q4)
          have t1 := W_hid t1
          have hlim := W_hid h2.out.lim
          have t2' : (B : Int) - (tot S I : Int) - ((EM.cnt (EM.part 0 s d.l) : Int) - (EM.cnt d.l : Int)) = (B : Int) - (tot (upd S n (some (tNd d s))) I : Int) := t2
          rw [t2'] at q2
          have f3 := q3.1.fz
          have d3 := q3.1.cell (j := 3) rfl
          obtain ⟨r1, r2, r3⟩ := q2.setNode (n := n) (d' := tNd d s) (v' := .slice ao2 nn2 cc2) hM.out (upd_at _ _ _) q3.1 q3.2 3 (.int .i64 s) rfl
          rw [upd_upd] at r1
          replace r1 := W_hid r1
          have K1 := W_hid (K0.out.trans r3)
          clear q1 cR t2 t2' q4 h2 h1 q2 q3 r2 r3
          go_wp2_with fail
          go_ret
          rw [e1.out, e2.out]
          exact ⟨rfl, ⟨M, r1.out, t1.out, hlim.out⟩, K1.out⟩
  · have hr : ∃ r, r ≠ 0 ∧ (askR S n fun d => if d.kind = 1 then (0 : Int) else 14) = r ∧ tErr S n s = r ∧ tS S n s = S := by
      cases hS : S n with
      | none => exact ⟨11, by decide, by simp [askR, hS], by simp [tErr, askR, hS], by simp [tS, hS]⟩
      | some d =>
        have hk : ¬ d.kind = 1 := fun e => hno ⟨d, hS, e⟩
        exact ⟨14, by decide, by simp [askR, hS, hk], by simp [tErr, askR, hS, hk], by simp [tS, hS, hk]⟩
    obtain ⟨r, hr0, hr1, hr2, hr3⟩ := hr
    rw [hr2, hr3]
    rw [hr1] at cA
    have cA := W_hid cA
    have H := W_hid h
    clear h hr1 hr2 hr3 hno
    go_enter Tryz.func81, Tryz.ntmps81
    go_wp2_with fail
    refine cA.out.mono ?_
    rintro e w1 ⟨rfl, b1⟩
    go_wp2_with fail
    go_ret
    exact Out.same H.out (Nat.le_refl _) b1 r
end
end IN
end Go.Proofs.YtfhidjkhmjdioaaGreat

namespace Go.Proofs.YtfhidjkhmjdioaaGreat
open Go.ChangeShapes Go.WideShapes Go.ChangeAt Go.RowKit Go.Shelf Go.Maps
set_option linter.unusedVariables false
set_option linter.unusedSimpArgs false
attribute [local go_sem] Oper.semAt_some
namespace IS
def nk (f : Nat) : Value := .int .i64 (f : Int)
structure Come (D : DataW Unit) (left : Lit → Bool) (ss : List Nat) : Prop where
  once : ss.Nodup
  iff : ∀ f : Nat, f ∈ ss ↔ f < 65536 ∧ Maps.has D (key f) = true ∧ left (key f) = false
theorem Come.start (D : DataW Unit) : Come D (Maps.has D) [] :=
  ⟨List.nodup_nil, fun f => by cases Maps.has D (key f) <;> simp⟩
theorem Come.step {D : DataW Unit} {left : Lit → Bool} {ss : List Nat} (h : Come D left ss) {x : Nat} {y : DataW Unit} (hx : x < 65536) (hlk : left (key x) = true) (hat : ∀ z, D.atKey (key x) z = y) :
    Come D (fun z => left z && !z.sameKey (key x)) (ss ++ [x]) := by
  have hhas : Maps.has D (key x) = true := has_true_of_atKey hat
  have hnew : x ∉ ss := fun hm => by have := ((h.iff x).1 hm).2.2; rw [hlk] at this; cases this
  refine ⟨List.nodup_append.2 ⟨h.once, by simp, fun a ha b hb => by simp at hb; subst hb; exact fun e => hnew (e ▸ ha)⟩, fun f => ?_⟩
  rw [List.mem_append, List.mem_singleton, h.iff f]
  by_cases e : f = x
  · subst e
    have : (key f).sameKey (key f) = true := WideAt.sameKey_self (isKey f (i64_nat hx))
    simp [hhas, this, hx]
  · have : (key f).sameKey (key x) = false := by
      simp only [key, Lit.sameKey]
      simp
      omega
    simp [e, this]
set_option maxRecDepth 100000 in
set_option maxHeartbeats 1000000 in
theorem keys1_in (F : Fence) (n : Nat) (hf : F.fn 112) (hro : F.round = none) (hn : 1 ≤ n) (l Bm b N : Nat) (M : Int → Option Nat) (J Jx : List Nat → World → Prop)
    (D : DataW Unit) (hN : Maps.size D ≤ N)
    (hY : ∀ pre x W, J pre W → pre.length < N → YieldAt F (n - 1) Tryz.prog l #[nk x] W fun e W' => (e = .returned (.bool true) ∧ J (pre ++ [x]) W' ∧ KeepsWalks W W') ∨ (e = .returned (.bool false) ∧ Jx (pre ++ [x]) W'))
    (W : World) (hJ : AbidesFrom W.heap.size J) (hm : W.cell? ⟨Bm, 0, none⟩ = some (.map (some b)))
    (hown : W.ownsMap Tryz.prog 3 PR b (Maps.size D) D) (hhas : ∀ f, I64 f → Maps.has D (key f) = (M f).isSome) (hbd : ∀ f, M f ≠ none → 0 ≤ f ∧ f < 65536) (h0 : J [] W) :
    CallsIn F n Tryz.prog 112 #[.func (.yield l) #[] #[], .pointer (some ⟨Bm, 0, none⟩)] W fun e W' => (∃ v, e = .returned v) ∧
      ((∃ ss, Nums M ss ∧ J ss W') ∨ (∃ pre, True ∧ Jx pre W')) := by
  refine callsIn_of_wp Tryz.func112 rfl hf ?_ hro
  simp only [Tryz.ntmps112, List.size_toArray, List.length_cons, List.length_nil, Nat.reduceAdd, Nat.reduceSub, Array.replicate_succ, Array.replicate_zero, List.push_toArray, List.append_toArray, List.nil_append, List.cons_append]
  gi_wp2_with (first
    | (gi_at_range; refine wpListIn_range_own _ rfl _ 84 rfl 3 123 keyed_int und_map PR b (Maps.size D) D rfl hown ?_; intro w0 hrg0 hg0 hs0)
    | gi_in)
  go_frame
  gi_loopw [3] (fun _ wr => ∃ (left : Lit → Bool) (cnt : Nat) (ss : List Nat), wr.ranges Tryz.prog 3 PR b W.heap.size (Maps.size D) D left cnt ∧ ss.length + cnt ≤ Maps.size D ∧ Come D left ss ∧ J ss wr)
    (fun _ wr => wr.rangeLeft b W.heap.size)
  case atStart =>
    exact ⟨_, _, [], hrg0, by simp, Come.start D, hJ [] W w0 none h0 hg0 (fun r e => by cases e)⟩
  case round =>
    obtain ⟨left, cnt, ss, hrg, hcs, hC, hJs⟩ := hrel
    gi_wp2_with (first
      | (gi_at_next; refine wpListIn_next_ranges _ rfl _ rfl 3 keyed_int PR (Value.int .i64) id (fun k kl hk => by obtain ⟨x, rfl, hx, hwf⟩ := Maps.keyOf_int_inv und_int hk; exact ⟨x, rfl⟩) (fun v _ _ => ⟨v, rfl⟩) b W.heap.size (Maps.size D) _ _ _ rfl hrg ?_ ?_)
      | gi_in)
    · intro hc0 hl0
      gi_wp2
      go_end0
      refine ⟨⟨_, rfl⟩, .inl ⟨ss, ⟨hC.once, fun f => ?_⟩, hJs⟩⟩
      rw [hC.iff f, hl0]
      constructor
      · rintro ⟨h1, h2, -⟩ h3
        rw [hhas f (i64_nat h1), h3] at h2
        cases h2
      · intro h
        have h1 := hbd f h
        refine ⟨by omega, ?_, rfl⟩
        rw [hhas f (i64_nat (by omega))]
        cases e : M f with
        | none => exact absurd e h
        | some _ => rfl
    · intro x c kl yd yp w2 cnt2 hkey hlk hv hat hrg2 hlt hg2 hs2 hen
      have hx : kl = key x ∧ I64 x := by
        obtain ⟨x', e, rfl, hwf⟩ := Maps.keyOf_int_inv und_int hkey
        simp only [Value.int.injEq, true_and] at e
        subst e
        exact ⟨rfl, wf_bounds hwf⟩
      obtain ⟨rfl, hI⟩ := hx
      have hh1 : Maps.has D (key x) = true := has_true_of_atKey hat
      rw [hhas x hI] at hh1
      have hbx := hbd x (fun e => by rw [e] at hh1; cases hh1)
      obtain ⟨x, rfl⟩ : ∃ n : Nat, x = (n : Int) := ⟨x.toNat, by omega⟩
      have hx : x < 65536 := by omega
      rw [show Value.int .i64 (x : Int) = nk x from rfl] at hen ⊢
      have hJ2 : J ss w2 := hJ ss wr w2 (some W.heap.size) hJs hg2 (fun r e => by cases e; exact ⟨Nat.le_refl _, hrg.iter_walk⟩)
      obtain ⟨fn, tmps, assign, body, hy, hR⟩ := hY ss x w2 hJ2 (by omega)
      clear hs2
      gi_wp2
      refine hR.mono ?_
      have hC2 := hC.step hx hlk hat
      rintro e W3 (⟨rfl, hJ3, hk3⟩ | ⟨rfl, hJx3⟩)
      · gi_wp2
        have hrg3 := hrg2.of_walks hk3
        go_roundw
        case rel => exact ⟨_, cnt2, ss ++ [x], hrg3, by simp; omega, hC2, hJ3⟩
        case measure => rw [hrg3.left_eq, hrg.left_eq]; exact hlt
      · gi_wp2
        refine bodyPost_ret (results_none rfl _ _ _) rfl ?_
        exact ⟨⟨_, rfl⟩, .inr ⟨ss ++ [x], trivial, hJx3⟩⟩
theorem keys_seq (F : Fence) (n : Nat) (hf : F.fn 112) (hro : F.round = none) (hn : 1 ≤ n) (Bm b : Nat) (M : Int → Option Nat) (w : World) (hBm : Bm < w.heap.size) (hb : b < w.heap.size)
    (hm : w.cell? ⟨Bm, 0, none⟩ = some (.map (some b))) (hMB : MB w b M) :
    SeqStopsK F n Tryz.prog 112 #[.pointer (some ⟨Bm, 0, none⟩)] (fun x => #[nk x]) KeepsWalks (Nums M) (fun _ => True) 65536 w := fun l J Jx W hW hJ _ hY h0 => by
  obtain ⟨D, hown, hhas, hat⟩ := hMB.ex
  have hsz : Maps.size D ≤ 65536 := by
    obtain ⟨ss, hN, hL⟩ := own_nums hown hhas hMB.bound
    rw [← hL]
    exact nodup_le 65536 ss hN.1 fun x hx => by have := hMB.bound x ((hN.2 x).1 hx); omega
  have hown' : W.ownsMap Tryz.prog 3 PR b (Maps.size D) D := by
    obtain ⟨es, clock, hb', Ft, hs, hD⟩ := hown
    exact ⟨es, clock, (hW.block b hb).trans hb', Ft, hs, hD⟩
  exact keys1_in F n hf hro hn l Bm b 65536 M J Jx D hsz hY W hJ ((hW.cell (p := ⟨Bm, 0, none⟩) hBm).trans hm) hown' hhas hMB.bound h0
set_option maxRecDepth 100000 in
set_option maxHeartbeats 1000000 in
theorem Keys_any (b : Nat) (w : World) :
    Calls Tryz.prog 61 #[.map (some b)] w fun e w' => e = .returned (.func (.func 112) #[] #[.pointer (some ⟨w.heap.size, 0, none⟩)]) ∧ w' = w.alloc (.cells #[.map (some b)] 84) := by
  go_enter Tryz.func61, Tryz.ntmps61
  go_wp2
  go_ret
  exact ⟨rfl, rfl⟩
end IS
attribute [local go_sem] Oper.semAt_some
namespace IS
theorem one_int : (Tryz.prog.info? 3).map (fun i => (i.zero, i.size, i.bytes)) = some (some (.int .i64 0), 1, 8) := by kernel_rfl
theorem und_nums : Tryz.prog.underlying 57 = some (.slice 3) := by kernel_rfl
set_option maxRecDepth 100000 in
set_option maxHeartbeats 2000000 in
theorem append_in (F : Fence) (n : Nat) (hf : F.fn 155) (hro : F.round = none) (hn : 2 ≤ n) (g : Nat) (lb : Array Value) (hg : F.fn g) (eg : ∀ args w, (callFunc g args).run Tryz.prog w = .ok (.enter g args) w)
    (S : List Nat → Prop) (N : Nat) (hN : N ≤ 65536) (w : World) (hseq : SeqStopsK F (n - 1) Tryz.prog g lb (fun x => #[nk x]) KeepsWalks S (fun _ => True) N w) :
    CallsIn F n Tryz.prog 155 #[.slice none 0 0, .func (.func g) #[] lb] w fun e w' => ∃ (v : Value) (ss : List Nat), e = .returned v ∧ S ss ∧ w'.ownsRow w.heap.size 3 1 v ss.length (ss.map nk) ∧ (v = .slice none 0 0 ↔ ss = []) ∧ Below w.heap.size w w' := by
  have h1 : 1 ≤ n := by omega
  obtain ⟨i0, hi, hz0, hz1, hz2⟩ := info_parts one_int
  refine callsIn_of_wp_marks Tryz.func155 rfl hf ?_ hro
  simp only [Tryz.ntmps155, List.size_toArray, List.length_cons, List.length_nil, Nat.reduceAdd, Nat.reduceSub, Array.replicate_succ, Array.replicate_zero, List.push_toArray, List.append_toArray, List.nil_append, List.cons_append]
  gi_wp2
  have bO := Boxed.new w 57 (.slice none 0 0)
  have hB0 : Below w.heap.size w (w.alloc (.cells #[.slice none 0 0] 57)) := (Below.refl _ w).alloc (Nat.le_refl _) _
  refine wpIn_rangeFunc_ownG hro h1 (gf := g) (lb := lb) rfl hg eg
    hseq walksK_t walksK_b hB0 (fun _ => rfl)
    (fun pre W => (∃ v, Boxed W w.heap.size 57 v ∧ W.ownsRow w.heap.size 3 1 v pre.length (pre.map nk) ∧ (v = .slice none 0 0 ↔ pre = [])) ∧ Below w.heap.size w W)
    (fun _ _ _ => False)
    (OwnFrom.and (Own.from (holdsRow_own w.heap.size w.heap.size 57 3 1 (fun pre : List Nat => pre.length) (fun pre : List Nat => pre.map nk) (fun pre v => v = .slice none 0 0 ↔ pre = [])) _) (ownFrom_below (Nat.le_refl _) (by simp)))
    (fun _ _ _ _ _ hs _ _ => hs)
    ⟨⟨_, bO, World.ownsRow_nil _ _ _ _, by simp⟩, hB0⟩
    (fun x => { tmps := #[.slice none 0 0, .func (.func g) #[] lb, .pointer (some ⟨w.heap.size, 0, none⟩), undef, .slice none 0 0, .int .i64 (x : Int), .func (.func g) #[] lb, .int .i64 (x : Int), undef, undef, undef, undef, undef], defers := [] }) ?assign ?body ?done ?stop
  case assign =>
    intro l x W K hK
    gi_wp2
    exact hK
  case body =>
    rintro l pre x W ⟨⟨v, hv, hrow, hnil⟩, hB⟩ hlt
    have hc := hv.cell
    gi_wp2_with (gi_at_builtin; refine wpListIn_append_own _ rfl _ _ 57 rfl w.heap.size 3 i0 (.int .i64 0) 1 8 und_nums hi hz0 hz1 hz2 rfl (by decide) _ _ _ rfl (hrow.alloc _) ⟨W.heap.size, 0, none⟩ 1 1 [.int .i64 (x : Int)] rfl rfl (cell_one_new _ _ _) (by simp [Value.oneCell', nk]) (by simp only [maxLen]; omega) (by omega) (by have := hB.size; simp; omega) ?_; intro v' w1 hown' hgrow _; obtain ⟨g', cap', rfl⟩ := ownsRow_succ hown'; obtain ⟨hv1, hv2, hr2, hk2, hb2⟩ := hv.appended (by decide) hrow hB.size (Nat.le_refl _) hown' hgrow; have hc1 := hv1.cell; have hf1 := hv1.frozen)
    exact ⟨hk2.from _, hk2.walks, ⟨_, hv2, by simpa [nk] using hr2, by simp⟩, hB.trans hb2⟩
  case done =>
    rintro D ys W hD hS ⟨⟨v, hv, hrow, hnil⟩, hB⟩ hK
    have hc := hv.cell
    have hf := hv.frozen
    gi_wp2
    refine ⟨by simp, .inl ⟨_, _, rfl, run_takeDeferred hK, ?_⟩⟩
    exact ⟨_, results_tmp rfl _ _ _, v, ys, rfl, hS, ownsRow_putObj hrow _ hK rfl, hnil, hB.trans (belowK_b (w := w) (Nat.le_refl _) W D _ _ (by simp at hD; omega) hK rfl rfl)⟩
  case stop =>
    rintro D c pre W _ _ h _
    exact h.elim
set_option maxRecDepth 100000 in
set_option maxHeartbeats 1000000 in
theorem collect_in (F : Fence) (n : Nat) (h8 : F.fn 110) (hf : F.fn 155) (hro : F.round = none) (hn : 3 ≤ n) (g : Nat) (lb : Array Value) (hg : F.fn g) (eg : ∀ args w, (callFunc g args).run Tryz.prog w = .ok (.enter g args) w)
    (S : List Nat → Prop) (N : Nat) (hN : N ≤ 65536) (w : World) (hseq : SeqStopsK F (n - 1 - 1) Tryz.prog g lb (fun x => #[nk x]) KeepsWalks S (fun _ => True) N w) :
    CallsIn F n Tryz.prog 110 #[.func (.func g) #[] lb] w fun e w' => ∃ (v : Value) (ss : List Nat), e = .returned v ∧ S ss ∧ w'.ownsRow w.heap.size 3 1 v ss.length (ss.map nk) ∧ (v = .slice none 0 0 ↔ ss = []) ∧ Below w.heap.size w w' := by
  have h1 : 1 ≤ n := by omega
  refine callsIn_of_wp Tryz.func110 rfl h8 ?_ hro
  simp only [Tryz.ntmps110, List.size_toArray, List.length_cons, List.length_nil, Nat.reduceAdd, Nat.reduceSub, Array.replicate_succ, Array.replicate_zero, List.push_toArray, List.append_toArray, List.nil_append, List.cons_append]
  gi_wp2_with (gi_at_call 155; refine (append_in F (n - 1) hf hro (by omega) g lb hg eg S N hN _ hseq).mono ?_; rintro e w' ⟨v, ss, rfl, hS, hrow, hnil, hb⟩)
  go_ret
  exact ⟨v, ss, rfl, hS, hrow, hnil, hb⟩
theorem enters_keys1 : ∀ args w, (callFunc 112 args).run Tryz.prog w = .ok (.enter 112 args) w :=
  enters_of Tryz.func112 (by kernel_rfl) rfl
theorem Collect_any (Bm b : Nat) (M : Int → Option Nat) (w : World) (hBm : Bm < w.heap.size) (hb : b < w.heap.size) (hm : w.cell? ⟨Bm, 0, none⟩ = some (.map (some b))) (hMB : MB w b M) :
    Calls Tryz.prog 110 #[.func (.func 112) #[] #[.pointer (some ⟨Bm, 0, none⟩)]] w fun e w' => ∃ (v : Value) (ss : List Nat), e = .returned v ∧ Nums M ss ∧ w'.ownsRow w.heap.size 3 1 v ss.length (ss.map nk) ∧ (v = .slice none 0 0 ↔ ss = []) ∧ Below w.heap.size w w' := by
  refine (callsIn_wide (n := 6)).1 ?_
  exact collect_in Fence.wide 6 trivial trivial rfl (by omega) _ _ trivial enters_keys1 (Nums M) 65536 (Nat.le_refl _) w (keys_seq Fence.wide 4 trivial rfl (by omega) Bm b M w hBm hb hm hMB)
end IS
end Go.Proofs.YtfhidjkhmjdioaaGreat

namespace Go.Proofs.YtfhidjkhmjdioaaGreat
open Go.ChangeShapes Go.WideShapes Go.ChangeAt Go.RowKit
set_option linter.unusedVariables false
set_option linter.unusedSimpArgs false
namespace IS
namespace SO
def swp (X : Nat → Nat) (i j : Nat) : Nat → Nat := fun p => if p = i then X j else if p = j then X i else X p
inductive Sw (a b : Nat) (X : Nat → Nat) : (Nat → Nat) → Prop
  | refl : Sw a b X X
  | step {Y : Nat → Nat} {i j : Nat} : Sw a b X Y → a ≤ i → i < b → a ≤ j → j < b → Sw a b X (swp Y i j)
theorem Sw.trans {a b : Nat} {X Y Z : Nat → Nat} (h : Sw a b X Y) (k : Sw a b Y Z) : Sw a b X Z := by
  induction k with
  | refl => exact h
  | step _ h1 h2 h3 h4 ih => exact ih.step h1 h2 h3 h4
theorem Sw.wide {a b a' b' : Nat} {X Y : Nat → Nat} (h : Sw a b X Y) (ha : a' ≤ a) (hb : b ≤ b') : Sw a' b' X Y := by
  induction h with
  | refl => exact .refl
  | step _ h1 h2 h3 h4 ih => exact ih.step (by omega) (by omega) (by omega) (by omega)
theorem Sw.out {a b : Nat} {X Y : Nat → Nat} (h : Sw a b X Y) : ∀ p, p < a ∨ b ≤ p → Y p = X p := by
  induction h with
  | refl => exact fun _ _ => rfl
  | step _ h1 h2 h3 h4 ih =>
    intro p hp
    rw [← ih p hp]
    unfold swp
    rw [if_neg (by omega), if_neg (by omega)]
theorem Sw.all {a b : Nat} {X Y : Nat → Nat} (h : Sw a b X Y) {P : Nat → Prop} (hX : ∀ p, a ≤ p → p < b → P (X p)) : ∀ p, a ≤ p → p < b → P (Y p) := by
  induction h with
  | refl => exact hX
  | @step Y i j _ h1 h2 h3 h4 ih =>
    intro p hp hp2
    unfold swp
    split
    · exact ih j h3 h4
    · split
      · exact ih i h1 h2
      · exact ih p hp hp2
def lst (X : Nat → Nat) (N : Nat) : List Nat := (List.range N).map X
theorem lst_len (X : Nat → Nat) (N : Nat) : (lst X N).length = N := by simp [lst]
theorem lst_get (X : Nat → Nat) (N i : Nat) (h : i < N) : (lst X N)[i]? = some (X i) := by simp [lst, h]
theorem lst_mem (X : Nat → Nat) (N x : Nat) : x ∈ lst X N ↔ ∃ i, i < N ∧ X i = x := by simp [lst]
def Inj (X : Nat → Nat) (N : Nat) : Prop := ∀ i j, i < N → j < N → X i = X j → i = j
theorem lst_nodup (X : Nat → Nat) (N : Nat) (h : Inj X N) : (lst X N).Nodup := by
  unfold lst List.Nodup
  rw [List.pairwise_map]
  refine List.nodup_range.imp_of_mem ?_
  intro i j hi hj hne e
  exact hne (h i j (List.mem_range.1 hi) (List.mem_range.1 hj) e)
theorem inj_of_nodup (X : Nat → Nat) (N : Nat) (h : (lst X N).Nodup) : Inj X N := by
  intro i j hi hj e
  have h1 := lst_get X N i hi
  have h2 := lst_get X N j hj
  rw [e] at h1
  exact (List.getElem?_inj (by rw [lst_len]; exact hi) h).1 (h1.trans h2.symm)
theorem Sw.inj {a b N : Nat} {X Y : Nat → Nat} (h : Sw a b X Y) (hb : b ≤ N) (hX : Inj X N) : Inj Y N := by
  induction h with
  | refl => exact hX
  | @step Y i j _ h1 h2 h3 h4 ih =>
    intro p q hp hq e
    unfold swp at e
    split at e <;> split at e <;> (try split at e) <;> (try split at e) <;> first
      | (have := ih _ _ (by omega) (by omega) e; omega)
      | omega
theorem Sw.mem {a b N : Nat} {X Y : Nat → Nat} (h : Sw a b X Y) (hb : b ≤ N) : ∀ x, x ∈ lst Y N ↔ x ∈ lst X N := by
  induction h with
  | refl => exact fun _ => Iff.rfl
  | @step Y i j _ h1 h2 h3 h4 ih =>
    intro x
    rw [← ih x, lst_mem, lst_mem]
    constructor
    · rintro ⟨p, hp, rfl⟩
      unfold swp
      split
      · exact ⟨j, by omega, rfl⟩
      · split
        · exact ⟨i, by omega, rfl⟩
        · exact ⟨p, hp, rfl⟩
    · rintro ⟨p, hp, rfl⟩
      by_cases e1 : p = i
      · refine ⟨j, by omega, ?_⟩
        unfold swp
        by_cases e2 : j = i
        · rw [if_pos e2, e1, e2]
        · rw [if_neg e2, if_pos rfl, e1]
      · by_cases e2 : p = j
        · exact ⟨i, by omega, by unfold swp; rw [if_pos rfl, e2]⟩
        · exact ⟨p, hp, by unfold swp; rw [if_neg e1, if_neg e2]⟩
def Up (X : Nat → Nat) (a b : Nat) : Prop := ∀ p q, a ≤ p → p < q → q < b → X p ≤ X q
def Ins (X : Nat → Nat) (a i j : Nat) : Prop := ∀ p q, a ≤ p → p < q → q ≤ i → q ≠ j → X p ≤ X q
theorem ins_start {X : Nat → Nat} {a i : Nat} (h : Up X a i) : Ins X a i i := fun p q h1 h2 h3 h4 => h p q h1 h2 (by omega)
theorem ins_swap {X : Nat → Nat} {a i j : Nat} (h : Ins X a i j) (ha : a < j) (hj : j ≤ i) (hlt : X j < X (j - 1)) : Ins (swp X j (j - 1)) a i (j - 1) := by
  intro p q h1 h2 h3 h4
  unfold swp
  by_cases e1 : q = j
  · rw [if_neg (by omega : p ≠ j), if_pos e1]
    by_cases e2 : p = j - 1
    · rw [if_pos e2]; omega
    · rw [if_neg e2]; exact h p (j - 1) h1 (by omega) (by omega) (by omega)
  · rw [if_neg e1, if_neg h4]
    by_cases e2 : p = j
    · rw [if_pos e2]
      exact h (j - 1) q (by omega) (by omega) h3 e1
    · rw [if_neg e2]
      by_cases e3 : p = j - 1
      · rw [if_pos e3]
        have := h (j - 1) q (by omega) (by omega) h3 e1
        omega
      · rw [if_neg e3]; exact h p q h1 h2 h3 e1
theorem ins_done {X : Nat → Nat} {a i j : Nat} (h : Ins X a i j) (ha : a ≤ j) (hj : j ≤ i) (hd : j = a ∨ X (j - 1) ≤ X j) : Up X a (i + 1) := by
  intro p q h1 h2 h3
  by_cases e : q = j
  · subst e
    rcases hd with hd | hd
    · omega
    · by_cases e2 : p = q - 1
      · rw [e2]; exact hd
      · have := h p (q - 1) h1 (by omega) (by omega) (by omega)
        omega
  · exact h p q h1 h2 (by omega) e
end SO
structure RW (w : World) (g N : Nat) (X : Nat → Nat) (rest : List Value) : Prop where
  blk : Blk w g 3 ((SO.lst X N).map nk ++ rest)
section
variable {w w' : World} {g N : Nat} {X : Nat → Nat} {rest : List Value}
theorem RW.cell (h : RW w g N X rest) (i : Nat) (hi : i < N) : w.cell? ⟨g, i, none⟩ = some (.int .i64 ((X i : Nat) : Int)) := by
  refine h.blk.cell ?_
  rw [List.getElem?_append_left (by simp [SO.lst_len, hi]), List.getElem?_map, SO.lst_get X N i hi]
  rfl
theorem RW.fz (h : RW w g N X rest) (i : Nat) : w.frozen? ⟨g, i, none⟩ = false := h.blk.fz i
theorem RW.lt (h : RW w g N X rest) : g < w.heap.size := h.blk.lt
theorem RW.drewN (h : RW w g N X rest) (t : Nat) : RW (w.drewN t) g N X rest := ⟨h.blk⟩
theorem RW.drew (h : RW w g N X rest) : RW w.drew g N X rest := ⟨h.blk⟩
theorem RW.alloc (h : RW w g N X rest) (o : Obj) : RW (w.alloc o) g N X rest := ⟨h.blk.alloc o⟩
theorem RW.far (h : RW w g N X rest) {p : Addr} (hp : g ≠ p.block) (u : Value) : RW (w.setCell p u) g N X rest := ⟨h.blk.far hp u⟩
theorem RW.keep (h : RW w g N X rest) (hb : Below w.heap.size w w') : RW w' g N X rest := ⟨h.blk.keep hb⟩
theorem RW.swap (h : RW w g N X rest) (i j : Nat) (hi : i < N) (hj : j < N) : RW ((w.setCell ⟨g, i, none⟩ (.int .i64 ((X j : Nat) : Int))).setCell ⟨g, j, none⟩ (.int .i64 ((X i : Nat) : Int))) g N (SO.swp X i j) rest := by
  refine ⟨?_⟩
  have h1 := (h.blk.set i (.int .i64 ((X j : Nat) : Int))).set j (.int .i64 ((X i : Nat) : Int))
  have e : (((SO.lst X N).map nk ++ rest).set i (.int .i64 ((X j : Nat) : Int))).set j (.int .i64 ((X i : Nat) : Int)) = (SO.lst (SO.swp X i j) N).map nk ++ rest := by
    rw [List.set_append_left _ _ (by simp [SO.lst_len, hi]), List.set_append_left _ _ (by simp [SO.lst_len, hj])]
    congr 1
    apply List.ext_getElem?
    intro p
    by_cases hp : p < N
    · rw [List.getElem?_map, SO.lst_get _ N p hp, List.getElem?_set, List.getElem?_set, List.getElem?_map, SO.lst_get X N p hp]
      simp only [List.length_set, List.length_map, SO.lst_len, hi, hj, if_true, Option.map_some]
      unfold SO.swp
      by_cases e1 : j = p
      · subst e1
        rw [if_pos rfl]
        by_cases e2 : j = i
        · subst e2; simp [nk]
        · rw [if_neg e2]; simp [nk]
      · rw [if_neg e1, if_neg (Ne.symm e1)]
        by_cases e2 : i = p
        · subst e2; simp [nk]
        · rw [if_neg e2, if_neg (Ne.symm e2)]
    · rw [List.getElem?_eq_none (by simp [SO.lst_len]; omega), List.getElem?_eq_none (by simp [SO.lst_len]; omega)]
  rw [e] at h1
  exact h1
end
set_option maxRecDepth 100000 in
set_option maxHeartbeats 1000000 in
theorem isNaN_any (x : Nat) (w : World) : Calls Tryz.prog 198 #[.int .i64 (x : Int)] w fun e w' => e = .returned (.bool false) ∧ w' = w := by
  go_enter Tryz.func198, Tryz.ntmps198
  go_wp2
  go_ret
  exact ⟨by simp, rfl⟩
set_option maxRecDepth 100000 in
set_option maxHeartbeats 1000000 in
theorem Less_any (x y : Nat) (w : World) : Calls Tryz.prog 185 #[.int .i64 (x : Int), .int .i64 (y : Int)] w fun e w' => e = .returned (.bool (decide (x < y))) ∧ w' = w := by
  have hN := fun x w => isNaN_any x w
  go_enter Tryz.func185, Tryz.ntmps185
  by_cases h : x < y
  · go_wp2_with (go_at_call 198; refine (hN x _).mono ?_; rintro e w' ⟨rfl, rfl⟩)
    go_ret
    exact ⟨by simp [h], rfl⟩
  · go_wp2_with (go_at_call 198; refine (hN x _).mono ?_; rintro e w' ⟨rfl, rfl⟩)
    go_ret
    exact ⟨by simp [h], rfl⟩
set_option maxRecDepth 100000 in
set_option maxHeartbeats 4000000 in
theorem insert_any (g N cap : Nat) (rest : List Value) (a b : Nat) (X : Nat → Nat) (w : World) (h : RW w g N X rest) (hab : a ≤ b) (hb : b ≤ N) (hN : N ≤ 65536) (hcap : N ≤ cap) (hX : ∀ i, i < N → X i < 9223372036854775808) :
    Calls Tryz.prog 179 #[.slice (some ⟨g, 0, none⟩) N cap, .int .i64 (a : Int), .int .i64 (b : Int)] w fun e w' => e = .returned (.tuple #[]) ∧ Two g g w w' ∧ ∃ Y, RW w' g N Y rest ∧ SO.Sw a b X Y ∧ SO.Up Y a b := by
  have h := W_hid h
  have hX := W_hid hX
  go_enter Tryz.func179, Tryz.ntmps179
  go_wp2_with fail
  go_loopw [6] (fun v wr => ∃ (i : Nat) (Y : Nat → Nat), v = .int .i64 (i : Int) ∧ a < i ∧ (i ≤ b ∨ i = a + 1) ∧ Hid (RW wr g N Y rest) ∧ Hid (SO.Sw a b X Y) ∧ Hid (SO.Up Y a i) ∧ Hid (Two g g w wr)) (fun v _ => b - (intOf v).toNat)
  case atStart => exact ⟨a + 1, X, by simp, by omega, .inr rfl, h, W_hid .refl, W_hid (fun p q h1 h2 h3 => by omega), W_hid (Two.refl _ _ _)⟩
  case round =>
    obtain ⟨i, Y, rfl, hai, hib, hR, hS, hU, hT⟩ := hrel
    by_cases hlt : i < b
    · go_wp2_with fail
      obtain ⟨wa, rfl⟩ : ∃ wa, wa = wr := ⟨wr, rfl⟩
      go_loopw [7] (fun v wr => ∃ (j : Nat) (Z : Nat → Nat), v = .int .i64 (j : Int) ∧ a ≤ j ∧ j ≤ i ∧ Hid (RW wr g N Z rest) ∧ Hid (SO.Sw a b X Z) ∧ Hid (SO.Ins Z a i j) ∧ Hid (Two g g w wr)) (fun v _ => (intOf v).toNat)
      case atStart => exact ⟨i, Y, rfl, by omega, by omega, hR, hS, W_hid (SO.ins_start hU.out), hT⟩
      case round =>
        obtain ⟨j, Z, rfl, haj, hji, hR2, hS2, hI, hT2⟩ := hrel
        by_cases hja : a < j
        · have cj := hR2.out.cell j (by omega)
          have cj1 := hR2.out.cell (j - 1) (by omega)
          have ej : (j : Int) - 1 = ((j - 1 : Nat) : Int) := by omega
          have fj := hR2.out.fz j
          have fj1 := hR2.out.fz (j - 1)
          have hL := W_hid (fun t => Calls.quiet_of_same (Less_any (Z j) (Z (j - 1)) (wr.drewN t)))
          by_cases hless : Z j < Z (j - 1)
          · have hd : decide (Z j < Z (j - 1)) = true := by simp [hless]
            have hI2 := W_hid (SO.ins_swap hI.out hja hji hless)
            have hS3 := W_hid (hS2.out.step (i := j) (j := j - 1) (by omega) (by omega) (by omega) (by omega))
            have hless := W_hid hless
            rw [hd] at hL
            generalize hzj : Z j = zj at *
            generalize hzk : Z (j - 1) = zk at *
            go_wp2_with fail
            go_quiet ((go_at_call 185; exact hL.out _))
            go_wp2_with fail
            obtain ⟨W, hW⟩ : ∃ W, wr.drewN nq = W := ⟨_, rfl⟩
            have hR3 : RW W g N Z rest := by rw [← hW]; exact hR2.out.drewN nq
            have hT3 : Two g g w W := by rw [← hW]; exact hT2.out.drew nq
            rw [hW]
            have dj := hR3.cell j (by omega)
            have dj1 := hR3.cell (j - 1) (by omega)
            rw [hzj] at dj
            rw [hzk] at dj1
            have gj := hR3.fz j
            have gj1 := hR3.fz (j - 1)
            have hR4 := W_hid (hR3.swap j (j - 1) (by omega) (by omega))
            rw [hzj, hzk] at hR4
            have hT4 := W_hid ((hT3.setCell (p := ⟨g, j, none⟩) (.inl rfl) (.int .i64 (zk : Int))).setCell (p := ⟨g, j - 1, none⟩) (.inl rfl) (.int .i64 (zj : Int)))
            clear hR3 hT3
            go_region
            go_wp2_with fail
            exact ⟨⟨j - 1, _, rfl, by omega, by omega, W_hid hR4.out.drew, hS3, hI2, W_hid ⟨hT4.out.os, hT4.out.tape, hT4.out.output, hT4.out.size, hT4.out.block⟩⟩, by simp [intOf]; omega⟩
          · have hd : decide (Z j < Z (j - 1)) = false := by simp [hless]
            have hU2 := W_hid (SO.ins_done hI.out haj hji (.inr (by omega)))
            have hless := W_hid hless
            rw [hd] at hL
            generalize hzj : Z j = zj at *
            generalize hzk : Z (j - 1) = zk at *
            go_wp2_with fail
            go_quiet ((go_at_call 185; exact hL.out _))
            go_wp2_with fail
            exact ⟨⟨i + 1, Z, by simp, by omega, .inl (by omega), W_hid (hR2.out.drewN nq), hS2, hU2, W_hid (hT2.out.drew nq)⟩, by simp [intOf]; omega⟩
        · have hU2 := W_hid (SO.ins_done hI.out haj hji (.inl (by omega)))
          go_wp2_with fail
          go_quiet (fail)
          go_wp2_with fail
          exact ⟨⟨i + 1, Z, by simp, by omega, .inl (by omega), W_hid (hR2.out.drewN nq), hS2, hU2, W_hid (hT2.out.drew nq)⟩, by simp [intOf]; omega⟩
    · have hU2 : SO.Up Y a b := fun p q h1 h2 h3 => hU.out p q h1 h2 (by omega)
      go_wp2_with fail
      go_end0
      exact ⟨rfl, hT.out, Y, hR.out, hS.out, hU2⟩
end IS
end Go.Proofs.YtfhidjkhmjdioaaGreat

namespace Go.Proofs.YtfhidjkhmjdioaaGreat
set_option linter.unusedVariables false
set_option linter.unusedSimpArgs false
namespace IS
namespace SO
theorem swp_l (X : Nat → Nat) (i j : Nat) : swp X i j i = X j := by unfold swp; rw [if_pos rfl]
theorem swp_r (X : Nat → Nat) (i j : Nat) : swp X i j j = X i := by
  unfold swp
  by_cases h : j = i
  · rw [if_pos h, h]
  · rw [if_neg h, if_pos rfl]
theorem swp_o (X : Nat → Nat) {i j p : Nat} (h1 : p ≠ i) (h2 : p ≠ j) : swp X i j p = X p := by unfold swp; rw [if_neg h1, if_neg h2]
/-! ### Heaps -/
def HeapX (Y : Nat → Nat) (f lo hi r : Nat) : Prop := ∀ i c, lo ≤ i → i ≠ r → (c = 2 * i + 1 ∨ c = 2 * i + 2) → c < hi → Y (f + c) ≤ Y (f + i)
def Heap (Y : Nat → Nat) (f lo hi : Nat) : Prop := ∀ i c, lo ≤ i → (c = 2 * i + 1 ∨ c = 2 * i + 2) → c < hi → Y (f + c) ≤ Y (f + i)
def Grand (Y : Nat → Nat) (f lo hi r : Nat) : Prop := ∀ p c, lo ≤ p → (r = 2 * p + 1 ∨ r = 2 * p + 2) → (c = 2 * r + 1 ∨ c = 2 * r + 2) → c < hi → Y (f + c) ≤ Y (f + p)
theorem heap_begin {Y : Nat → Nat} {f lo hi : Nat} (h : Heap Y f (lo + 1) hi) : HeapX Y f lo hi lo ∧ Grand Y f lo hi lo :=
  ⟨fun i c h1 h2 h3 h4 => h i c (by omega) h3 h4, fun p c h1 h2 => by omega⟩
theorem heap_leaf {Y : Nat → Nat} {f lo hi r : Nat} (h : HeapX Y f lo hi r) (hr : hi ≤ 2 * r + 1) : Heap Y f lo hi := fun i c h1 h2 h3 => by
  by_cases e : i = r
  · subst e; omega
  · exact h i c h1 e h2 h3
theorem heap_stop {Y : Nat → Nat} {f lo hi r c : Nat} (h : HeapX Y f lo hi r) (hc : c = 2 * r + 1 ∨ c = 2 * r + 2) (hm : ∀ d, (d = 2 * r + 1 ∨ d = 2 * r + 2) → d < hi → Y (f + d) ≤ Y (f + c)) (hle : Y (f + c) ≤ Y (f + r)) : Heap Y f lo hi := fun i d h1 h2 h3 => by
  by_cases e : i = r
  · subst e
    exact Nat.le_trans (hm d h2 h3) hle
  · exact h i d h1 e h2 h3
theorem heap_down {Y : Nat → Nat} {f lo hi r c : Nat} (h : HeapX Y f lo hi r) (g : Grand Y f lo hi r) (hlo : lo ≤ r) (hc : c = 2 * r + 1 ∨ c = 2 * r + 2) (hch : c < hi) (hm : ∀ d, (d = 2 * r + 1 ∨ d = 2 * r + 2) → d < hi → Y (f + d) ≤ Y (f + c)) (hlt : Y (f + r) < Y (f + c)) :
    HeapX (swp Y (f + r) (f + c)) f lo hi c ∧ Grand (swp Y (f + r) (f + c)) f lo hi c := by
  have hrc : r ≠ c := by omega
  refine ⟨fun i d h1 h2 h3 h4 => ?_, fun p d h1 h2 h3 h4 => ?_⟩
  · by_cases e : i = r
    · subst e
      rw [swp_l]
      by_cases e2 : d = c
      · subst e2; rw [swp_r]; omega
      · rw [swp_o _ (by omega) (by omega)]; exact hm d h3 h4
    · rw [swp_o (p := f + i) _ (by omega) (by omega)]
      by_cases e2 : d = r
      · subst e2
        rw [swp_l]
        exact g i c h1 h3 hc hch
      · rw [swp_o _ (by omega) (by omega)]
        exact h i d h1 e h3 h4
  · obtain rfl : p = r := by omega
    rw [swp_l, swp_o _ (by omega) (by omega)]
    exact h c d (by omega) (by omega) h3 h4
theorem heap_top {Y : Nat → Nat} {f hi : Nat} (h : Heap Y f 0 hi) : ∀ j, j < hi → Y (f + j) ≤ Y f := by
  intro j
  induction j using Nat.strongRecOn with
  | ind j ih =>
    intro hj
    by_cases e : j = 0
    · subst e; exact Nat.le_refl _
    · have h1 := h ((j - 1) / 2) j (Nat.zero_le _) (by omega) hj
      have h2 := ih ((j - 1) / 2) (by omega) (by omega)
      omega
theorem heap_pop {Y : Nat → Nat} {f i : Nat} (h : Heap Y f 0 (i + 1)) : Heap (swp Y f (f + i)) f 1 i := fun p c h1 h2 h3 => by
  rw [swp_o _ (by omega) (by omega), swp_o _ (by omega) (by omega)]
  exact h p c (Nat.zero_le _) h2 (by omega)
def Tail (Y : Nat → Nat) (f i n : Nat) : Prop := ∀ p q, p < q → i ≤ q → q < n → Y (f + p) ≤ Y (f + q)
theorem tail_pop {Y : Nat → Nat} {f i n : Nat} (h : Heap Y f 0 (i + 1)) (t : Tail Y f (i + 1) n) (hi : i < n) : Tail (swp Y f (f + i)) f i n := fun p q h1 h2 h3 => by
  have ht := heap_top h
  by_cases e : q = i
  · subst e
    rw [swp_r]
    by_cases e2 : p = 0
    · subst e2
      rw [Nat.add_zero, swp_l]
      exact ht q (by omega)
    · rw [swp_o _ (by omega) (by omega)]; exact ht p (by omega)
  · rw [swp_o (p := f + q) _ (by omega) (by omega)]
    by_cases e2 : p = 0
    · subst e2
      rw [Nat.add_zero, swp_l]
      exact t i q (by omega) (by omega) h3
    · by_cases e3 : p = i
      · subst e3
        rw [swp_r]
        have := t 0 q (by omega) (by omega) h3
        rwa [Nat.add_zero] at this
      · rw [swp_o _ (by omega) (by omega)]
        exact t p q h1 (by omega) h3
theorem tail_sw {Y Z : Nat → Nat} {f i n : Nat} (t : Tail Y f i n) (s : Sw f (f + i) Y Z) : Tail Z f i n := fun p q h1 h2 h3 => by
  rw [s.out (f + q) (by omega)]
  by_cases e : p < i
  · exact s.all (P := fun v => v ≤ Y (f + q)) (fun r hr1 hr2 => by
      have := t (r - f) q (by omega) h2 h3
      rwa [show f + (r - f) = r by omega] at this) (f + p) (by omega) (by omega)
  · rw [s.out (f + p) (by omega)]
    exact t p q h1 h2 h3
theorem tail_up {Y : Nat → Nat} {f n : Nat} (t : Tail Y f 0 n) : Up Y f (f + n) := fun p q h1 h2 h3 => by
  have := t (p - f) (q - f) (by omega) (Nat.zero_le _) (by omega)
  rwa [show f + (p - f) = p by omega, show f + (q - f) = q by omega] at this
/-! ### What is left of a range -/
def Bel (Y : Nat → Nat) (a b : Nat) : Prop := a = 0 ∨ ∀ p, a ≤ p → p < b → Y (a - 1) ≤ Y p
theorem bel_sw {Y Z : Nat → Nat} {a b : Nat} (h : Bel Y a b) (s : Sw a b Y Z) : Bel Z a b := by
  rcases h with h | h
  · exact .inl h
  · by_cases e : a = 0
    · exact .inl e
    · refine .inr fun p h1 h2 => ?_
      rw [s.out (a - 1) (by omega)]
      exact s.all (P := fun v => Y (a - 1) ≤ v) h p h1 h2
theorem bel_left {Y : Nat → Nat} {a b m : Nat} (h : Bel Y a b) (hm : m ≤ b) : Bel Y a m := by
  rcases h with h | h
  · exact .inl h
  · exact .inr fun p h1 h2 => h p h1 (by omega)
def Left (Y : Nat → Nat) (a b a' b' : Nat) : Prop := ∀ p q, a ≤ p → p < q → q < b → (p < a' ∨ b' ≤ p ∨ q < a' ∨ b' ≤ q) → Y p ≤ Y q
theorem left_begin (Y : Nat → Nat) (a b : Nat) : Left Y a b a b := fun p q h1 h2 h3 h4 => by omega
theorem left_sw {Y Z : Nat → Nat} {a b a' b' : Nat} (h : Left Y a b a' b') (s : Sw a' b' Y Z) (ha : a ≤ a') (hb : b' ≤ b) : Left Z a b a' b' := fun p q h1 h2 h3 h4 => by
  by_cases e1 : a' ≤ p ∧ p < b'
  · rw [s.out q (by omega)]
    exact s.all (P := fun v => v ≤ Y q) (fun r hr1 hr2 => h r q (by omega) (by omega) h3 (by omega)) p e1.1 e1.2
  · rw [s.out p (by omega)]
    by_cases e2 : a' ≤ q ∧ q < b'
    · exact s.all (P := fun v => Y p ≤ v) (fun r hr1 hr2 => h p r h1 (by omega) (by omega) (by omega)) q e2.1 e2.2
    · rw [s.out q (by omega)]
      exact h p q h1 h2 h3 h4
theorem left_done {Y : Nat → Nat} {a b a' b' : Nat} (h : Left Y a b a' b') (u : Up Y a' b') : Up Y a b := fun p q h1 h2 h3 => by
  by_cases e : a' ≤ p ∧ q < b'
  · exact u p q e.1 h2 e.2
  · exact h p q h1 h2 h3 (by omega)
def Parted (Y : Nat → Nat) (a b m : Nat) : Prop := (∀ p, a ≤ p → p < m → Y p ≤ Y m) ∧ ∀ p, m < p → p < b → Y m ≤ Y p
theorem parted_left {Y Z : Nat → Nat} {a b m : Nat} (h : Parted Y a b m) (s : Sw a m Y Z) (hm : m < b) : Parted Z a b m :=
  ⟨fun p h1 h2 => by
    rw [s.out m (by omega)]
    exact s.all (P := fun v => v ≤ Y m) h.1 p h1 h2, fun p h1 h2 => by
    rw [s.out m (by omega), s.out p (by omega)]
    exact h.2 p h1 h2⟩
theorem parted_right {Y Z : Nat → Nat} {a b m : Nat} (h : Parted Y a b m) (s : Sw (m + 1) b Y Z) : Parted Z a b m :=
  ⟨fun p h1 h2 => by
    rw [s.out m (by omega), s.out p (by omega)]
    exact h.1 p h1 h2, fun p h1 h2 => by
    rw [s.out m (by omega)]
    exact s.all (P := fun v => Y m ≤ v) (fun r hr1 hr2 => h.2 r (by omega) hr2) p (by omega) h2⟩
theorem left_lower {Y : Nat → Nat} {a b a' b' m : Nat} (h : Left Y a b a' b') (k : Parted Y a' b' m) (hm : a' ≤ m) (hmb : m < b') (u : Up Y a' m) : Left Y a b (m + 1) b' := fun p q h1 h2 h3 h4 => by
  by_cases e : a' ≤ p ∧ q < b'
  · by_cases e1 : q < m
    · exact u p q e.1 h2 e1
    · by_cases e2 : q = m
      · subst e2; exact k.1 p e.1 h2
      · have hq := k.2 q (by omega) e.2
        by_cases e3 : p = m
        · subst e3; exact hq
        · have hp := k.1 p e.1 (by omega)
          omega
  · exact h p q h1 h2 h3 (by omega)
theorem left_upper {Y : Nat → Nat} {a b a' b' m : Nat} (h : Left Y a b a' b') (k : Parted Y a' b' m) (hm : a' ≤ m) (hmb : m < b') (u : Up Y (m + 1) b') : Left Y a b a' m := fun p q h1 h2 h3 h4 => by
  by_cases e : a' ≤ p ∧ q < b'
  · by_cases e1 : m < p
    · exact u p q e1 h2 e.2
    · by_cases e2 : p = m
      · subst e2; exact k.2 q h2 e.2
      · have hp := k.1 p e.1 (by omega)
        by_cases e3 : q = m
        · subst e3; exact hp
        · have hq := k.2 q (by omega) e.2
          omega
  · exact h p q h1 h2 h3 (by omega)
theorem bel_right {Y : Nat → Nat} {a b m : Nat} (k : Parted Y a b m) : Bel Y (m + 1) b := .inr fun p h1 h2 => by
  rw [Nat.add_sub_cancel]
  exact k.2 p (by omega) h2
/-! ### The shifts -/
theorem up_next {Y : Nat → Nat} {a i : Nat} (h : Up Y a i) (ha : a < i) (hle : Y (i - 1) ≤ Y i) : Up Y a (i + 1) := fun p q h1 h2 h3 => by
  by_cases e : q = i
  · subst e
    by_cases e2 : p = q - 1
    · rw [e2]; exact hle
    · have := h p (q - 1) h1 (by omega) (by omega)
      omega
  · exact h p q h1 h2 (by omega)
theorem up_one (Y : Nat → Nat) (a : Nat) : Up Y a (a + 1) := fun p q h1 h2 h3 => by omega
/-! ### The parting -/
def Mid (Y : Nat → Nat) (a b i j : Nat) : Prop := (∀ p, a < p → p < i → Y p < Y a) ∧ ∀ p, j < p → p < b → Y a ≤ Y p
theorem mid_i {Y : Nat → Nat} {a b i j : Nat} (h : Mid Y a b i j) (hlt : Y i < Y a) : Mid Y a b (i + 1) j := ⟨fun p h1 h2 => by
  by_cases e : p = i
  · subst e; exact hlt
  · exact h.1 p h1 (by omega), h.2⟩
theorem mid_j {Y : Nat → Nat} {a b i j : Nat} (h : Mid Y a b i (j + 1)) (hle : Y a ≤ Y (j + 1)) : Mid Y a b i j := ⟨h.1, fun p h1 h2 => by
  by_cases e : p = j + 1
  · subst e; exact hle
  · exact h.2 p (by omega) h2⟩
theorem mid_swap {Y : Nat → Nat} {a b i j : Nat} (h : Mid Y a b i j) (ha : a < i) (hij : i < j) (hi : Y a ≤ Y i) (hj : Y j < Y a) : Mid (swp Y i j) a b (i + 1) (j - 1) := by
  refine ⟨fun p h1 h2 => ?_, fun p h1 h2 => ?_⟩
  · rw [swp_o (p := a) _ (by omega) (by omega)]
    by_cases e : p = i
    · subst e; rw [swp_l]; exact hj
    · rw [swp_o _ e (by omega)]; exact h.1 p h1 (by omega)
  · rw [swp_o (p := a) _ (by omega) (by omega)]
    by_cases e : p = j
    · subst e; rw [swp_r]; exact hi
    · rw [swp_o _ (by omega) e]; exact h.2 p (by omega) h2
theorem mid_done {Y : Nat → Nat} {a b i j : Nat} (h : Mid Y a b i j) (ha : a ≤ j) (hij : j < i) : Parted (swp Y j a) a b j := by
  refine ⟨fun p h1 h2 => ?_, fun p h1 h2 => ?_⟩
  · rw [swp_l]
    by_cases e : p = a
    · subst e; rw [swp_r]
      by_cases e2 : j = p
      · omega
      · exact Nat.le_of_lt (h.1 j (by omega) hij)
    · rw [swp_o _ (by omega) e]
      exact Nat.le_of_lt (h.1 p (by omega) (by omega))
  · rw [swp_l, swp_o _ (by omega) (by omega)]
    exact h.2 p h1 h2
end SO
end IS
end Go.Proofs.YtfhidjkhmjdioaaGreat

namespace Go.Proofs.YtfhidjkhmjdioaaGreat
open Go.ChangeShapes Go.WideShapes Go.ChangeAt Go.RowKit
set_option linter.unusedVariables false
set_option linter.unusedSimpArgs false
namespace IS
set_option maxRecDepth 100000 in
set_option maxHeartbeats 1000000 in
theorem reverse_any (g N cap : Nat) (rest : List Value) (a b : Nat) (X : Nat → Nat) (w : World) (h : RW w g N X rest) (hab : a < b) (hb : b ≤ N) (hN : N ≤ 65536) (hcap : N ≤ cap) :
    Calls Tryz.prog 183 #[.slice (some ⟨g, 0, none⟩) N cap, .int .i64 (a : Int), .int .i64 (b : Int)] w fun e w' => e = .returned (.tuple #[]) ∧ Two g g w w' ∧ ∃ Y, RW w' g N Y rest ∧ SO.Sw a b X Y := by
  have h := W_hid h
  go_enter Tryz.func183, Tryz.ntmps183
  go_wp2_with fail
  go_loopw [6, 7] (fun v u wr => ∃ (i j : Nat) (Y : Nat → Nat), v = .int .i64 (i : Int) ∧ u = .int .i64 (j : Int) ∧ a ≤ i ∧ j < b ∧ Hid (RW wr g N Y rest) ∧ Hid (SO.Sw a b X Y) ∧ Hid (Two g g w wr)) (fun _ u _ => (intOf u).toNat)
  case atStart => exact ⟨a, b - 1, X, rfl, by congr 1; omega, Nat.le_refl _, by omega, h, W_hid .refl, W_hid (Two.refl _ _ _)⟩
  case round =>
    obtain ⟨i, j, Y, rfl, rfl, hai, hjb, hR, hS, hT⟩ := hrel
    by_cases hij : i < j
    · have ci := hR.out.cell i (by omega)
      have cj := hR.out.cell j (by omega)
      have fi := hR.out.fz i
      have fj := hR.out.fz j
      have hR2 := W_hid (hR.out.swap i j (by omega) (by omega))
      have hS2 := W_hid (hS.out.step (i := i) (j := j) hai (by omega) (by omega) hjb)
      have hT2 := W_hid ((hT.out.setCell (p := ⟨g, i, none⟩) (.inl rfl) (.int .i64 (Y j : Int))).setCell (p := ⟨g, j, none⟩) (.inl rfl) (.int .i64 (Y i : Int)))
      go_wp2_with fail
      go_region
      go_wp2_with fail
      exact ⟨⟨i + 1, j - 1, _, by go_num, by congr 1; omega, by omega, by omega, W_hid hR2.out.drew, hS2, W_hid ⟨hT2.out.os, hT2.out.tape, hT2.out.output, hT2.out.size, hT2.out.block⟩⟩, by simp [intOf]; omega⟩
    · go_wp2_with fail
      go_end0
      exact ⟨rfl, hT.out, Y, hR.out, hS.out⟩
structure Cnt (g N : Nat) (X : Nat → Nat) (rest : List Value) (y s d : Nat) (w w' : World) : Prop where
  row : RW w' g N X rest
  two : Two y y w w'
  ex : ∃ t, s ≤ t ∧ t ≤ s + d ∧ Blk w' y 3 [.int .i64 (t : Int)]
set_option maxRecDepth 100000 in
set_option maxHeartbeats 1000000 in
theorem order2_any (g N cap : Nat) (rest : List Value) (a b y s : Nat) (X : Nat → Nat) (w : World) (h : RW w g N X rest) (ha : a < N) (hb : b < N) (hN : N ≤ 65536) (hcap : N ≤ cap) (hy : Blk w y 3 [.int .i64 (s : Int)]) (hyg : y ≠ g) (hs : s ≤ 1000) :
    Calls Tryz.prog 199 #[.slice (some ⟨g, 0, none⟩) N cap, .int .i64 (a : Int), .int .i64 (b : Int), .pointer (some ⟨y, 0, none⟩)] w fun e w' => ∃ p q : Nat, e = .returned (.tuple #[.int .i64 (p : Int), .int .i64 (q : Int)]) ∧ ((p = a ∧ q = b) ∨ (p = b ∧ q = a)) ∧ Cnt g N X rest y s 1 w w' := by
  have ca := h.cell a ha
  have cb := h.cell b hb
  have cy := hy.cell (j := 0) rfl
  have fy := hy.fz
  have hL := W_hid (fun t => Calls.quiet_of_same (Less_any (X b) (X a) (w.drewN t)))
  have h := W_hid h
  have hy := W_hid hy
  cases hd : decide (X b < X a) with
  | true =>
    rw [hd] at hL
    clear hd
    generalize X a = xa at *
    generalize X b = xb at *
    go_enter Tryz.func199, Tryz.ntmps199
    go_wp2_with fail
    go_quiet ((go_at_call 185; exact hL.out _))
    obtain ⟨W, hW⟩ : ∃ W, w.drewN nq = W := ⟨_, rfl⟩
    have hR : RW W g N X rest := by rw [← hW]; exact h.out.drewN nq
    have hY : Blk W y 3 [.int .i64 (s : Int)] := by rw [← hW]; exact hy.out
    have hT : Two y y w W := by rw [← hW]; exact (Two.refl _ _ _).drew nq
    rw [hW]
    have c2 := hY.cell (j := 0) rfl
    have f2 := hY.fz
    have hfin := W_hid (show Cnt g N X rest y s 1 w (W.setCell ⟨y, 0, none⟩ (.int .i64 ((s + 1 : Nat) : Int))) from ⟨hR.far (Ne.symm hyg) _, hT.setCell (.inl rfl) _, s + 1, by omega, by omega, hY.set 0 _⟩)
    rw [show ((s + 1 : Nat) : Int) = (s : Int) + 1 from by omega] at hfin
    clear hR hY hT
    go_wp2
    go_ret2
    exact ⟨b, a, rfl, .inr ⟨rfl, rfl⟩, hfin.out⟩
  | false =>
    rw [hd] at hL
    clear hd
    generalize X a = xa at *
    generalize X b = xb at *
    go_enter Tryz.func199, Tryz.ntmps199
    go_wp2_with fail
    go_quiet ((go_at_call 185; exact hL.out _))
    have hfin := W_hid (show Cnt g N X rest y s 1 w (w.drewN nq) from ⟨h.out.drewN nq, (Two.refl _ _ _).drew nq, s, Nat.le_refl _, by omega, hy.out⟩)
    go_wp2
    go_ret2
    exact ⟨a, b, rfl, .inl ⟨rfl, rfl⟩, hfin.out⟩
end IS
namespace IS
theorem Cnt.trans {g N y s d d' t : Nat} {X : Nat → Nat} {rest : List Value} {w w1 w2 : World} (h : Cnt g N X rest y s d w w1) (hst : t ≤ s + d) (hst2 : s ≤ t) (k : Cnt g N X rest y t d' w1 w2) : Cnt g N X rest y s (d + d') w w2 := by
  obtain ⟨u, h1, h2, h3⟩ := k.ex
  exact ⟨k.row, h.two.trans k.two, u, by omega, by omega, h3⟩
set_option maxRecDepth 100000 in
set_option maxHeartbeats 1000000 in
theorem median_any (g N cap : Nat) (rest : List Value) (a b c y s : Nat) (X : Nat → Nat) (w : World) (h : RW w g N X rest) (ha : a < N) (hb : b < N) (hc : c < N) (hN : N ≤ 65536) (hcap : N ≤ cap) (hy : Blk w y 3 [.int .i64 (s : Int)]) (hyg : y ≠ g) (hs : s ≤ 900) :
    Calls Tryz.prog 197 #[.slice (some ⟨g, 0, none⟩) N cap, .int .i64 (a : Int), .int .i64 (b : Int), .int .i64 (c : Int), .pointer (some ⟨y, 0, none⟩)] w fun e w' => ∃ p : Nat, e = .returned (.int .i64 (p : Int)) ∧ (p = a ∨ p = b ∨ p = c) ∧ Cnt g N X rest y s 3 w w' := by
  have o2 := W_hid (fun a b s w h ha hb hy hs => order2_any g N cap rest a b y s X w h ha hb hN hcap hy hyg hs)
  have h1 := W_hid (o2.out a b s w h ha hb hy (by omega))
  clear h hy
  go_enter Tryz.func197, Tryz.ntmps197
  go_wp2_with fail
  refine h1.out.mono ?_
  rintro e w1 ⟨p1, q1, rfl, hp1, k1⟩
  obtain ⟨s1, l1, u1, y1⟩ := k1.ex
  have h2 := W_hid (o2.out q1 c s1 w1 k1.row (by omega) hc y1 (by omega))
  replace k1 := W_hid k1
  replace hp1 := W_hid hp1
  clear y1 h1
  go_wp2_with fail
  refine h2.out.mono ?_
  rintro e w2 ⟨p2, q2, rfl, hp2, k2⟩
  obtain ⟨s2, l2, u2, y2⟩ := k2.ex
  have h3 := W_hid (o2.out p1 p2 s2 w2 k2.row (by have := hp1.out; omega) (by have := hp1.out; omega) y2 (by omega))
  replace k2 := W_hid k2
  replace hp2 := W_hid hp2
  clear y2 h2
  go_wp2_with fail
  refine h3.out.mono ?_
  rintro e w3 ⟨p3, q3, rfl, hp3, k3⟩
  have hfin := W_hid ((k1.out.trans u1 l1 k2.out).trans (by omega) (by omega) k3)
  replace hp3 := W_hid hp3
  clear k1 k2 k3 h3
  go_wp2
  go_ret
  exact ⟨q3, rfl, by have := hp1.out; have := hp2.out; have := hp3.out; omega, hfin.out⟩
set_option maxRecDepth 100000 in
set_option maxHeartbeats 1000000 in
theorem adjacent_any (g N cap : Nat) (rest : List Value) (a y s : Nat) (X : Nat → Nat) (w : World) (h : RW w g N X rest) (h1 : 1 ≤ a) (ha : a + 1 < N) (hN : N ≤ 65536) (hcap : N ≤ cap) (hy : Blk w y 3 [.int .i64 (s : Int)]) (hyg : y ≠ g) (hs : s ≤ 900) :
    Calls Tryz.prog 196 #[.slice (some ⟨g, 0, none⟩) N cap, .int .i64 (a : Int), .pointer (some ⟨y, 0, none⟩)] w fun e w' => ∃ p : Nat, e = .returned (.int .i64 (p : Int)) ∧ a ≤ p + 1 ∧ p ≤ a + 1 ∧ Cnt g N X rest y s 3 w w' := by
  have hm := median_any g N cap rest (a - 1) a (a + 1) y s X w h (by omega) (by omega) (by omega) hN hcap hy hyg hs
  rw [show ((a - 1 : Nat) : Int) = (a : Int) - 1 from by omega, show ((a + 1 : Nat) : Int) = (a : Int) + 1 from by omega] at hm
  replace hm := W_hid hm
  clear h hy
  go_enter Tryz.func196, Tryz.ntmps196
  go_wp2_with fail
  refine hm.out.mono ?_
  rintro e w1 ⟨p, rfl, hp, k⟩
  have hfin := W_hid (show a ≤ p + 1 ∧ p ≤ a + 1 ∧ Cnt g N X rest y s 3 w w1 from ⟨by omega, by omega, k⟩)
  clear hp k
  go_wp2
  go_ret
  exact ⟨p, rfl, hfin.out⟩
end IS
namespace IS
set_option maxRecDepth 100000 in
set_option maxHeartbeats 4000000 in
theorem sift_any (g N cap : Nat) (rest : List Value) (lo hi f : Nat) (X : Nat → Nat) (w : World) (h : RW w g N X rest) (hlo : lo ≤ hi) (hf : f + hi ≤ N) (hN : N ≤ 65536) (hcap : N ≤ cap) (hH : SO.Heap X f (lo + 1) hi) :
    Calls Tryz.prog 193 #[.slice (some ⟨g, 0, none⟩) N cap, .int .i64 (lo : Int), .int .i64 (hi : Int), .int .i64 (f : Int)] w fun e w' => e = .returned (.tuple #[]) ∧ Two g g w w' ∧ ∃ Y, RW w' g N Y rest ∧ SO.Sw (f + lo) (f + hi) X Y ∧ SO.Heap Y f lo hi := by
  have h := W_hid h
  obtain ⟨hx0, hg0⟩ := SO.heap_begin hH
  have hx0 := W_hid hx0
  have hg0 := W_hid hg0
  clear hH
  go_enter Tryz.func193, Tryz.ntmps193
  go_wp2_with fail
  go_loopw [8, 9] (fun v u wr => ∃ (r : Nat) (Z : Nat → Nat), v = .int .i64 (r : Int) ∧ lo ≤ r ∧ r ≤ hi ∧ Hid (RW wr g N Z rest) ∧ Hid (SO.Sw (f + lo) (f + hi) X Z) ∧ Hid (SO.HeapX Z f lo hi r) ∧ Hid (SO.Grand Z f lo hi r) ∧ Hid (Two g g w wr)) (fun v _ _ => hi - (intOf v).toNat)
  case atStart => exact ⟨lo, X, rfl, Nat.le_refl _, hlo, h, W_hid .refl, hx0, hg0, W_hid (Two.refl _ _ _)⟩
  case round =>
    clear hx0 hg0
    obtain ⟨r, Z, rfl, hlr, hrh, hR, hS, hHX, hG, hT⟩ := hrel
    obtain ⟨c1, hc1⟩ : ∃ c1, 2 * r + 1 = c1 := ⟨_, rfl⟩
    have e1 : 2 * (r : Int) + 1 = (c1 : Int) := by omega
    by_cases h1 : c1 < hi
    · obtain ⟨p0, hp0⟩ : ∃ p, f + r = p := ⟨_, rfl⟩
      obtain ⟨p1, hp1⟩ : ∃ p, f + c1 = p := ⟨_, rfl⟩
      obtain ⟨c2, hc2⟩ : ∃ c, c1 + 1 = c := ⟨_, rfl⟩
      obtain ⟨p2, hp2⟩ : ∃ p, p1 + 1 = p := ⟨_, rfl⟩
      have f0 : (f : Int) + (r : Int) = (p0 : Int) := by omega
      have f1 : (f : Int) + (c1 : Int) = (p1 : Int) := by omega
      have f2 : (p1 : Int) + 1 = (p2 : Int) := by omega
      have f3 : (c1 : Int) + 1 = (c2 : Int) := by omega
      have f4 : (f : Int) + (c2 : Int) = (p2 : Int) := by omega
      have b0 : p0 < N := by omega
      have b1 : p1 < N := by omega
      have hcc : Hid (c1 = 2 * r + 1 ∧ c2 = 2 * r + 2 ∧ f + r = p0 ∧ f + c1 = p1 ∧ f + c2 = p2) := ⟨by omega, by omega, hp0, hp1, by omega⟩
      have d0 := hR.out.cell p0 b0
      have d1 := hR.out.cell p1 b1
      have gz := hR.out.fz
      obtain ⟨v0, hv0⟩ : ∃ v, Z p0 = v := ⟨_, rfl⟩
      obtain ⟨v1, hv1⟩ : ∃ v, Z p1 = v := ⟨_, rfl⟩
      rw [hv0] at d0
      rw [hv1] at d1
      replace hv0 := W_hid hv0
      replace hv1 := W_hid hv1
      by_cases h2 : c2 < hi
      · have b2 : p2 < N := by omega
        have d2 := hR.out.cell p2 b2
        obtain ⟨v2, hv2⟩ : ∃ v, Z p2 = v := ⟨_, rfl⟩
        rw [hv2] at d2
        replace hv2 := W_hid hv2
        have hL := W_hid (fun t => Calls.quiet_of_same (Less_any v1 v2 (wr.drewN t)))
        clear hc1 hc2 hp0 hp1 hp2
        by_cases h3 : v1 < v2
        · rw [show decide (v1 < v2) = true by simp [h3]] at hL
          have hm : Hid (∀ d, (d = 2 * r + 1 ∨ d = 2 * r + 2) → d < hi → Z (f + d) ≤ Z (f + c2)) := by
            obtain ⟨q1, q2, q3, q4, q5⟩ := hcc.out
            have := hv1.out
            have := hv2.out
            rw [← q4] at hv1
            rintro d (rfl | rfl) hd
            · rw [q5, hv2.out, ← q1, hv1.out]; omega
            · rw [← q2]; exact Nat.le_refl _
          replace h3 := W_hid h3
          have hLL := W_hid (fun W t => Calls.quiet_of_same (Less_any v0 v2 (World.drewN W t)))
          have hcx : Hid ((c2 = 2 * r + 1 ∨ c2 = 2 * r + 2) ∧ c2 < hi ∧ f + c2 = p2) := by
            obtain ⟨q1, q2, q3, q4, q5⟩ := hcc.out
            exact ⟨by omega, by omega, by omega⟩
          go_wp2_with fail
          go_quiet ((go_at_call 185; exact hL.out _))
          obtain ⟨W, hW⟩ : ∃ W, wr.drewN nq = W := ⟨_, rfl⟩
          have hR3 : RW W g N Z rest := by rw [← hW]; exact hR.out.drewN nq
          have hT3 : Two g g w W := by rw [← hW]; exact hT.out.drew nq
          rw [hW]
          clear hW d0 d1 d2 gz
          have d0 := hR3.cell p0 b0
          have dc := hR3.cell p2 b2
          have gz := hR3.fz
          rw [hv0.out] at d0
          rw [hv2.out] at dc
          replace hR3 := W_hid hR3
          replace hT3 := W_hid hT3
          by_cases h4 : v0 < v2
          · replace hLL := W_hid (hLL.out W)
            rw [show decide (v0 < v2) = true by simp [h4]] at hLL
            have hnx := W_hid (SO.heap_down hHX.out hG.out hlr hcx.out.1 hcx.out.2.1 hm.out (by rw [hcx.out.2.2, hcc.out.2.2.1, hv0.out, hv2.out]; exact h4))
            rw [hcx.out.2.2, hcc.out.2.2.1] at hnx
            have hS3 := W_hid (hS.out.step (i := p0) (j := p2) (by have := hcc.out.2.2.1; omega) (by have := hcc.out.2.2.1; omega) (by have := hcx.out; omega) (by have := hcx.out; omega))
            have hlt : Hid (r < c2 ∧ c2 ≤ hi ∧ lo ≤ c2) := by
              have := hcx.out
              show _ ∧ _ ∧ _
              omega
            replace h4 := W_hid h4
            go_wp2_with fail
            go_quiet ((go_at_call 185; exact hLL.out _))
            go_wp2_with fail
            obtain ⟨V, hV⟩ : ∃ V, W.drewN nq = V := ⟨_, rfl⟩
            have hR4 : RW V g N Z rest := by rw [← hV]; exact hR3.out.drewN nq
            have hT4 : Two g g w V := by rw [← hV]; exact hT3.out.drew nq
            rw [hV]
            clear hV d0 dc gz
            have d0 := hR4.cell p0 b0
            have dc := hR4.cell p2 b2
            have gz := hR4.fz
            rw [hv0.out] at d0
            rw [hv2.out] at dc
            have hR5 := W_hid (hR4.swap p0 p2 b0 b2)
            rw [hv0.out, hv2.out] at hR5
            have hT5 := W_hid ((hT4.setCell (p := ⟨g, p0, none⟩) (.inl rfl) (.int .i64 (v2 : Int))).setCell (p := ⟨g, p2, none⟩) (.inl rfl) (.int .i64 (v0 : Int)))
            clear hR4 hT4
            go_region
            go_wp2_with fail
            exact ⟨⟨c2, _, rfl, hlt.out.2.2, hlt.out.2.1, W_hid hR5.out.drew, hS3, W_hid hnx.out.1, W_hid hnx.out.2, W_hid ⟨hT5.out.os, hT5.out.tape, hT5.out.output, hT5.out.size, hT5.out.block⟩⟩, by have := hlt.out; simp [intOf]; omega⟩
          · replace hLL := W_hid (hLL.out W)
            rw [show decide (v0 < v2) = false by simp [h4]] at hLL
            have hfin := W_hid (SO.heap_stop hHX.out hcx.out.1 hm.out (by rw [hcx.out.2.2, hcc.out.2.2.1, hv0.out, hv2.out]; omega))
            replace h4 := W_hid h4
            go_wp2_with fail
            go_quiet ((go_at_call 185; exact hLL.out _))
            go_wp2_with fail
            refine bodyPost_ret (results_none rfl _ _ _) rfl ?_
            exact ⟨rfl, hT3.out.drew nq, Z, hR3.out.drewN nq, hS.out, hfin.out⟩
        · rw [show decide (v1 < v2) = false by simp [h3]] at hL
          have hm : Hid (∀ d, (d = 2 * r + 1 ∨ d = 2 * r + 2) → d < hi → Z (f + d) ≤ Z (f + c1)) := by
            obtain ⟨q1, q2, q3, q4, q5⟩ := hcc.out
            rintro d (rfl | rfl) hd
            · rw [← q1]; exact Nat.le_refl _
            · rw [← q2, q5, hv2.out, q4, hv1.out]; omega
          replace h3 := W_hid h3
          have hLL := W_hid (fun W t => Calls.quiet_of_same (Less_any v0 v1 (World.drewN W t)))
          have hcx : Hid ((c1 = 2 * r + 1 ∨ c1 = 2 * r + 2) ∧ c1 < hi ∧ f + c1 = p1) := by
            obtain ⟨q1, q2, q3, q4, q5⟩ := hcc.out
            exact ⟨by omega, by omega, by omega⟩
          go_wp2_with fail
          go_quiet ((go_at_call 185; exact hL.out _))
          obtain ⟨W, hW⟩ : ∃ W, wr.drewN nq = W := ⟨_, rfl⟩
          have hR3 : RW W g N Z rest := by rw [← hW]; exact hR.out.drewN nq
          have hT3 : Two g g w W := by rw [← hW]; exact hT.out.drew nq
          rw [hW]
          clear hW d0 d1 d2 gz
          have d0 := hR3.cell p0 b0
          have dc := hR3.cell p1 b1
          have gz := hR3.fz
          rw [hv0.out] at d0
          rw [hv1.out] at dc
          replace hR3 := W_hid hR3
          replace hT3 := W_hid hT3
          by_cases h4 : v0 < v1
          · replace hLL := W_hid (hLL.out W)
            rw [show decide (v0 < v1) = true by simp [h4]] at hLL
            have hnx := W_hid (SO.heap_down hHX.out hG.out hlr hcx.out.1 hcx.out.2.1 hm.out (by rw [hcx.out.2.2, hcc.out.2.2.1, hv0.out, hv1.out]; exact h4))
            rw [hcx.out.2.2, hcc.out.2.2.1] at hnx
            have hS3 := W_hid (hS.out.step (i := p0) (j := p1) (by have := hcc.out.2.2.1; omega) (by have := hcc.out.2.2.1; omega) (by have := hcx.out; omega) (by have := hcx.out; omega))
            have hlt : Hid (r < c1 ∧ c1 ≤ hi ∧ lo ≤ c1) := by
              have := hcx.out
              show _ ∧ _ ∧ _
              omega
            replace h4 := W_hid h4
            go_wp2_with fail
            go_quiet ((go_at_call 185; exact hLL.out _))
            go_wp2_with fail
            obtain ⟨V, hV⟩ : ∃ V, W.drewN nq = V := ⟨_, rfl⟩
            have hR4 : RW V g N Z rest := by rw [← hV]; exact hR3.out.drewN nq
            have hT4 : Two g g w V := by rw [← hV]; exact hT3.out.drew nq
            rw [hV]
            clear hV d0 dc gz
            have d0 := hR4.cell p0 b0
            have dc := hR4.cell p1 b1
            have gz := hR4.fz
            rw [hv0.out] at d0
            rw [hv1.out] at dc
            have hR5 := W_hid (hR4.swap p0 p1 b0 b1)
            rw [hv0.out, hv1.out] at hR5
            have hT5 := W_hid ((hT4.setCell (p := ⟨g, p0, none⟩) (.inl rfl) (.int .i64 (v1 : Int))).setCell (p := ⟨g, p1, none⟩) (.inl rfl) (.int .i64 (v0 : Int)))
            clear hR4 hT4
            go_region
            go_wp2_with fail
            exact ⟨⟨c1, _, rfl, hlt.out.2.2, hlt.out.2.1, W_hid hR5.out.drew, hS3, W_hid hnx.out.1, W_hid hnx.out.2, W_hid ⟨hT5.out.os, hT5.out.tape, hT5.out.output, hT5.out.size, hT5.out.block⟩⟩, by have := hlt.out; simp [intOf]; omega⟩
          · replace hLL := W_hid (hLL.out W)
            rw [show decide (v0 < v1) = false by simp [h4]] at hLL
            have hfin := W_hid (SO.heap_stop hHX.out hcx.out.1 hm.out (by rw [hcx.out.2.2, hcc.out.2.2.1, hv0.out, hv1.out]; omega))
            replace h4 := W_hid h4
            go_wp2_with fail
            go_quiet ((go_at_call 185; exact hLL.out _))
            go_wp2_with fail
            refine bodyPost_ret (results_none rfl _ _ _) rfl ?_
            exact ⟨rfl, hT3.out.drew nq, Z, hR3.out.drewN nq, hS.out, hfin.out⟩
      · clear hc1 hc2 hp0 hp1 hp2
        have hm : Hid (∀ d, (d = 2 * r + 1 ∨ d = 2 * r + 2) → d < hi → Z (f + d) ≤ Z (f + c1)) := by
          obtain ⟨q1, q2, q3, q4, q5⟩ := hcc.out
          rintro d (rfl | rfl) hd
          · rw [← q1]; exact Nat.le_refl _
          · omega
        have hLL := W_hid (fun W t => Calls.quiet_of_same (Less_any v0 v1 (World.drewN W t)))
        have hcx : Hid ((c1 = 2 * r + 1 ∨ c1 = 2 * r + 2) ∧ c1 < hi ∧ f + c1 = p1) := by
          obtain ⟨q1, q2, q3, q4, q5⟩ := hcc.out
          exact ⟨by omega, by omega, by omega⟩
        go_wp2_with fail
        go_quiet (fail)
        obtain ⟨W, hW⟩ : ∃ W, wr.drewN nq = W := ⟨_, rfl⟩
        have hR3 : RW W g N Z rest := by rw [← hW]; exact hR.out.drewN nq
        have hT3 : Two g g w W := by rw [← hW]; exact hT.out.drew nq
        rw [hW]
        clear hW d0 d1 gz
        have d0 := hR3.cell p0 b0
        have dc := hR3.cell p1 b1
        have gz := hR3.fz
        rw [hv0.out] at d0
        rw [hv1.out] at dc
        replace hR3 := W_hid hR3
        replace hT3 := W_hid hT3
        by_cases h4 : v0 < v1
        · replace hLL := W_hid (hLL.out W)
          rw [show decide (v0 < v1) = true by simp [h4]] at hLL
          have hnx := W_hid (SO.heap_down hHX.out hG.out hlr hcx.out.1 hcx.out.2.1 hm.out (by rw [hcx.out.2.2, hcc.out.2.2.1, hv0.out, hv1.out]; exact h4))
          rw [hcx.out.2.2, hcc.out.2.2.1] at hnx
          have hS3 := W_hid (hS.out.step (i := p0) (j := p1) (by have := hcc.out.2.2.1; omega) (by have := hcc.out.2.2.1; omega) (by have := hcx.out; omega) (by have := hcx.out; omega))
          have hlt : Hid (r < c1 ∧ c1 ≤ hi ∧ lo ≤ c1) := by
            have := hcx.out
            show _ ∧ _ ∧ _
            omega
          replace h4 := W_hid h4
          go_wp2_with fail
          go_quiet ((go_at_call 185; exact hLL.out _))
          go_wp2_with fail
          obtain ⟨V, hV⟩ : ∃ V, W.drewN nq = V := ⟨_, rfl⟩
          have hR4 : RW V g N Z rest := by rw [← hV]; exact hR3.out.drewN nq
          have hT4 : Two g g w V := by rw [← hV]; exact hT3.out.drew nq
          rw [hV]
          clear hV d0 dc gz
          have d0 := hR4.cell p0 b0
          have dc := hR4.cell p1 b1
          have gz := hR4.fz
          rw [hv0.out] at d0
          rw [hv1.out] at dc
          have hR5 := W_hid (hR4.swap p0 p1 b0 b1)
          rw [hv0.out, hv1.out] at hR5
          have hT5 := W_hid ((hT4.setCell (p := ⟨g, p0, none⟩) (.inl rfl) (.int .i64 (v1 : Int))).setCell (p := ⟨g, p1, none⟩) (.inl rfl) (.int .i64 (v0 : Int)))
          clear hR4 hT4
          go_region
          go_wp2_with fail
          exact ⟨⟨c1, _, rfl, hlt.out.2.2, hlt.out.2.1, W_hid hR5.out.drew, hS3, W_hid hnx.out.1, W_hid hnx.out.2, W_hid ⟨hT5.out.os, hT5.out.tape, hT5.out.output, hT5.out.size, hT5.out.block⟩⟩, by have := hlt.out; simp [intOf]; omega⟩
        · replace hLL := W_hid (hLL.out W)
          rw [show decide (v0 < v1) = false by simp [h4]] at hLL
          have hfin := W_hid (SO.heap_stop hHX.out hcx.out.1 hm.out (by rw [hcx.out.2.2, hcc.out.2.2.1, hv0.out, hv1.out]; omega))
          replace h4 := W_hid h4
          go_wp2_with fail
          go_quiet ((go_at_call 185; exact hLL.out _))
          go_wp2_with fail
          refine bodyPost_ret (results_none rfl _ _ _) rfl ?_
          exact ⟨rfl, hT3.out.drew nq, Z, hR3.out.drewN nq, hS.out, hfin.out⟩
    · have hfin : SO.Heap Z f lo hi := SO.heap_leaf hHX.out (by omega)
      go_wp2_with fail
      go_end0
      exact ⟨rfl, hT.out, Z, hR.out, hS.out, hfin⟩
set_option maxRecDepth 100000 in
set_option maxHeartbeats 4000000 in
theorem heap_any (g N cap : Nat) (rest : List Value) (a b : Nat) (X : Nat → Nat) (w : World) (h : RW w g N X rest) (hab : a < b) (hb : b ≤ N) (hN : N ≤ 65536) (hcap : N ≤ cap) :
    Calls Tryz.prog 180 #[.slice (some ⟨g, 0, none⟩) N cap, .int .i64 (a : Int), .int .i64 (b : Int)] w fun e w' => e = .returned (.tuple #[]) ∧ Two g g w w' ∧ ∃ Y, RW w' g N Y rest ∧ SO.Sw a b X Y ∧ SO.Up Y a b := by
  have h := W_hid h
  obtain ⟨n, hn⟩ : ∃ n, b - a = n := ⟨_, rfl⟩
  have hni : (b : Int) - (a : Int) = (n : Int) := by omega
  have hn1 : 1 ≤ n := by omega
  have hnb : a + n = b := by omega
  obtain ⟨m, hm⟩ : ∃ m, (n - 1) / 2 = m := ⟨_, rfl⟩
  have hn0 : (n : Int) - 1 = ((n - 1 : Nat) : Int) := by omega
  have hmi : ((n - 1 : Nat) : Int).tdiv 2 = (m : Int) := by rw [← hm]; rfl
  obtain ⟨n1, hn2⟩ : ∃ n1, n - 1 = n1 := ⟨_, rfl⟩
  rw [hn2] at hn0 hmi
  have hmn : m < n := by omega
  have hm0 : Hid (SO.Heap X a (m + 1) n) := fun i c h1 h2 h3 => by omega
  have hn3 : n1 + 1 = n := by omega
  have cS := W_hid (fun lo hi (Z : Nat → Nat) (W : World) h1 h2 h3 h4 => sift_any g N cap rest lo hi a Z W h1 h2 h3 hN hcap h4)
  clear hn hm hn2
  go_enter Tryz.func180, Tryz.ntmps180
  go_wp2_with fail
  go_loopw [9] (fun v wr => ∃ (i : Nat) (Z : Nat → Nat), v = .int .i64 ((i : Int) - 1) ∧ i ≤ n ∧ Hid (RW wr g N Z rest) ∧ Hid (SO.Sw a b X Z) ∧ Hid (SO.Heap Z a i n) ∧ Hid (Two g g w wr)) (fun v _ => (intOf v + 1).toNat)
  case atStart => exact ⟨m + 1, X, by congr 1; omega, by omega, h, W_hid .refl, hm0, W_hid (Two.refl _ _ _)⟩
  case round =>
    clear hm0
    obtain ⟨i, Z, rfl, hi, hR, hS, hH, hT⟩ := hrel
    rcases Nat.eq_zero_or_pos i with rfl | hpos
    · obtain ⟨wa, rfl⟩ : ∃ wa, wa = wr := ⟨wr, rfl⟩
      have ht0 : Hid (SO.Tail Z a n n) := fun p q h1 h2 h3 => by omega
      rw [show (((0 : Nat) : Int) - 1) = -1 from rfl]
      go_wp2_with fail
      go_loopw [10] (fun v wr => ∃ (i : Nat) (Z : Nat → Nat), v = .int .i64 ((i : Int) - 1) ∧ i ≤ n ∧ Hid (RW wr g N Z rest) ∧ Hid (SO.Sw a b X Z) ∧ Hid (SO.Heap Z a 0 i) ∧ Hid (SO.Tail Z a i n) ∧ Hid (Two g g w wr)) (fun v _ => (intOf v + 1).toNat)
      case atStart => exact ⟨n, Z, by congr 1; omega, Nat.le_refl _, hR, hS, hH, ht0, hT⟩
      case round =>
        clear hR hS hH ht0 hT
        obtain ⟨i, Z, rfl, hi, hR, hS, hH, hTl, hT⟩ := hrel
        rcases Nat.eq_zero_or_pos i with rfl | hpos
        · have hU := SO.tail_up hTl.out
          rw [hnb] at hU
          go_wp2_with fail
          go_end0
          exact ⟨rfl, hT.out, Z, hR.out, hS.out, hU⟩
        · obtain ⟨j, rfl⟩ : ∃ j, i = j + 1 := ⟨i - 1, by omega⟩
          have ej : ((j + 1 : Nat) : Int) - 1 = (j : Int) := by omega
          obtain ⟨q, hq⟩ : ∃ q, a + j = q := ⟨_, rfl⟩
          have eq : (a : Int) + (j : Int) = (q : Int) := by omega
          have bq : q < N := by omega
          have ba : a < N := by omega
          have da := hR.out.cell a ba
          have dq := hR.out.cell q bq
          have gz := hR.out.fz
          obtain ⟨va, hva⟩ : ∃ v, Z a = v := ⟨_, rfl⟩
          obtain ⟨vq, hvq⟩ : ∃ v, Z q = v := ⟨_, rfl⟩
          have hR2 := W_hid (hR.out.swap a q ba bq)
          have hT2 := W_hid ((hT.out.setCell (p := ⟨g, a, none⟩) (.inl rfl) (.int .i64 (Z q : Int))).setCell (p := ⟨g, q, none⟩) (.inl rfl) (.int .i64 (Z a : Int)))
          have hS2 := W_hid (hS.out.step (i := a) (j := q) (Nat.le_refl _) hab (by omega) (by omega))
          have hP := W_hid (SO.heap_pop hH.out)
          have hTl2 := W_hid (SO.tail_pop hH.out hTl.out (by omega))
          rw [hq] at hP hTl2
          rw [hva, hvq] at hR2 hT2
          rw [hva] at da
          rw [hvq] at dq
          replace hq := W_hid hq
          replace hva := W_hid hva
          replace hvq := W_hid hvq
          rw [ej]
          clear hR hT hH hTl ej
          obtain ⟨V, hV⟩ : ∃ V, World.drew ((wr.setCell ⟨g, a, none⟩ (.int .i64 (vq : Int))).setCell ⟨g, q, none⟩ (.int .i64 (va : Int))) = V := ⟨_, rfl⟩
          have hR3 : RW V g N (SO.swp Z a q) rest := by rw [← hV]; exact hR2.out.drew
          have hT3 : Hid (Two g g w V) := by rw [← hV]; exact ⟨hT2.out.os, hT2.out.tape, hT2.out.output, hT2.out.size, hT2.out.block⟩
          have hc := W_hid (cS.out 0 j (SO.swp Z a q) V hR3 (Nat.zero_le _) (by omega) hP.out)
          clear hR3 hR2 hT2
          have hcs : q = a ∨ ¬ q = a := by omega
          rcases hcs with hqa | hne
          case' inl =>
            obtain rfl : va = vq := hva.out.symm.trans (by rw [← hqa]; exact hvq.out)
            subst hqa
          case' inr => have hne2 : ¬ a = q := fun e => hne e.symm
          all_goals
            go_wp2_with fail
            go_region
            try rw [hV]
            clear hV da dq gz
            go_wp2_with (go_at_call 193; refine hc.out.mono ?_; rintro e w5 ⟨rfl, hT5, Y5, hR5, hS5, hH5⟩)
            go_roundw
            case rel => exact ⟨j, Y5, by go_num, by omega, W_hid hR5, W_hid (hS2.out.trans (hS5.wide (by omega) (by omega))), W_hid hH5, W_hid (SO.tail_sw hTl2.out (hS5.wide (by omega) (Nat.le_refl _))), W_hid (hT3.out.trans hT5)⟩
            case measure => first | (simp [intOf]; omega) | simp [intOf]
    · obtain ⟨j, rfl⟩ : ∃ j, i = j + 1 := ⟨i - 1, by omega⟩
      have ej : ((j + 1 : Nat) : Int) - 1 = (j : Int) := by omega
      have hc := W_hid (cS.out j n Z wr hR.out (by omega) (by omega) hH.out)
      rw [ej]
      clear ej hR hH
      go_wp2_with (go_at_call 193; refine hc.out.mono ?_; rintro e w5 ⟨rfl, hT5, Y5, hR5, hS5, hH5⟩)
      go_roundw
      case rel => exact ⟨j, Y5, by go_num, by omega, W_hid hR5, W_hid (hS.out.trans (hS5.wide (by omega) (by omega))), W_hid hH5, W_hid (hT.out.trans hT5)⟩
      case measure => first | (simp [intOf]; omega) | simp [intOf]
end IS
namespace IS
set_option maxRecDepth 100000 in
set_option maxHeartbeats 8000000 in
theorem partition_any (g N cap : Nat) (rest : List Value) (a b pv : Nat) (X : Nat → Nat) (w : World) (h : RW w g N X rest) (hap : a ≤ pv) (hpb : pv < b) (hb : b ≤ N) (hN : N ≤ 65536) (hcap : N ≤ cap) :
    Calls Tryz.prog 187 #[.slice (some ⟨g, 0, none⟩) N cap, .int .i64 (a : Int), .int .i64 (b : Int), .int .i64 (pv : Int)] w fun e w' => ∃ (m : Nat) (t : Bool), e = .returned (.tuple #[.int .i64 (m : Int), .bool t]) ∧ a ≤ m ∧ m < b ∧ Two g g w w' ∧ ∃ Y, RW w' g N Y rest ∧ SO.Sw a b X Y ∧ SO.Parted Y a b m := by
  have ba : a < N := by omega
  have bp : pv < N := by omega
  have da := h.cell a ba
  have dp := h.cell pv bp
  have gz := h.fz
  have hR2 := W_hid (h.swap a pv ba bp)
  have hT2 := W_hid (((Two.refl g g w).setCell (p := ⟨g, a, none⟩) (.inl rfl) (.int .i64 (X pv : Int))).setCell (p := ⟨g, pv, none⟩) (.inl rfl) (.int .i64 (X a : Int)))
  have hS2 := W_hid ((SO.Sw.refl (a := a) (b := b) (X := X)).step (i := a) (j := pv) (Nat.le_refl _) (by omega) hap hpb)
  obtain ⟨va, hva⟩ : ∃ v, X a = v := ⟨_, rfl⟩
  obtain ⟨vp, hvp⟩ : ∃ v, X pv = v := ⟨_, rfl⟩
  rw [hva, hvp] at hR2 hT2
  rw [hva] at da
  rw [hvp] at dp
  obtain ⟨i0, hi0⟩ : ∃ i, a + 1 = i := ⟨_, rfl⟩
  obtain ⟨j0, hj0⟩ : ∃ j, b - 1 = j := ⟨_, rfl⟩
  have ei : (a : Int) + 1 = (i0 : Int) := by omega
  have ej : (b : Int) - 1 = (j0 : Int) := by omega
  have hj1 : j0 + 1 = b := by omega
  replace hva := W_hid hva
  replace hvp := W_hid hvp
  clear h hj0
  generalize hX2 : SO.swp X a pv = X2 at *
  replace hX2 := W_hid hX2
  have hM0 : Hid (SO.Mid X2 a b i0 j0) := ⟨fun p h1 h2 => by omega, fun p h1 h2 => by omega⟩
  replace hi0 := W_hid hi0
  have hbd : i0 ≤ j0 + 1 ∧ a < i0 ∧ j0 < b := by have := hi0.out; omega
  replace hj1 := W_hid hj1
  go_enter Tryz.func187, Tryz.ntmps187
  obtain ⟨V, hV⟩ : ∃ V, World.drew ((w.setCell ⟨g, a, none⟩ (.int .i64 (vp : Int))).setCell ⟨g, pv, none⟩ (.int .i64 (va : Int))) = V := ⟨_, rfl⟩
  have hR : RW V g N X2 rest := by rw [← hV]; exact hR2.out.drew
  have hT : Two g g w V := by rw [← hV]; exact ⟨hT2.out.os, hT2.out.tape, hT2.out.output, hT2.out.size, hT2.out.block⟩
  replace hR := W_hid hR
  replace hT := W_hid hT
  clear hR2 hT2
  go_upto_region 1 with fail
  go_cut [] from 12 to 167 (fun wc => wc = V)
  case first =>
    rename_i J1 K1 hJ1 hK1
    have hcs : pv = a ∨ ¬ pv = a := by omega
    rcases hcs with hqa | hne
    case' inl =>
      obtain rfl : va = vp := hva.out.symm.trans (by rw [← hqa]; exact hvp.out)
      subst hqa
    case' inr => have hne2 : ¬ a = pv := fun e => hne e.symm
    all_goals
      go_region
      try rw [hV]
      refine hK1 _ _ (Met.intro (hJ1 _ _ ?_))
      repeat apply Exists.intro
      exact ⟨rfl, rfl⟩
  case rest =>
  obtain rfl := hcut
  clear hV da dp gz
  go_upto_block 0 with fail
  go_cut [10] from 12 to 167 (fun v wx => ∃ i : Nat, v = .int .i64 (i : Int) ∧ i0 ≤ i ∧ i ≤ j0 + 1 ∧ Hid (SO.Mid X2 a b i j0) ∧ Hid (i ≤ j0 → X2 a ≤ X2 i) ∧ Hid (RW wx g N X2 rest) ∧ Hid (Two g g w wx))
  case first =>
    rename_i J1 K1 hJ1 hK1
    go_wp2_with fail
    go_loopw [10] (fun v wr => ∃ i : Nat, v = .int .i64 (i : Int) ∧ i0 ≤ i ∧ i ≤ j0 + 1 ∧ Hid (SO.Mid X2 a b i j0) ∧ Hid (RW wr g N X2 rest) ∧ Hid (Two g g w wr)) (fun v _ => j0 + 1 - (intOf v).toNat)
    case atStart => exact ⟨i0, rfl, Nat.le_refl _, hbd.1, hM0, hR, hT⟩
    case round =>
      obtain ⟨i, rfl, hi1, hi2, hM, hR, hT⟩ := hrel
      by_cases hle : i ≤ j0
      · have bi : i < N := by omega
        have di := hR.out.cell i bi
        have da := hR.out.cell a ba
        have gz := hR.out.fz
        obtain ⟨vi, hvi⟩ : ∃ v, X2 i = v := ⟨_, rfl⟩
        obtain ⟨vb, hvb⟩ : ∃ v, X2 a = v := ⟨_, rfl⟩
        rw [hvi] at di
        rw [hvb] at da
        have hL := W_hid (fun t => Calls.quiet_of_same (Less_any vi vb (wr.drewN t)))
        by_cases hl : vi < vb
        · rw [show decide (vi < vb) = true by simp [hl]] at hL
          have hM2 := W_hid (SO.mid_i hM.out (by rw [hvi, hvb]; exact hl))
          replace hl := W_hid hl
          replace hvi := W_hid hvi
          replace hvb := W_hid hvb
          go_wp2_with fail
          go_quiet ((go_at_call 185; exact hL.out _))
          go_wp2_with fail
          go_roundw
          case rel => exact ⟨i + 1, by go_num, by omega, by omega, hM2, W_hid (hR.out.drewN nq), W_hid (hT.out.drew nq)⟩
          case measure => first | (simp [intOf]; omega) | simp [intOf]
        · rw [show decide (vi < vb) = false by simp [hl]] at hL
          have hst : Hid (i ≤ j0 → X2 a ≤ X2 i) := fun _ => by rw [hvi, hvb]; omega
          replace hl := W_hid hl
          replace hvi := W_hid hvi
          replace hvb := W_hid hvb
          go_wp2_with fail
          go_quiet ((go_at_call 185; exact hL.out _))
          go_wp2_with fail
          go_meet
          exact ⟨i, rfl, hi1, hi2, hM, hst, W_hid (hR.out.drewN nq), W_hid (hT.out.drew nq)⟩
      · have hst : Hid (i ≤ j0 → X2 a ≤ X2 i) := fun h => absurd h hle
        go_wp2_with fail
        go_quiet (fail)
        go_wp2_with fail
        go_meet
        exact ⟨i, rfl, hi1, hi2, hM, hst, W_hid (hR.out.drewN nq), W_hid (hT.out.drew nq)⟩
  case rest =>
  clear hR hT hM0
  obtain ⟨i, rfl, hi1, hi2, hM, hst, hR, hT⟩ := hcut
  obtain ⟨W1, rfl⟩ : ∃ W, W = wc := ⟨wc, rfl⟩
  go_upto_block 2 with fail
  go_cut [11] from 12 to 167 (fun v wx => ∃ j : Nat, v = .int .i64 (j : Int) ∧ i ≤ j + 1 ∧ j ≤ j0 ∧ Hid (SO.Mid X2 a b i j) ∧ Hid (i ≤ j → X2 a ≤ X2 i) ∧ Hid (i ≤ j → X2 j < X2 a) ∧ Hid (RW wx g N X2 rest) ∧ Hid (Two g g w wx))
  case first =>
    rename_i J1 K1 hJ1 hK1
    go_wp2_with fail
    go_loopw [11] (fun v wr => ∃ j : Nat, v = .int .i64 (j : Int) ∧ i ≤ j + 1 ∧ j ≤ j0 ∧ Hid (SO.Mid X2 a b i j) ∧ Hid (RW wr g N X2 rest) ∧ Hid (Two g g w wr)) (fun v _ => (intOf v).toNat)
    case atStart => exact ⟨j0, rfl, hi2, Nat.le_refl _, hM, hR, hT⟩
    case round =>
      obtain ⟨j, rfl, hj1, hj2, hM, hR, hT⟩ := hrel
      by_cases hle : i ≤ j
      · have bj : j < N := by omega
        have dj := hR.out.cell j bj
        have da := hR.out.cell a ba
        have gz := hR.out.fz
        obtain ⟨vj, hvj⟩ : ∃ v, X2 j = v := ⟨_, rfl⟩
        obtain ⟨vb, hvb⟩ : ∃ v, X2 a = v := ⟨_, rfl⟩
        rw [hvj] at dj
        rw [hvb] at da
        have hL := W_hid (fun t => Calls.quiet_of_same (Less_any vj vb (wr.drewN t)))
        by_cases hl : vj < vb
        · rw [show decide (vj < vb) = true by simp [hl]] at hL
          have hst2 : Hid (i ≤ j → X2 j < X2 a) := fun _ => by rw [hvj, hvb]; exact hl
          have hst1 : Hid (i ≤ j → X2 a ≤ X2 i) := fun h => hst.out (by omega)
          replace hl := W_hid hl
          replace hvj := W_hid hvj
          replace hvb := W_hid hvb
          go_wp2_with fail
          go_quiet ((go_at_call 185; exact hL.out _))
          go_wp2_with fail
          go_meet
          exact ⟨j, rfl, hj1, hj2, hM, hst1, hst2, W_hid (hR.out.drewN nq), W_hid (hT.out.drew nq)⟩
        · rw [show decide (vj < vb) = false by simp [hl]] at hL
          obtain ⟨j', hj'⟩ : ∃ j', j = j' + 1 := ⟨j - 1, by omega⟩
          have ejj : (j : Int) - 1 = (j' : Int) := by omega
          have hM2 : Hid (SO.Mid X2 a b i j') := by
            subst hj'
            exact SO.mid_j hM.out (by rw [hvj, hvb]; omega)
          replace hl := W_hid hl
          replace hvj := W_hid hvj
          replace hvb := W_hid hvb
          have hjb : Hid (i ≤ j' + 1 ∧ j' ≤ j0 ∧ j' < j) := by show _ ∧ _ ∧ _; omega
          replace hj' := W_hid hj'
          go_wp2_with fail
          go_quiet ((go_at_call 185; exact hL.out _))
          go_wp2_with fail
          go_roundw
          case rel => exact ⟨j', rfl, hjb.out.1, hjb.out.2.1, hM2, W_hid (hR.out.drewN nq), W_hid (hT.out.drew nq)⟩
          case measure => (have := hjb.out.2.2); first | (simp [intOf]; omega) | simp [intOf]
      · have hst1 : Hid (i ≤ j → X2 a ≤ X2 i) := fun h => absurd h hle
        have hst2 : Hid (i ≤ j → X2 j < X2 a) := fun h => absurd h hle
        go_wp2_with fail
        go_quiet (fail)
        go_wp2_with fail
        go_meet
        exact ⟨j, rfl, hj1, hj2, hM, hst1, hst2, W_hid (hR.out.drewN nq), W_hid (hT.out.drew nq)⟩
  case rest =>
  clear hR hT hM hst
  obtain ⟨j, rfl, hj1, hj2, hM, hst1, hst2, hR, hT⟩ := hcut
  by_cases hgt : j < i
  · clear hst1 hst2
    have bj : j < N := by omega
    have dj := hR.out.cell j bj
    have da := hR.out.cell a ba
    have gz := hR.out.fz
    obtain ⟨vj, hvj⟩ : ∃ v, X2 j = v := ⟨_, rfl⟩
    obtain ⟨vb, hvb⟩ : ∃ v, X2 a = v := ⟨_, rfl⟩
    have hR2 := W_hid (hR.out.swap j a bj ba)
    have hT2 := W_hid ((hT.out.setCell (p := ⟨g, j, none⟩) (.inl rfl) (.int .i64 (X2 a : Int))).setCell (p := ⟨g, a, none⟩) (.inl rfl) (.int .i64 (X2 j : Int)))
    have haj : a ≤ j := by have := hbd.2.1; omega
    have hS5 := W_hid ((hS2.out).step (i := j) (j := a) haj (by omega) (Nat.le_refl _) (by omega))
    have hP5 := W_hid (SO.mid_done hM.out haj (by omega))
    rw [hvb, hvj] at hR2 hT2
    rw [hvj] at dj
    rw [hvb] at da
    have hjb : j < b := by omega
    replace hvj := W_hid hvj
    replace hvb := W_hid hvb
    obtain ⟨V5, hV5⟩ : ∃ V, World.drew ((wc.setCell ⟨g, j, none⟩ (.int .i64 (vb : Int))).setCell ⟨g, a, none⟩ (.int .i64 (vj : Int))) = V := ⟨_, rfl⟩
    have hR5 : RW V5 g N (SO.swp X2 j a) rest := by rw [← hV5]; exact hR2.out.drew
    have hT5 : Two g g w V5 := by rw [← hV5]; exact ⟨hT2.out.os, hT2.out.tape, hT2.out.output, hT2.out.size, hT2.out.block⟩
    replace hR5 := W_hid hR5
    replace hT5 := W_hid hT5
    clear hR2 hT2 hR hT hM
    have hcs : j = a ∨ ¬ j = a := by omega
    rcases hcs with hqa | hne
    case' inl =>
      obtain rfl : vj = vb := hvj.out.symm.trans (by rw [hqa]; exact hvb.out)
      subst hqa
    case' inr => have hne2 : ¬ a = j := fun e => hne e.symm
    all_goals
      go_wp2_with fail
      go_region
      try rw [hV5]
      go_wp2_with fail
      go_ret2
      exact ⟨j, true, rfl, haj, hjb, hT5.out, _, hR5.out, hS5.out, hP5.out⟩
  · 
    have hij : i < j := by
      have h1 := hst1.out (by omega)
      have h2 := hst2.out (by omega)
      rcases Nat.lt_or_ge i j with hh | hh
      · exact hh
      · exfalso
        have : i = j := by omega
        subst this
        omega
    have bi : i < N := by omega
    have bj : j < N := by omega
    have di := hR.out.cell i bi
    have dj := hR.out.cell j bj
    have gz := hR.out.fz
    obtain ⟨vi, hvi⟩ : ∃ v, X2 i = v := ⟨_, rfl⟩
    obtain ⟨vj, hvj⟩ : ∃ v, X2 j = v := ⟨_, rfl⟩
    have hR2 := W_hid (hR.out.swap i j bi bj)
    have hT2 := W_hid ((hT.out.setCell (p := ⟨g, i, none⟩) (.inl rfl) (.int .i64 (X2 j : Int))).setCell (p := ⟨g, j, none⟩) (.inl rfl) (.int .i64 (X2 i : Int)))
    have hai : a < i := by have := hbd.2.1; omega
    have hS5 := W_hid ((hS2.out).step (i := i) (j := j) (by omega) (by omega) (by omega) (by omega))
    have hM5 := W_hid (SO.mid_swap hM.out hai hij (hst1.out (by omega)) (hst2.out (by omega)))
    rw [hvi, hvj] at hR2 hT2
    rw [hvi] at di
    rw [hvj] at dj
    obtain ⟨j', hj'⟩ : ∃ j', j - 1 = j' := ⟨_, rfl⟩
    have ejj : (j : Int) - 1 = (j' : Int) := by omega
    rw [hj'] at hM5
    have hjb : Hid (i + 1 ≤ j' + 1 ∧ j' ≤ j0 ∧ j' < j) := by show _ ∧ _ ∧ _; omega
    replace hj' := W_hid hj'
    replace hvi := W_hid hvi
    replace hvj := W_hid hvj
    obtain ⟨V4, hV4⟩ : ∃ V, World.drew ((wc.setCell ⟨g, i, none⟩ (.int .i64 (vj : Int))).setCell ⟨g, j, none⟩ (.int .i64 (vi : Int))) = V := ⟨_, rfl⟩
    have hR4 : RW V4 g N (SO.swp X2 i j) rest := by rw [← hV4]; exact hR2.out.drew
    have hT4 : Two g g w V4 := by rw [← hV4]; exact ⟨hT2.out.os, hT2.out.tape, hT2.out.output, hT2.out.size, hT2.out.block⟩
    replace hR4 := W_hid hR4
    replace hT4 := W_hid hT4
    have hne1 : ¬ i = j := by omega
    have hne2 : ¬ j = i := by omega
    clear hR2 hT2 hR hT hM
    go_wp2_with fail
    go_region
    try rw [hV4]
    clear hV4 di dj gz
    go_upto_block 4 with fail
    go_wp2_with fail
    obtain ⟨W2, rfl⟩ : ∃ W, W = V4 := ⟨V4, rfl⟩
    go_loopw [10, 11] (fun u v wr => ∃ (i j : Nat) (Y : Nat → Nat), u = .int .i64 (i : Int) ∧ v = .int .i64 (j : Int) ∧ i0 ≤ i ∧ i ≤ j + 1 ∧ j ≤ j0 ∧ Hid (SO.Mid Y a b i j) ∧ Hid (RW wr g N Y rest) ∧ Hid (SO.Sw a b X Y) ∧ Hid (Two g g w wr)) (fun _ v _ => (intOf v).toNat)
    case atStart => exact ⟨i + 1, j', _, by go_num, rfl, by omega, hjb.out.1, hjb.out.2.1, hM5, hR4, hS5, hT4⟩
    case round =>
      clear hM5 hR4 hS5 hT4 hst1 hst2
      obtain ⟨i1, jm, Y, rfl, rfl, hi1, hij, hjj, hM, hR, hS, hT⟩ := hrel
      go_upto_block 6 with fail
      go_cut [10] from 99 to 152 (fun v wx => ∃ i : Nat, v = .int .i64 (i : Int) ∧ i0 ≤ i ∧ i ≤ jm + 1 ∧ Hid (SO.Mid Y a b i jm) ∧ Hid (i ≤ jm → Y a ≤ Y i) ∧ Hid (RW wx g N Y rest) ∧ Hid (Two g g w wx))
      case first =>
        rename_i J1 K1 hJ1 hK1
        go_wp2_with fail
        go_loopw [10] (fun v wr => ∃ i : Nat, v = .int .i64 (i : Int) ∧ i0 ≤ i ∧ i ≤ jm + 1 ∧ Hid (SO.Mid Y a b i jm) ∧ Hid (RW wr g N Y rest) ∧ Hid (Two g g w wr)) (fun v _ => jm + 1 - (intOf v).toNat)
        case atStart => exact ⟨i1, rfl, hi1, hij, hM, hR, hT⟩
        case round =>
          obtain ⟨i, rfl, hi1, hi2, hM, hR, hT⟩ := hrel
          by_cases hle : i ≤ jm
          · have bi : i < N := by omega
            have di := hR.out.cell i bi
            have da := hR.out.cell a ba
            have gz := hR.out.fz
            obtain ⟨vi, hvi⟩ : ∃ v, Y i = v := ⟨_, rfl⟩
            obtain ⟨vb, hvb⟩ : ∃ v, Y a = v := ⟨_, rfl⟩
            rw [hvi] at di
            rw [hvb] at da
            have hL := W_hid (fun t => Calls.quiet_of_same (Less_any vi vb (wr.drewN t)))
            by_cases hl : vi < vb
            · rw [show decide (vi < vb) = true by simp [hl]] at hL
              have hM2 := W_hid (SO.mid_i hM.out (by rw [hvi, hvb]; exact hl))
              replace hl := W_hid hl
              replace hvi := W_hid hvi
              replace hvb := W_hid hvb
              go_wp2_with fail
              go_quiet ((go_at_call 185; exact hL.out _))
              go_wp2_with fail
              go_roundw
              case rel => exact ⟨i + 1, by go_num, by omega, by omega, hM2, W_hid (hR.out.drewN nq), W_hid (hT.out.drew nq)⟩
              case measure => first | (simp [intOf]; omega) | simp [intOf]
            · rw [show decide (vi < vb) = false by simp [hl]] at hL
              have hst : Hid (i ≤ jm → Y a ≤ Y i) := fun _ => by rw [hvi, hvb]; omega
              replace hl := W_hid hl
              replace hvi := W_hid hvi
              replace hvb := W_hid hvb
              go_wp2_with fail
              go_quiet ((go_at_call 185; exact hL.out _))
              go_wp2_with fail
              go_meet
              exact ⟨i, rfl, hi1, hi2, hM, hst, W_hid (hR.out.drewN nq), W_hid (hT.out.drew nq)⟩
          · have hst : Hid (i ≤ jm → Y a ≤ Y i) := fun h => absurd h hle
            go_wp2_with fail
            go_quiet (fail)
            go_wp2_with fail
            go_meet
            exact ⟨i, rfl, hi1, hi2, hM, hst, W_hid (hR.out.drewN nq), W_hid (hT.out.drew nq)⟩
      case rest =>
      clear hR hT hM
      obtain ⟨i, rfl, hi1, hi2, hM, hst, hR, hT⟩ := hcut
      obtain ⟨W3, rfl⟩ : ∃ W, W = wc := ⟨wc, rfl⟩
      go_upto_block 8 with fail
      go_cut [11] from 99 to 152 (fun v wx => ∃ j : Nat, v = .int .i64 (j : Int) ∧ i ≤ j + 1 ∧ j ≤ jm ∧ Hid (SO.Mid Y a b i j) ∧ Hid (i ≤ j → Y a ≤ Y i) ∧ Hid (i ≤ j → Y j < Y a) ∧ Hid (RW wx g N Y rest) ∧ Hid (Two g g w wx))
      case first =>
        rename_i J1 K1 hJ1 hK1
        go_wp2_with fail
        go_loopw [11] (fun v wr => ∃ j : Nat, v = .int .i64 (j : Int) ∧ i ≤ j + 1 ∧ j ≤ jm ∧ Hid (SO.Mid Y a b i j) ∧ Hid (RW wr g N Y rest) ∧ Hid (Two g g w wr)) (fun v _ => (intOf v).toNat)
        case atStart => exact ⟨jm, rfl, hi2, Nat.le_refl _, hM, hR, hT⟩
        case round =>
          obtain ⟨j, rfl, hj1, hj2, hM, hR, hT⟩ := hrel
          by_cases hle : i ≤ j
          · have bj : j < N := by omega
            have dj := hR.out.cell j bj
            have da := hR.out.cell a ba
            have gz := hR.out.fz
            obtain ⟨vj, hvj⟩ : ∃ v, Y j = v := ⟨_, rfl⟩
            obtain ⟨vb, hvb⟩ : ∃ v, Y a = v := ⟨_, rfl⟩
            rw [hvj] at dj
            rw [hvb] at da
            have hL := W_hid (fun t => Calls.quiet_of_same (Less_any vj vb (wr.drewN t)))
            by_cases hl : vj < vb
            · rw [show decide (vj < vb) = true by simp [hl]] at hL
              have hst2 : Hid (i ≤ j → Y j < Y a) := fun _ => by rw [hvj, hvb]; exact hl
              have hst1 : Hid (i ≤ j → Y a ≤ Y i) := fun h => hst.out (by omega)
              replace hl := W_hid hl
              replace hvj := W_hid hvj
              replace hvb := W_hid hvb
              go_wp2_with fail
              go_quiet ((go_at_call 185; exact hL.out _))
              go_wp2_with fail
              go_meet
              exact ⟨j, rfl, hj1, hj2, hM, hst1, hst2, W_hid (hR.out.drewN nq), W_hid (hT.out.drew nq)⟩
            · rw [show decide (vj < vb) = false by simp [hl]] at hL
              obtain ⟨j', hj'⟩ : ∃ j', j = j' + 1 := ⟨j - 1, by omega⟩
              have ejj : (j : Int) - 1 = (j' : Int) := by omega
              have hM2 : Hid (SO.Mid Y a b i j') := by
                subst hj'
                exact SO.mid_j hM.out (by rw [hvj, hvb]; omega)
              replace hl := W_hid hl
              replace hvj := W_hid hvj
              replace hvb := W_hid hvb
              have hjb : Hid (i ≤ j' + 1 ∧ j' ≤ jm ∧ j' < j) := by show _ ∧ _ ∧ _; omega
              replace hj' := W_hid hj'
              go_wp2_with fail
              go_quiet ((go_at_call 185; exact hL.out _))
              go_wp2_with fail
              go_roundw
              case rel => exact ⟨j', rfl, hjb.out.1, hjb.out.2.1, hM2, W_hid (hR.out.drewN nq), W_hid (hT.out.drew nq)⟩
              case measure => (have := hjb.out.2.2); first | (simp [intOf]; omega) | simp [intOf]
          · have hst1 : Hid (i ≤ j → Y a ≤ Y i) := fun h => absurd h hle
            have hst2 : Hid (i ≤ j → Y j < Y a) := fun h => absurd h hle
            go_wp2_with fail
            go_quiet (fail)
            go_wp2_with fail
            go_meet
            exact ⟨j, rfl, hj1, hj2, hM, hst1, hst2, W_hid (hR.out.drewN nq), W_hid (hT.out.drew nq)⟩
      case rest =>
      clear hR hT hM hst
      obtain ⟨j, rfl, hj1, hj2, hM, hst1, hst2, hR, hT⟩ := hcut
      by_cases hgt : j < i
      · clear hst1 hst2
        have bj : j < N := by omega
        have dj := hR.out.cell j bj
        have da := hR.out.cell a ba
        have gz := hR.out.fz
        obtain ⟨vj, hvj⟩ : ∃ v, Y j = v := ⟨_, rfl⟩
        obtain ⟨vb, hvb⟩ : ∃ v, Y a = v := ⟨_, rfl⟩
        have hR2 := W_hid (hR.out.swap j a bj ba)
        have hT2 := W_hid ((hT.out.setCell (p := ⟨g, j, none⟩) (.inl rfl) (.int .i64 (Y a : Int))).setCell (p := ⟨g, a, none⟩) (.inl rfl) (.int .i64 (Y j : Int)))
        have haj : a ≤ j := by have := hbd.2.1; omega
        have hS5 := W_hid ((hS.out).step (i := j) (j := a) haj (by omega) (Nat.le_refl _) (by omega))
        have hP5 := W_hid (SO.mid_done hM.out haj (by omega))
        rw [hvb, hvj] at hR2 hT2
        rw [hvj] at dj
        rw [hvb] at da
        have hjb : j < b := by omega
        replace hvj := W_hid hvj
        replace hvb := W_hid hvb
        obtain ⟨V5, hV5⟩ : ∃ V, World.drew ((wc.setCell ⟨g, j, none⟩ (.int .i64 (vb : Int))).setCell ⟨g, a, none⟩ (.int .i64 (vj : Int))) = V := ⟨_, rfl⟩
        have hR5 : RW V5 g N (SO.swp Y j a) rest := by rw [← hV5]; exact hR2.out.drew
        have hT5 : Two g g w V5 := by rw [← hV5]; exact ⟨hT2.out.os, hT2.out.tape, hT2.out.output, hT2.out.size, hT2.out.block⟩
        replace hR5 := W_hid hR5
        replace hT5 := W_hid hT5
        clear hR2 hT2 hR hT hM
        have hcs : j = a ∨ ¬ j = a := by omega
        rcases hcs with hqa | hne
        case' inl =>
          obtain rfl : vj = vb := hvj.out.symm.trans (by rw [hqa]; exact hvb.out)
          subst hqa
        case' inr => have hne2 : ¬ a = j := fun e => hne e.symm
        all_goals
          go_wp2_with fail
          go_region
          try rw [hV5]
          go_wp2_with fail
          go_ret2
          exact ⟨j, false, rfl, haj, hjb, hT5.out, _, hR5.out, hS5.out, hP5.out⟩
      · 
        have hij : i < j := by
          have h1 := hst1.out (by omega)
          have h2 := hst2.out (by omega)
          rcases Nat.lt_or_ge i j with hh | hh
          · exact hh
          · exfalso
            have : i = j := by omega
            subst this
            omega
        have bi : i < N := by omega
        have bj : j < N := by omega
        have di := hR.out.cell i bi
        have dj := hR.out.cell j bj
        have gz := hR.out.fz
        obtain ⟨vi, hvi⟩ : ∃ v, Y i = v := ⟨_, rfl⟩
        obtain ⟨vj, hvj⟩ : ∃ v, Y j = v := ⟨_, rfl⟩
        have hR2 := W_hid (hR.out.swap i j bi bj)
        have hT2 := W_hid ((hT.out.setCell (p := ⟨g, i, none⟩) (.inl rfl) (.int .i64 (Y j : Int))).setCell (p := ⟨g, j, none⟩) (.inl rfl) (.int .i64 (Y i : Int)))
        have hai : a < i := by have := hbd.2.1; omega
        have hS5 := W_hid ((hS.out).step (i := i) (j := j) (by omega) (by omega) (by omega) (by omega))
        have hM5 := W_hid (SO.mid_swap hM.out hai hij (hst1.out (by omega)) (hst2.out (by omega)))
        rw [hvi, hvj] at hR2 hT2
        rw [hvi] at di
        rw [hvj] at dj
        obtain ⟨j', hj'⟩ : ∃ j', j - 1 = j' := ⟨_, rfl⟩
        have ejj : (j : Int) - 1 = (j' : Int) := by omega
        rw [hj'] at hM5
        have hjb : Hid (i + 1 ≤ j' + 1 ∧ j' ≤ j0 ∧ j' < j) := by show _ ∧ _ ∧ _; omega
        replace hj' := W_hid hj'
        replace hvi := W_hid hvi
        replace hvj := W_hid hvj
        obtain ⟨V4, hV4⟩ : ∃ V, World.drew ((wc.setCell ⟨g, i, none⟩ (.int .i64 (vj : Int))).setCell ⟨g, j, none⟩ (.int .i64 (vi : Int))) = V := ⟨_, rfl⟩
        have hR4 : RW V4 g N (SO.swp Y i j) rest := by rw [← hV4]; exact hR2.out.drew
        have hT4 : Two g g w V4 := by rw [← hV4]; exact ⟨hT2.out.os, hT2.out.tape, hT2.out.output, hT2.out.size, hT2.out.block⟩
        replace hR4 := W_hid hR4
        replace hT4 := W_hid hT4
        have hne1 : ¬ i = j := by omega
        have hne2 : ¬ j = i := by omega
        clear hR2 hT2 hR hT hM
        go_wp2_with fail
        go_region
        try rw [hV4]
        clear hV4 di dj gz
        go_wp2_with fail
        go_roundw
        case rel => exact ⟨i + 1, j', _, by go_num, rfl, by omega, hjb.out.1, by have := hjb.out.2.1; omega, hM5, hR4, hS5, hT4⟩
        case measure => (have := hjb.out.2.2); first | (simp [intOf]; omega) | simp [intOf]
end IS
namespace IS
theorem up_cut {Y : Nat → Nat} {a b c : Nat} (h : SO.Up Y a b) (hc : c ≤ b) : SO.Up Y a c := fun p q h1 h2 h3 => h p q h1 h2 (by omega)
theorem up_away {Y : Nat → Nat} {a i p q : Nat} (h : SO.Up Y a i) (hp : i ≤ p) (hq : i ≤ q) : SO.Up (SO.swp Y p q) a i := fun r s h1 h2 h3 => by
  rw [SO.swp_o _ (by omega) (by omega), SO.swp_o _ (by omega) (by omega)]
  exact h r s h1 h2 h3
set_option maxRecDepth 100000 in
set_option maxHeartbeats 8000000 in
theorem partins_any (g N cap : Nat) (rest : List Value) (a b : Nat) (X : Nat → Nat) (w : World) (h : RW w g N X rest) (hab : a < b) (hb : b ≤ N) (hN : N ≤ 65536) (hcap : N ≤ cap) (hBel : SO.Bel X a b) :
    Calls Tryz.prog 184 #[.slice (some ⟨g, 0, none⟩) N cap, .int .i64 (a : Int), .int .i64 (b : Int)] w fun e w' => ∃ t : Bool, e = .returned (.bool t) ∧ Two g g w w' ∧ ∃ Y, RW w' g N Y rest ∧ SO.Sw a b X Y ∧ (t = true → SO.Up Y a b) := by
  have h := W_hid h
  have hBel := W_hid hBel
  have hU0 : Hid (SO.Up X a (a + 1)) := SO.up_one X a
  obtain ⟨n, hn⟩ : ∃ n, b - a = n := ⟨_, rfl⟩
  have hni : (b : Int) - (a : Int) = (n : Int) := by omega
  replace hn := W_hid hn
  go_enter Tryz.func184, Tryz.ntmps184
  go_wp2_with fail
  go_loopw [7, 8] (fun u v wr => ∃ (i c : Nat) (Z : Nat → Nat), u = .int .i64 (i : Int) ∧ v = .int .i64 (c : Int) ∧ c ≤ 5 ∧ a + 1 ≤ i ∧ i ≤ b ∧ Hid (RW wr g N Z rest) ∧ Hid (SO.Sw a b X Z) ∧ Hid (SO.Up Z a i) ∧ Hid (Two g g w wr)) (fun _ v _ => 5 - (intOf v).toNat)
  case atStart => exact ⟨a + 1, 0, X, by go_num, rfl, by omega, Nat.le_refl _, by omega, h, W_hid .refl, hU0, W_hid (Two.refl _ _ _)⟩
  case round =>
    clear hU0
    obtain ⟨i1, c, Z, rfl, rfl, hc, hi1, hi2, hR, hS, hU, hT⟩ := hrel
    by_cases hc5 : c < 5
    · go_upto_block 2 with fail
      go_cut [7] from 13 to 132 (fun u wx => ∃ i : Nat, u = .int .i64 (i : Int) ∧ a + 1 ≤ i ∧ i ≤ b ∧ Hid (RW wx g N Z rest) ∧ Hid (SO.Up Z a i) ∧ Hid (Two g g w wx))
      case first =>
        go_wp2_with fail
        go_loopw [7] (fun u wr => ∃ i : Nat, u = .int .i64 (i : Int) ∧ a + 1 ≤ i ∧ i ≤ b ∧ Hid (RW wr g N Z rest) ∧ Hid (SO.Up Z a i) ∧ Hid (Two g g w wr)) (fun u _ => b - (intOf u).toNat)
        case atStart => exact ⟨i1, rfl, hi1, hi2, hR, hU, hT⟩
        case round =>
          clear hR hU hT hi1 hi2
          obtain ⟨i, rfl, hi1, hi2, hR, hU, hT⟩ := hrel
          by_cases hlt : i < b
          · obtain ⟨k, hk⟩ : ∃ k, i - 1 = k := ⟨_, rfl⟩
            have ek : (i : Int) - 1 = (k : Int) := by omega
            have di := hR.out.cell i (by omega)
            have dk := hR.out.cell k (by omega)
            have gz := hR.out.fz
            obtain ⟨vi, hvi⟩ : ∃ v, Z i = v := ⟨_, rfl⟩
            obtain ⟨vk, hvk⟩ : ∃ v, Z k = v := ⟨_, rfl⟩
            rw [hvi] at di
            rw [hvk] at dk
            have hL := W_hid (fun t => Calls.quiet_of_same (Less_any vi vk (wr.drewN t)))
            have bk : k < N := by omega
            by_cases hl : vi < vk
            · rw [show decide (vi < vk) = true by simp [hl]] at hL
              replace hl := W_hid hl
              replace hvi := W_hid hvi
              replace hvk := W_hid hvk
              replace hk := W_hid hk
              go_wp2_with fail
              go_quiet ((go_at_call 185; exact hL.out _))
              go_wp2_with fail
              go_meet
              exact ⟨i, rfl, hi1, hi2, W_hid (hR.out.drewN nq), hU, W_hid (hT.out.drew nq)⟩
            · rw [show decide (vi < vk) = false by simp [hl]] at hL
              have hU2 := W_hid (SO.up_next hU.out (by omega) (by rw [hk, hvi, hvk]; omega))
              replace hl := W_hid hl
              replace hvi := W_hid hvi
              replace hvk := W_hid hvk
              replace hk := W_hid hk
              go_wp2_with fail
              go_quiet ((go_at_call 185; exact hL.out _))
              go_wp2_with fail
              go_roundw
              case rel => exact ⟨i + 1, by go_num, by omega, by omega, W_hid (hR.out.drewN nq), hU2, W_hid (hT.out.drew nq)⟩
              case measure => first | (simp [intOf]; omega) | simp [intOf]
          · go_wp2_with fail
            go_quiet (fail)
            go_wp2_with fail
            go_meet
            exact ⟨i, rfl, hi1, hi2, W_hid (hR.out.drewN nq), hU, W_hid (hT.out.drew nq)⟩
      case rest =>
      clear hR hU hT hi1 hi2
      obtain ⟨i, rfl, hi1, hi2, hR, hU, hT⟩ := hcut
      by_cases hib : i = b
      · have hU2 := hU.out
        rw [hib] at hU2
        have hib2 : ((i : Int) == (b : Int)) = true := by simp [hib]
        replace hU2 := W_hid hU2
        subst hib
        go_wp2_with fail
        go_ret
        exact ⟨true, rfl, hT.out, Z, hR.out, hS.out, fun _ => hU2.out⟩
      · have hib2 : ((i : Int) == (b : Int)) = false := by simp; omega
        have hlt : i < b := by omega
        by_cases h50 : n < 50
        · go_wp2_with fail
          go_ret
          exact ⟨false, rfl, hT.out, Z, hR.out, hS.out, fun h => by cases h⟩
        · obtain ⟨k, hk⟩ : ∃ k, i = k + 1 := ⟨i - 1, by omega⟩
          have ek : (i : Int) - 1 = (k : Int) := by omega
          have hak : a ≤ k := by omega
          have bI := (show i < N by omega)
          have bJ := (show k < N by omega)
          have dI := hR.out.cell i bI
          have dJ := hR.out.cell k bJ
          have gz := hR.out.fz
          obtain ⟨vI, hvI⟩ : ∃ v, Z i = v := ⟨_, rfl⟩
          obtain ⟨vJ, hvJ⟩ : ∃ v, Z k = v := ⟨_, rfl⟩
          have hR2 := W_hid (hR.out.swap i k bI bJ)
          have hT2 := W_hid ((hT.out.setCell (p := ⟨g, i, none⟩) (.inl rfl) (.int .i64 (Z k : Int))).setCell (p := ⟨g, k, none⟩) (.inl rfl) (.int .i64 (Z i : Int)))
          rw [hvI, hvJ] at hR2 hT2
          rw [hvI] at dI
          rw [hvJ] at dJ
          replace hvI := W_hid hvI
          replace hvJ := W_hid hvJ
          obtain ⟨V1, hV1⟩ : ∃ V, World.drew ((wc.setCell ⟨g, i, none⟩ (.int .i64 (vJ : Int))).setCell ⟨g, k, none⟩ (.int .i64 (vI : Int))) = V := ⟨_, rfl⟩
          have hRs : RW V1 g N (SO.swp Z i k) rest := by rw [← hV1]; exact hR2.out.drew
          have hTs : Two g g w V1 := by rw [← hV1]; exact ⟨hT2.out.os, hT2.out.tape, hT2.out.output, hT2.out.size, hT2.out.block⟩
          replace hRs := W_hid hRs
          replace hTs := W_hid hTs
          have hne1 : ¬ i = k := by omega
          have hne2 : ¬ k = i := by omega
          clear hR2 hT2
          have hSs := W_hid (hS.out.step (i := i) (j := k) (by omega) hlt hak (by omega))
          have hUs : Hid (SO.Up (SO.swp Z i k) a k) := up_away (up_cut hU.out (by omega)) (by omega) (Nat.le_refl _)
          have hU1 : Hid (k = a → SO.Up (SO.swp Z i k) a i) := fun e => by subst e; rw [hk]; exact SO.up_one _ _
          replace hk := W_hid hk
          clear hR hT hU hS
          go_wp2_with fail
          go_region
          try rw [hV1]
          clear hV1 dI dJ gz
          generalize SO.swp Z i k = Z1 at *
          obtain ⟨n2, hn2⟩ : ∃ n2, i - a = n2 := ⟨_, rfl⟩
          have hn2i : (i : Int) - (a : Int) = (n2 : Int) := by omega
          have hk2 : Hid (i = k + 1) := hk
          obtain ⟨n3, hn3⟩ : ∃ n3, b - i = n3 := ⟨_, rfl⟩
          have hn3i : (b : Int) - (i : Int) = (n3 : Int) := by omega
          have hbn : n2 ≤ 65536 ∧ n3 ≤ 65536 := by omega
          replace hn2 := W_hid hn2
          replace hn3 := W_hid hn3
          clear hk
          go_upto_if 61 with fail
          go_cut [9] from 13 to 132 (fun _ wx => ∃ Y : Nat → Nat, Hid (RW wx g N Y rest) ∧ Hid (SO.Sw a b X Y) ∧ Hid (SO.Up Y a i) ∧ Hid (Two g g w wx))
          case first =>
            by_cases h2 : 2 ≤ n2
            · go_wp2_with fail
              go_loopw [9] (fun v wr => ∃ (j : Nat) (Y : Nat → Nat), v = .int .i64 (j : Int) ∧ a ≤ j ∧ j ≤ k ∧ Hid (RW wr g N Y rest) ∧ Hid (SO.Sw a b X Y) ∧ Hid (SO.Ins Y a k j) ∧ Hid (Two g g w wr)) (fun v _ => (intOf v).toNat)
              case atStart => exact ⟨k, Z1, rfl, hak, Nat.le_refl _, hRs, hSs, W_hid (SO.ins_start hUs.out), hTs⟩
              case round =>
                clear hRs hSs hUs hTs hU1
                obtain ⟨j, Y, rfl, haj, hjk, hR, hS, hI, hT⟩ := hrel
                by_cases hj1 : 1 ≤ j
                · obtain ⟨q, hq⟩ : ∃ q, j = q + 1 := ⟨j - 1, by omega⟩
                  have eq : (j : Int) - 1 = (q : Int) := by omega
                  have dj := hR.out.cell j (by omega)
                  have dq := hR.out.cell q (by omega)
                  have gz := hR.out.fz
                  obtain ⟨vj, hvj⟩ : ∃ v, Y j = v := ⟨_, rfl⟩
                  obtain ⟨vq, hvq⟩ : ∃ v, Y q = v := ⟨_, rfl⟩
                  rw [hvj] at dj
                  rw [hvq] at dq
                  have hL := W_hid (fun t => Calls.quiet_of_same (Less_any vj vq (wr.drewN t)))
                  by_cases hl : vj < vq
                  · rw [show decide (vj < vq) = true by simp [hl]] at hL
                    have hja : a < j := by
                      rcases Nat.lt_or_ge a j with hh | hh
                      · exact hh
                      · exfalso
                        rcases SO.bel_sw hBel.out hS.out with h0 | h0
                        · omega
                        · have h1 := h0 j haj (by omega)
                          rw [show a - 1 = q by omega, hvj, hvq] at h1
                          omega
                    have hI2 : Hid (SO.Ins (SO.swp Y j q) a k q) := by
                      have h1 := SO.ins_swap hI.out hja hjk (by rw [show j - 1 = q by omega, hvj, hvq]; exact hl)
                      rw [show j - 1 = q by omega] at h1
                      exact h1
                    have hS2 := W_hid (hS.out.step (i := j) (j := q) haj (by omega) (by omega) (by omega))
                    have hqq : Hid (a ≤ q ∧ q ≤ k ∧ q < j) := by show _ ∧ _ ∧ _; omega
                    replace hl := W_hid hl
                    replace hvj := W_hid hvj
                    replace hvq := W_hid hvq
                    replace hq := W_hid hq
                    go_wp2_with fail
                    go_quiet ((go_at_call 185; exact hL.out _))
                    go_wp2_with fail
                    have hqx := hq.out
                    obtain ⟨W, hW⟩ : ∃ W, wr.drewN nq = W := ⟨_, rfl⟩
                    replace hR : RW W g N Y rest := by rw [← hW]; exact hR.out.drewN nq
                    replace hT : Two g g w W := by rw [← hW]; exact hT.out.drew nq
                    replace hR := W_hid hR
                    replace hT := W_hid hT
                    rw [hW]
                    clear hW dj dq gz hS hI
                    have bI := (show j < N by omega)
                    have bJ := (show q < N by omega)
                    have dI := hR.out.cell j bI
                    have dJ := hR.out.cell q bJ
                    have gz := hR.out.fz
                    obtain ⟨vI, hvI⟩ : ∃ v, Y j = v := ⟨_, rfl⟩
                    obtain ⟨vJ, hvJ⟩ : ∃ v, Y q = v := ⟨_, rfl⟩
                    have hR2 := W_hid (hR.out.swap j q bI bJ)
                    have hT2 := W_hid ((hT.out.setCell (p := ⟨g, j, none⟩) (.inl rfl) (.int .i64 (Y q : Int))).setCell (p := ⟨g, q, none⟩) (.inl rfl) (.int .i64 (Y j : Int)))
                    rw [hvI, hvJ] at hR2 hT2
                    rw [hvI] at dI
                    rw [hvJ] at dJ
                    replace hvI := W_hid hvI
                    replace hvJ := W_hid hvJ
                    obtain ⟨V2, hV2⟩ : ∃ V, World.drew ((W.setCell ⟨g, j, none⟩ (.int .i64 (vJ : Int))).setCell ⟨g, q, none⟩ (.int .i64 (vI : Int))) = V := ⟨_, rfl⟩
                    have hRt : RW V2 g N (SO.swp Y j q) rest := by rw [← hV2]; exact hR2.out.drew
                    have hTt : Two g g w V2 := by rw [← hV2]; exact ⟨hT2.out.os, hT2.out.tape, hT2.out.output, hT2.out.size, hT2.out.block⟩
                    replace hRt := W_hid hRt
                    replace hTt := W_hid hTt
                    have hne1 : ¬ j = q := by omega
                    have hne2 : ¬ q = j := by omega
                    clear hR2 hT2
                    clear hR hT hqx
                    go_region
                    try rw [hV2]
                    clear hV2 dI dJ gz
                    go_wp2_with fail
                    go_roundw
                    case rel => exact ⟨q, _, rfl, hqq.out.1, hqq.out.2.1, hRt, hS2, hI2, hTt⟩
                    case measure => (have := hqq.out.2.2); first | (simp [intOf]; omega) | simp [intOf]
                  · rw [show decide (vj < vq) = false by simp [hl]] at hL
                    have hfin : Hid (SO.Up Y a i) := by
                      have h1 := SO.ins_done hI.out haj hjk (.inr (by rw [show j - 1 = q by omega, hvj, hvq]; omega))
                      rw [← hk2.out] at h1
                      exact h1
                    replace hl := W_hid hl
                    replace hvj := W_hid hvj
                    replace hvq := W_hid hvq
                    replace hq := W_hid hq
                    go_wp2_with fail
                    go_quiet ((go_at_call 185; exact hL.out _))
                    go_wp2_with fail
                    go_meet
                    exact ⟨Y, W_hid (hR.out.drewN nq), hS, hfin, W_hid (hT.out.drew nq)⟩
                · have hfin : Hid (SO.Up Y a i) := by
                    have h1 := SO.ins_done hI.out haj hjk (.inl (by omega))
                    rw [← hk2.out] at h1
                    exact h1
                  go_wp2_with fail
                  go_meet
                  exact ⟨Y, hR, hS, hfin, hT⟩
            · have hfin := W_hid (hU1.out (by have := hn2.out; have := hk2.out; omega))
              go_wp2_with fail
              go_meet
              exact ⟨Z1, hRs, hSs, hfin, hTs⟩
          case rest =>
          clear hRs hSs hUs hTs hU1
          obtain ⟨Z2, hRs, hSs, hUs, hTs⟩ := hcut
          by_cases h3 : 2 ≤ n3
          · go_wp2_with fail
            obtain ⟨W4, rfl⟩ : ∃ W, W = wc := ⟨wc, rfl⟩
            go_loopw [10] (fun v wr => ∃ (j : Nat) (Y : Nat → Nat), v = .int .i64 (j : Int) ∧ i + 1 ≤ j ∧ j ≤ b ∧ Hid (RW wr g N Y rest) ∧ Hid (SO.Sw a b X Y) ∧ Hid (SO.Up Y a i) ∧ Hid (Two g g w wr)) (fun v _ => b - (intOf v).toNat)
            case atStart => exact ⟨i + 1, Z2, by go_num, Nat.le_refl _, by omega, hRs, hSs, hUs, hTs⟩
            case round =>
              clear hRs hSs hUs hTs
              obtain ⟨j, Y, rfl, hij, hjb, hR, hS, hU, hT⟩ := hrel
              by_cases hjl : j < b
              · obtain ⟨q, hq⟩ : ∃ q, j = q + 1 := ⟨j - 1, by omega⟩
                have eq : (j : Int) - 1 = (q : Int) := by omega
                have dj := hR.out.cell j (by omega)
                have dq := hR.out.cell q (by omega)
                have gz := hR.out.fz
                obtain ⟨vj, hvj⟩ : ∃ v, Y j = v := ⟨_, rfl⟩
                obtain ⟨vq, hvq⟩ : ∃ v, Y q = v := ⟨_, rfl⟩
                rw [hvj] at dj
                rw [hvq] at dq
                have hL := W_hid (fun t => Calls.quiet_of_same (Less_any vj vq (wr.drewN t)))
                have bq : q < N := by omega
                by_cases hl : vj < vq
                · rw [show decide (vj < vq) = true by simp [hl]] at hL
                  have hU2 : Hid (SO.Up (SO.swp Y j q) a i) := up_away hU.out (by omega) (by omega)
                  have hS2 := W_hid (hS.out.step (i := j) (j := q) (by omega) (by omega) (by omega) (by omega))
                  replace hl := W_hid hl
                  replace hvj := W_hid hvj
                  replace hvq := W_hid hvq
                  replace hq := W_hid hq
                  go_wp2_with fail
                  go_quiet ((go_at_call 185; exact hL.out _))
                  go_wp2_with fail
                  have hqx := hq.out
                  obtain ⟨W, hW⟩ : ∃ W, wr.drewN nq = W := ⟨_, rfl⟩
                  replace hR : RW W g N Y rest := by rw [← hW]; exact hR.out.drewN nq
                  replace hT : Two g g w W := by rw [← hW]; exact hT.out.drew nq
                  replace hR := W_hid hR
                  replace hT := W_hid hT
                  rw [hW]
                  clear hW dj dq gz hS hU
                  have bI := (show j < N by omega)
                  have bJ := (show q < N by omega)
                  have dI := hR.out.cell j bI
                  have dJ := hR.out.cell q bJ
                  have gz := hR.out.fz
                  obtain ⟨vI, hvI⟩ : ∃ v, Y j = v := ⟨_, rfl⟩
                  obtain ⟨vJ, hvJ⟩ : ∃ v, Y q = v := ⟨_, rfl⟩
                  have hR2 := W_hid (hR.out.swap j q bI bJ)
                  have hT2 := W_hid ((hT.out.setCell (p := ⟨g, j, none⟩) (.inl rfl) (.int .i64 (Y q : Int))).setCell (p := ⟨g, q, none⟩) (.inl rfl) (.int .i64 (Y j : Int)))
                  rw [hvI, hvJ] at hR2 hT2
                  rw [hvI] at dI
                  rw [hvJ] at dJ
                  replace hvI := W_hid hvI
                  replace hvJ := W_hid hvJ
                  obtain ⟨V2, hV2⟩ : ∃ V, World.drew ((W.setCell ⟨g, j, none⟩ (.int .i64 (vJ : Int))).setCell ⟨g, q, none⟩ (.int .i64 (vI : Int))) = V := ⟨_, rfl⟩
                  have hRt : RW V2 g N (SO.swp Y j q) rest := by rw [← hV2]; exact hR2.out.drew
                  have hTt : Two g g w V2 := by rw [← hV2]; exact ⟨hT2.out.os, hT2.out.tape, hT2.out.output, hT2.out.size, hT2.out.block⟩
                  replace hRt := W_hid hRt
                  replace hTt := W_hid hTt
                  have hne1 : ¬ j = q := by omega
                  have hne2 : ¬ q = j := by omega
                  clear hR2 hT2
                  clear hR hT hqx
                  go_region
                  try rw [hV2]
                  clear hV2 dI dJ gz
                  go_wp2_with fail
                  go_roundw
                  case rel => exact ⟨j + 1, _, by go_num, by omega, by omega, hRt, hS2, hU2, hTt⟩
                  case measure => first | (simp [intOf]; omega) | simp [intOf]
                · rw [show decide (vj < vq) = false by simp [hl]] at hL
                  replace hl := W_hid hl
                  replace hvj := W_hid hvj
                  replace hvq := W_hid hvq
                  replace hq := W_hid hq
                  go_wp2_with fail
                  go_quiet ((go_at_call 185; exact hL.out _))
                  go_wp2_with fail
                  go_roundw
                  case rel => exact ⟨i, c + 1, Y, rfl, by go_num, by omega, hi1, hi2, W_hid (hR.out.drewN nq), hS, hU, W_hid (hT.out.drew nq)⟩
                  case measure => first | (simp [intOf]; omega) | simp [intOf]
              · go_wp2_with fail
                go_roundw
                case rel => exact ⟨i, c + 1, Y, rfl, by go_num, by omega, hi1, hi2, hR, hS, hU, hT⟩
                case measure => first | (simp [intOf]; omega) | simp [intOf]
          · go_wp2_with fail
            go_roundw
            case rel => exact ⟨i, c + 1, Z2, rfl, by go_num, by omega, hi1, hi2, hRs, hSs, hUs, hTs⟩
            case measure => first | (simp [intOf]; omega) | simp [intOf]
    · go_wp2_with fail
      go_ret
      exact ⟨false, rfl, hT.out, Z, hR.out, hS.out, fun h => by cases h⟩
end IS
namespace IS
theorem und_str : Tryz.prog.underlying 9 = some .string := by kernel_rfl
theorem str_at (s : ByteArray) (hs : s.size = 256) (k : Int) (hk : 0 ≤ k) (hk2 : k < 256) : ∃ t : Nat, t ≤ 255 ∧ ∀ w, (Instr.index 9 (.string s) (.int .u8 k)).run Tryz.prog w = .ok (.int .u8 (t : Int)) w := by
  have hlt : k.toNat < s.size := by omega
  refine ⟨(s[k.toNat]).toNat, by have := (s[k.toNat]).toNat_lt; omega, fun w => ?_⟩
  rw [run_index_string w _ s _ _ und_str, dif_pos ⟨by omega, by omega⟩]
set_option maxRecDepth 100000 in
set_option maxHeartbeats 4000000 in
theorem Len64_any (X : Int) (w : World) (h0 : 0 ≤ X) (hX : X < 65536) : Calls Tryz.prog 189 #[.int .u64 X] w fun e w' => (∃ k : Nat, e = .returned (.int .i64 (k : Int)) ∧ k ≤ 300) ∧ w' = w := by
  have d1 : X < 4294967296 := by omega
  go_enter Tryz.func189, Tryz.ntmps189
  generalize hT : Value.string _ = T
  have hI : ∀ k : Int, 0 ≤ k → k < 256 → ∃ t : Nat, t ≤ 255 ∧ ∀ w, (Instr.index 9 T (.int .u8 k)).run Tryz.prog w = .ok (.int .u8 (t : Int)) w := by
    intro k hk hk2
    rw [← hT]
    exact str_at _ (by rfl) k hk hk2
  clear hT
  by_cases h : 256 ≤ X
  · obtain ⟨t, ht, hi⟩ := hI (X / 256) (by omega) (by omega)
    clear hI
    have q0 : 0 ≤ X / 256 := by omega
    have q1 : X / 256 < 256 := by omega
    go_wp2_with fail
    go_ret
    exact ⟨⟨t + 8, by simp; omega, by omega⟩, rfl⟩
  · obtain ⟨t, ht, hi⟩ := hI X (by omega) (by omega)
    clear hI
    have h2 : X < 256 := by omega
    go_wp2_with fail
    go_ret
    exact ⟨⟨t, rfl, by omega⟩, rfl⟩
set_option maxRecDepth 100000 in
set_option maxHeartbeats 4000000 in
theorem Len_any (X : Int) (w : World) (h0 : 0 ≤ X) (hX : X < 65536) : Calls Tryz.prog 157 #[.int .u64 X] w fun e w' => (∃ k : Nat, e = .returned (.int .i64 (k : Int)) ∧ k ≤ 300) ∧ w' = w := by
  have c := Len64_any X w h0 hX
  go_enter Tryz.func157, Tryz.ntmps157
  go_wp2_with (go_at_call 189; refine c.mono ?_; rintro e w' ⟨⟨k, rfl, hk⟩, rfl⟩)
  go_ret
  exact ⟨⟨k, rfl, hk⟩, rfl⟩
end IS
namespace IS
def Sorts (m : Nat) : Prop := ∀ (g N cap : Nat) (rest : List Value) (X : Nat → Nat) (w : World), N ≤ m → RW w g N X rest → N ≤ cap → (∀ i, i < N → X i < 9223372036854775808) →
  Calls Tryz.prog 111 #[.slice (some ⟨g, 0, none⟩) N cap] w fun e w' => e = .returned (.tuple #[]) ∧ Two g g w w' ∧ ∃ Y, RW w' g N Y rest ∧ SO.Sw 0 N X Y ∧ SO.Up Y 0 N
structure Nlist (base : Nat) (w : World) (v : Value) (l : List Nat) : Prop where
  ex : ∃ (g cap : Nat) (rest : List Value), v = .slice (some ⟨g, 0, none⟩) l.length cap ∧ base ≤ g ∧ l.length ≤ cap ∧ Blk w g 3 (l.map nk ++ rest)
theorem Nlist.keep {base : Nat} {w w' : World} {v : Value} {l : List Nat} (h : Nlist base w v l) (hb : Below w.heap.size w w') : Nlist base w' v l := by
  obtain ⟨g, cap, rest, e, h1, h2, h3⟩ := h.ex
  exact ⟨⟨g, cap, rest, e, h1, h2, h3.keep hb⟩⟩
theorem lst_of (l : List Nat) : SO.lst (fun i => l.getD i 0) l.length = l := by
  apply List.ext_getElem?
  intro i
  by_cases h : i < l.length
  · rw [SO.lst_get _ _ _ h]; simp [List.getD, h]
  · rw [List.getElem?_eq_none (by rw [SO.lst_len]; omega), List.getElem?_eq_none (by omega)]
theorem up_pairwise {X : Nat → Nat} {N : Nat} (h : SO.Up X 0 N) : (SO.lst X N).Pairwise (· ≤ ·) := by
  unfold SO.lst
  rw [List.pairwise_map]
  rw [List.pairwise_iff_getElem]
  intro i j hi hj hij
  simp only [List.length_range] at hi hj
  simp only [List.getElem_range]
  exact h i j (by omega) hij hj
end IS
namespace IS
theorem wrapn (x : Nat) : ∃ y : Nat, y < 18446744073709551616 ∧ IntKind.u64.wrap (x : Int) = (y : Int) := ⟨x % 18446744073709551616, Nat.mod_lt _ (by decide), by rw [IntKind.wrap_u64]; omega⟩
theorem wrapm (m : Nat) (h : m ≤ 2 ^ 16) : IntKind.u64.wrap (m : Int) = (m : Int) := by rw [IntKind.wrap_u64]; omega
theorem xor_some (x y : Nat) (hx : x < 18446744073709551616) (hy : y < 18446744073709551616) : ∃ z : Nat, z < 18446744073709551616 ∧ bits BinOp.xor IntKind.u64 (x : Int) (y : Int) = (z : Int) :=
  ⟨x ^^^ y, Nat.xor_lt_two_pow (n := 64) hx hy, u64_xor_nat _ _ hx hy⟩
theorem shl_some (x : Nat) (c : Nat) (hx : x < 18446744073709551616) : ∃ z : Nat, z < 18446744073709551616 ∧ bits BinOp.xor IntKind.u64 (x : Int) (IntKind.u64.wrap ((x : Int) * (c : Int))) = (z : Int) := by
  obtain ⟨y, hy, e⟩ := wrapn (x * c)
  rw [show ((x * c : Nat) : Int) = (x : Int) * (c : Int) by push_cast; rfl] at e
  rw [e]
  exact xor_some x y hx hy
theorem shr_some (x : Nat) (hx : x < 18446744073709551616) : ∃ z : Nat, z < 18446744073709551616 ∧ bits BinOp.xor IntKind.u64 (x : Int) ((x : Int) / 128) = (z : Int) := by
  rw [show (x : Int) / 128 = ((x / 128 : Nat) : Int) by omega]
  exact xor_some x _ hx (by omega)
set_option maxRecDepth 100000 in
set_option maxHeartbeats 1000000 in
theorem Next_any (y x : Nat) (w : World) (hy : Blk w y 240 [.int .u64 (x : Int)]) (hx : x < 18446744073709551616) :
    Calls Tryz.prog 195 #[.pointer (some ⟨y, 0, none⟩)] w fun e w' => ∃ z : Nat, e = .returned (.int .u64 (z : Int)) ∧ z < 18446744073709551616 ∧ Blk w' y 240 [.int .u64 (z : Int)] ∧ Two y y w w' := by
  obtain ⟨x1, h1, e1⟩ : ∃ z : Nat, z < 18446744073709551616 ∧ bits BinOp.xor IntKind.u64 (x : Int) (IntKind.u64.wrap ((x : Int) * 8192)) = (z : Int) := shl_some x 8192 hx
  obtain ⟨x2, h2, e2⟩ := shr_some x1 h1
  obtain ⟨x3, h3, e3⟩ : ∃ z : Nat, z < 18446744073709551616 ∧ bits BinOp.xor IntKind.u64 (x2 : Int) (IntKind.u64.wrap ((x2 : Int) * 131072)) = (z : Int) := shl_some x2 131072 h2
  have c0 := hy.cell (j := 0) rfl
  have f0 := hy.fz
  have q1 := W_hid (hy.set 0 (.int .u64 (x1 : Int)))
  have t1 := W_hid ((Two.refl y y w).setCell (p := ⟨y, 0, none⟩) (.inl rfl) (.int .u64 (x1 : Int)))
  replace h3 := W_hid h3
  clear hx h1 h2 hy
  obtain ⟨w1, hw1⟩ : ∃ V, World.drew (w.setCell ⟨y, 0, none⟩ (.int .u64 (x1 : Int))) = V := ⟨_, rfl⟩
  have b1 : Blk w1 y 240 [.int .u64 (x1 : Int)] := by rw [← hw1]; exact q1.out
  have k1 : Two y y w w1 := by rw [← hw1]; exact ⟨t1.out.os, t1.out.tape, t1.out.output, t1.out.size, t1.out.block⟩
  obtain ⟨w2, hw2⟩ : ∃ V, World.drew (w1.setCell ⟨y, 0, none⟩ (.int .u64 (x2 : Int))) = V := ⟨_, rfl⟩
  have b2 : Blk w2 y 240 [.int .u64 (x2 : Int)] := by rw [← hw2]; exact b1.set 0 _
  have k2 : Two y y w w2 := by
    have t := k1.setCell (p := ⟨y, 0, none⟩) (.inl rfl) (.int .u64 (x2 : Int))
    rw [← hw2]; exact ⟨t.os, t.tape, t.output, t.size, t.block⟩
  obtain ⟨w3, hw3⟩ : ∃ V, World.drew (w2.setCell ⟨y, 0, none⟩ (.int .u64 (x3 : Int))) = V := ⟨_, rfl⟩
  have b3 : Blk w3 y 240 [.int .u64 (x3 : Int)] := by rw [← hw3]; exact b2.set 0 _
  have k3 : Two y y w w3 := by
    have t := k2.setCell (p := ⟨y, 0, none⟩) (.inl rfl) (.int .u64 (x3 : Int))
    rw [← hw3]; exact ⟨t.os, t.tape, t.output, t.size, t.block⟩
  have c1 := b1.cell (j := 0) rfl
  have f1 := b1.fz
  have c2 := b2.cell (j := 0) rfl
  have f2 := b2.fz
  have c3 := b3.cell (j := 0) rfl
  replace b3 := W_hid b3
  replace k3 := W_hid k3
  clear b1 b2 k1 k2 q1 t1
  go_enter Tryz.func195, Tryz.ntmps195
  go_wp2_with fail
  go_region
  try rw [hw1]
  go_wp2_with fail
  go_region
  try rw [hw2]
  go_wp2_with fail
  go_region
  try rw [hw3]
  go_wp2_with fail
  go_ret
  exact ⟨x3, rfl, h3.out, b3.out, k3.out⟩
def lenOk (t i : Nat) : Bool := decide (i < 2 ^ t) && (decide (i = 0) || decide (2 ^ t ≤ 2 * i)) && decide (t ≤ 8)
theorem len_at (s : ByteArray) (hs : s.size = 256) (hp : ∀ i : Fin 256, lenOk (s.get! i.val).toNat i.val = true) (k : Nat) (hk : k < 256) : ∃ t : Nat, k < 2 ^ t ∧ (k = 0 ∨ 2 ^ t ≤ 2 * k) ∧ t ≤ 8 ∧ ∀ w, (Instr.index 9 (.string s) (.int .u8 (k : Int))).run Tryz.prog w = .ok (.int .u8 (t : Int)) w := by
  have hlt : k < s.size := by omega
  have h1 := hp ⟨k, hk⟩
  have e : s.get! k = s[k] := by
    show s.data[k]! = s.data[k]
    exact getElem!_pos s.data k hlt
  rw [show s.get! (⟨k, hk⟩ : Fin 256).val = s[k] from e] at h1
  unfold lenOk at h1
  simp only [Bool.and_eq_true, Bool.or_eq_true, decide_eq_true_eq] at h1
  refine ⟨(s[k]).toNat, h1.1.1, h1.1.2, h1.2, fun w => ?_⟩
  rw [run_index_string w _ s _ _ und_str, dif_pos ⟨by omega, by omega⟩]
  rfl
set_option maxRecDepth 100000 in
set_option maxHeartbeats 4000000 in
theorem Len64_fine (X : Nat) (w : World) (h0 : 1 ≤ X) (hX : X < 65536) : Calls Tryz.prog 189 #[.int .u64 (X : Int)] w fun e w' => (∃ k : Nat, e = .returned (.int .i64 (k : Int)) ∧ k ≤ 16 ∧ X < 2 ^ k ∧ 2 ^ k ≤ 2 * X) ∧ w' = w := by
  obtain ⟨Y, hY⟩ : ∃ Y : Int, Y = (X : Int) := ⟨_, rfl⟩
  have d0 : 0 ≤ Y := by omega
  have d1 : Y < 4294967296 := by omega
  have d2 : Y < 65536 := by omega
  rw [← hY]
  go_enter Tryz.func189, Tryz.ntmps189
  generalize hT : Value.string _ = T
  have hI : ∀ k : Nat, k < 256 → ∃ t : Nat, k < 2 ^ t ∧ (k = 0 ∨ 2 ^ t ≤ 2 * k) ∧ t ≤ 8 ∧ ∀ w, (Instr.index 9 T (.int .u8 (k : Int))).run Tryz.prog w = .ok (.int .u8 (t : Int)) w := by
    intro k hk
    rw [← hT]
    exact len_at _ (by rfl) (by decide +kernel) k hk
  clear hT
  by_cases h : 256 ≤ X
  · obtain ⟨t, ht1, ht2, ht3, hi⟩ := hI (X / 256) (by omega)
    have hfin : Hid (t + 8 ≤ 16 ∧ X < 2 ^ (t + 8) ∧ 2 ^ (t + 8) ≤ 2 * X) := by
      show _ ∧ _ ∧ _
      rw [Nat.pow_add]
      have : 2 ^ 8 = 256 := rfl
      omega
    obtain ⟨Q, hQ⟩ : ∃ Q : Int, Q = ((X / 256 : Nat) : Int) := ⟨_, rfl⟩
    have hYQ : Y / 256 = Q := by omega
    have hq : 0 ≤ Q ∧ Q < 256 := by omega
    have hy : 256 ≤ Y := by omega
    rw [← hQ] at hi
    have ht4 : t ≤ 8 := ht3
    clear hI ht1 ht2 ht3 hQ hY h0 hX h
    go_wp2_with fail
    go_ret
    exact ⟨⟨t + 8, by simp; omega, hfin.out⟩, rfl⟩
  · obtain ⟨t, ht1, ht2, ht3, hi⟩ := hI X (by omega)
    have hfin : Hid (t ≤ 16 ∧ X < 2 ^ t ∧ 2 ^ t ≤ 2 * X) := by
      show _ ∧ _ ∧ _
      omega
    have h2 : Y < 256 := by omega
    have ht4 : t ≤ 8 := ht3
    rw [← hY] at hi
    clear hI ht1 ht2 ht3 hY h0 hX h
    go_wp2_with fail
    go_ret
    exact ⟨⟨t, rfl, hfin.out⟩, rfl⟩
set_option maxRecDepth 100000 in
set_option maxHeartbeats 4000000 in
theorem Len_fine (X : Nat) (w : World) (h0 : 1 ≤ X) (hX : X < 65536) : Calls Tryz.prog 157 #[.int .u64 (X : Int)] w fun e w' => (∃ k : Nat, e = .returned (.int .i64 (k : Int)) ∧ k ≤ 16 ∧ X < 2 ^ k ∧ 2 ^ k ≤ 2 * X) ∧ w' = w := by
  have c := W_hid (Len64_fine X w h0 hX)
  clear h0 hX
  go_enter Tryz.func157, Tryz.ntmps157
  go_wp2_with (go_at_call 189; refine c.out.mono ?_; rintro e w' ⟨⟨k, rfl, hk⟩, rfl⟩)
  go_ret
  exact ⟨⟨k, rfl, hk⟩, rfl⟩
set_option maxRecDepth 100000 in
set_option maxHeartbeats 4000000 in
theorem power_any (X : Nat) (w : World) (h0 : 1 ≤ X) (hX : X < 65536) : Calls Tryz.prog 194 #[.int .i64 (X : Int)] w fun e w' => (∃ m : Nat, e = .returned (.int .u64 (m : Int)) ∧ X < m ∧ m ≤ 2 * X) ∧ w' = w := by
  have c := W_hid (Len_fine X w h0 hX)
  have hsh : Hid (∀ (k : Nat), k ≤ 16 → IntKind.u64.wrap ((2 : Int) ^ k) = ((2 ^ k : Nat) : Int)) := by
    intro k hk
    have hp : 2 ^ k ≤ 2 ^ 16 := Nat.pow_le_pow_right (by decide) hk
    rw [show ((2 : Int) ^ k) = ((2 ^ k : Nat) : Int) by push_cast; rfl]
    exact wrapm _ hp
  have hx1 : (X : Int) < 65536 := by omega
  clear h0 hX
  go_enter Tryz.func194, Tryz.ntmps194
  go_wp2_with fail
  refine c.out.mono ?_
  rintro e w' ⟨⟨k, rfl, hk, hk1, hk2⟩, rfl⟩
  have hs := hsh.out k hk
  obtain ⟨m, hm⟩ : ∃ m, 2 ^ k = m := ⟨_, rfl⟩
  rw [hm] at hs hk1 hk2
  replace hm := W_hid hm
  replace hs := W_hid hs
  go_wp2_with fail
  go_ret
  exact ⟨⟨m, ret_u64 hs.out, hk1, hk2⟩, rfl⟩
end IS
end Go.Proofs.YtfhidjkhmjdioaaGreat

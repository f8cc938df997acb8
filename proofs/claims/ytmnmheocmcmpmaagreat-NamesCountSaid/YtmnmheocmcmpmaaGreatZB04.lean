/- Contracts of package names' Unlink and Rmdir. -/
import Derived.Test.YtmnmheocmcmpmaaGreatZB03
import Derived.Shelf.SlIter.Nil
import Derived.Shelf.SortM.Plain
import Derived.Shelf.SortM.SortNone
import Derived.Test.YtmnmheocmcmpmaaGreatProg
import Derived.Test.YtmnmheocmcmpmaaGreatZB01
import Derived.Deep.RegionHeld3
import Derived.Deep.MidRow
import Derived.Lib.UnsafeStr
import Derived.Lib.BufferWrite
import Derived.Laws.MakeOwn
import Derived.Test.YtmnmheocmcmpmaaGreatZB02

namespace Go.Proofs.YtmnmheocmcmpmaaGreat
open Go.ChangeShapes Go.WideShapes Go.ChangeAt Go.RowKit Go.Maps
set_option linter.unusedVariables false
set_option linter.unusedSimpArgs false
namespace NT
open IN (Keeps)
theorem wpList_takeS {P : Program} {w : World} {ops : Array Oper} {rest : List Oper} {o : Oper} {a : Act} {Q : Exit → Act → World → Prop} (hg : o.guard = none) (x hi : Operand) (t : TypeId) (hop : o.op = Op.slice t x none (some hi) none)
    (ht : P.underlying t = some (.slice (P.elem t))) (hs : (sizeOf (P.elem t)).run P w = .ok 1 w)
    (ao : Option Addr) (n cap : Nat) (l : List ByteArray) (hx : a.eval x = .slice ao n cap) (hb : SS w ao n cap l) (kh : IntKind) (z : Int) (H : Nat) (hh : a.eval hi = .int kh z) (hz : z = (H : Int)) (h2 : H ≤ n) (hn : 0 < n)
    (hK : SS w ao H cap (l.take H) → wpList P ops Q rest (a.put o.dst (.slice ao H cap)) w) :
    wpList P ops Q (o :: rest) a w := by
  subst hz
  refine wpList_plain hg fun K hK' => ?_
  have hcap := hb.2.1
  obtain ⟨blk, off, rfl, -⟩ := hb.at_ hn
  have hrun := run_slice_h (P := P) w t (some ⟨blk, off, none⟩) n cap ht kh (H : Int) (by omega) (by omega)
  rw [hs] at hrun
  simp only [Result.andThen, sliced, Int.toNat_natCast] at hrun
  have hrun2 : (Instr.sliceAt t (.slice (some ⟨blk, off, none⟩) n cap) none (some (.int kh (H : Int))) none).run P w = .ok (.slice (some ⟨blk, off, none⟩) H cap) w := by
    rw [run_sliceAt_slice (P := P) w t _ _ _ _ ht, hrun]
    have : ¬ cap = 0 := by omega
    simp [this, Addr.add]
  unfold Oper.wp
  simp only [execOp, hop, hx, hh, Option.map_some, Option.map_none, hrun2, Sem.run_bind, Sem.run_pure, Result.andThen, Oper.upon]
  refine hK' _ _ (hK ⟨by rw [List.length_take, hb.1]; omega, by omega, hb.2.2.1, fun h => (by cases h), fun a' ha j u hu => hb.2.2.2.2 a' ha j u ?_⟩)
  unfold scl at hu ⊢
  rw [List.map_take, List.getElem?_take] at hu
  split at hu
  · exact hu
  · cases hu
def plv (n : Int) (x : Option Nat) (k : ByteArray) (d : Bool) : Value := .agg #[.int .i64 n, IS.ptr x, .string k, .bool d]
def last (l : List ByteArray) : ByteArray := l.getD (l.length - 1) ByteArray.empty
def placeC (D : Ds) (l : List ByteArray) (r : Int) (c : Int → Int) : Except Int Int := match place D l r with
  | .error e => .error e
  | .ok n => if c n = 0 then .ok n else .error (c n)
def pv (A : Int → Option (Nat × Nat)) (l : List ByteArray) (d : Bool) : Except Int Int → Value
  | .ok n => plv n (pa A n) (last l) d
  | .error _ => .agg #[.int .i64 0, .pointer none, .string ByteArray.empty, .bool false]
set_option maxRecDepth 100000 in
set_option maxHeartbeats 2000000 in
theorem target_any (n : Int) (g m : Nat) (u : Int) (pu : Option Nat) (M : ByteArray → Option (Int × Option Nat)) (k : ByteArray) (d : Bool) (hk : NS.Sm k) (w : World) (h : DB w g u pu m M) :
    Calls Tryz.prog 92 #[.agg #[.int .i64 n, .pointer (some ⟨g, 0, none⟩), .string k, .bool d]] w fun e w' => e = .returned (.tuple #[NS.nv ((M k).getD (0, none)), .bool (M k).isSome]) ∧ Below w.heap.size w w' := by
  have b0 := new2 w (.cells #[.int .i64 n, .pointer (some ⟨g, 0, none⟩), .string k, .bool d] 147) (.cells #[.int .i64 0, .pointer none] 141)
  have cG := W_hid (get_any g m u pu M k hk _ (h.keep b0))
  obtain ⟨r, hr⟩ : ∃ r, (M k).getD (0, none) = r := ⟨_, rfl⟩
  obtain ⟨b, hbb⟩ : ∃ b, (M k).isSome = b := ⟨_, rfl⟩
  rw [hr, hbb] at cG
  rw [hr, hbb]
  obtain ⟨r1, r2⟩ := r
  obtain ⟨pp, hpp⟩ := ptr_form r2
  simp only [NS.nv, hpp] at cG ⊢
  clear h hr hbb hpp
  go_enter Tryz.func92, Tryz.ntmps92
  go_wp2_with fail
  refine cG.out.mono ?_
  rintro e w1 ⟨rfl, b1⟩
  have n1 : Blk w1 (w.heap.size + 1) 141 [.int .i64 0, .pointer none] := (Blk.new _ _ _ (by simp)).keep b1
  have c0 := n1.cell (j := 0) rfl
  have c1 := n1.cell (j := 1) rfl
  have f1 := n1.fz
  have N1 := W_hid ((n1.set 0 (.int .i64 r1)).set 1 (.pointer pp))
  have B2 := W_hid (((b0.trans (b1.mono b0.size)).setCell (p := ⟨w.heap.size + 1, 0, none⟩) (by simp) (.int .i64 r1)).setCell (p := ⟨w.heap.size + 1, 1, none⟩) (by simp) (.pointer pp))
  clear b1 n1 cG b0
  go_wp2_with fail
  refine bodyPost_ret (res_node Tryz.results92 _ _ rfl N1.out) rfl ?_
  exact ⟨rfl, B2.out⟩
theorem res_place {fn : Func} {r t : Tmp} (hres : fn.results = #[.cell r 147, .tmp t]) (tmps : Array Value) (w : World) {g : Nat} {n p k d : Value} (hr : tmps.getD r undef = .pointer (some ⟨g, 0, none⟩)) (h : Blk w g 147 [n, p, k, d]) :
    (results fn tmps).run Tryz.prog w = .ok (.tuple #[.agg #[n, p, k, d], tmps.getD t undef]) w := by
  have h0 := h.cell (j := 0) rfl
  have h1 := h.cell (j := 1) rfl
  have h2 := h.cell (j := 2) rfl
  have h3 := h.cell (j := 3) rfl
  rw [Array.getD_eq_getD_getElem?] at hr
  simp [results, hres, go_sem, hr, h0, h1, h2, h3]
theorem blk_set4 {w : World} {g : Nat} {e : TypeId} {a b c d a' b' c' d' : Value} (h : Blk w g e [a, b, c, d]) : Blk ((((w.setCell ⟨g, 0, none⟩ a').setCell ⟨g, 1, none⟩ b').setCell ⟨g, 2, none⟩ c').setCell ⟨g, 3, none⟩ d') g e [a', b', c', d'] :=
  (((h.set 0 a').set 1 b').set 2 c').set 3 d'
theorem below4 {w w' : World} {B g : Nat} (h : Below B w w') (hg : B ≤ g) (a b c d : Value) : Below B w ((((w'.setCell ⟨g, 0, none⟩ a).setCell ⟨g, 1, none⟩ b).setCell ⟨g, 2, none⟩ c).setCell ⟨g, 3, none⟩ d) :=
  (((h.setCell (p := ⟨g, 0, none⟩) hg a).setCell (p := ⟨g, 1, none⟩) hg b).setCell (p := ⟨g, 2, none⟩) hg c).setCell (p := ⟨g, 3, none⟩) hg d
section
variable {base : Nat} {w w' : World} {tg sg mb : Nat} {A : Int → Option (Nat × Nat)} {D : Ds}
set_option maxRecDepth 100000 in
set_option maxHeartbeats 4000000 in
theorem place_none (a d : Bool) (r : Int) (t : Value) (ao : Option Addr) (cap : Nat) (k : Fn) (fi lb : Array Value) (w : World) :
    Calls Tryz.prog 78 #[t, .agg #[.bool a, .slice ao 0 cap, .bool d], .int .i64 r, .func k fi lb] w fun e w' => e = .returned (.tuple #[.agg #[.int .i64 0, .pointer none, .string ByteArray.empty, .bool false], .int .i64 r]) ∧ Below w.heap.size w w' := by
  go_enter Tryz.func78, Tryz.ntmps78
  go_wp2_with fail
  exact bodyPost_ret (res_place Tryz.results78 _ _ rfl (Blk.new _ _ [.int .i64 0, .pointer none, .string ByteArray.empty, .bool false] (by simp))) rfl ⟨rfl, new2 _ _ _⟩
theorem strs_elem : Tryz.prog.underlying 134 = some (.slice (Tryz.prog.elem 134)) := by kernel_rfl
theorem strs_size (w : World) : (sizeOf (Tryz.prog.elem 134)).run Tryz.prog w = .ok 1 w := by kernel_rfl
theorem SS_last {w : World} {ao : Option Addr} {n cap : Nat} {l : List ByteArray} (h : SS w ao n cap l) (hn : 0 < n) : ∃ blk off, ao = some ⟨blk, off, none⟩ ∧ w.cell? ⟨blk, off + (n - 1), none⟩ = some (.string (last l)) := by
  obtain ⟨blk, off, e, hc⟩ := h.at_ hn
  refine ⟨blk, off, e, ?_⟩
  have h1 := h.1
  rw [hc (n - 1) (by omega)]
  have hlt : n - 1 < l.length := by omega
  have e2 : last l = l[n - 1] := by
    unfold last
    have : l.length - 1 = n - 1 := by omega
    rw [this, List.getD_eq_getElem?_getD, List.getElem?_eq_getElem hlt]
    rfl
  rw [e2]
set_option maxRecDepth 100000 in
set_option maxHeartbeats 4000000 in
theorem place_no (a d : Bool) (r : Int) (l : List ByteArray) (ao : Option Addr) (n cap : Nat) (k : Fn) (fi lb : Array Value) (w : World) (h : TM base w tg sg mb A D) (hl : SS w ao n cap l) (hn : 0 < n) (hs : ∀ k ∈ l, NS.Sm k) (e : Int) (hp : place D l r = .error e) :
    Calls Tryz.prog 78 #[.pointer (some ⟨tg, 0, none⟩), .agg #[.bool a, .slice ao n cap, .bool d], .int .i64 r, .func k fi lb] w fun e' w' => e' = .returned (.tuple #[.agg #[.int .i64 0, .pointer none, .string ByteArray.empty, .bool false], .int .i64 e]) ∧ Below w.heap.size w w' := by
  have b0 := new2 w (.cells #[.bool a, .slice ao n cap, .bool d] 136) (.cells #[.int .i64 0, .pointer none, .string ⟨#[]⟩, .bool false] 147)
  have hlim : n ≤ 9223372036854775807 := by have := hl.2.1; have := hl.2.2.1; unfold maxLen at *; omega
  have hlen := hl.1
  have hl0 := hl.below b0 (Nat.le_refl _)
  have HL := W_hid hl0
  have cR := W_hid (fun (hl1 : SS _ ao (n - 1) cap (l.take (n - 1))) => resolve_any (l.take (n - 1)) ao (n - 1) cap _ (h.keep b0) hl1 (fun k hk => hs k (List.mem_of_mem_take hk)))
  have hdl : l.dropLast = l.take (n - 1) := by rw [List.dropLast_eq_take, hlen]
  have hpn := pa_none h
  have hne : ¬ l = [] := fun e => by rw [e] at hlen; simp at hlen; omega
  unfold place at hp
  rw [if_neg hne, hdl] at hp
  clear h hl hl0 hdl hs
  cases hg : goes D 1 (l.take (n - 1)) with
  | error e1 =>
    rw [hg] at hp cR
    simp only [Except.error.injEq] at hp
    subst hp
    have hne : (e1 == 0) = false := by simpa using goes_er hg
    simp only [rv, er, NS.nv, IS.ptr] at cR
    clear hg hpn
    go_enter Tryz.func78, Tryz.ntmps78
    go_wp2_with (with_reducible show wpList _ _ _ _ _ _; (refine wpList_takeS rfl (.tmp 26) (.tmp 27) 134 rfl strs_elem (strs_size _) ao n cap l rfl HL.out .i64 _ (n - 1) rfl (by omega) (by omega) hn ?_); intro hl1; have cR1 := W_hid (cR.out hl1); clear hl1)
    refine cR1.out.mono ?_
    rintro e' w1 ⟨rfl, b1⟩
    have n1 : Blk (w1.alloc (.cells #[.int .i64 0, .pointer none] 141)) (w.heap.size + 1) 147 [.int .i64 0, .pointer none, .string ⟨#[]⟩, .bool false] := ((Blk.new _ _ _ (by simp)).keep b1).alloc _
    have c0 := n1.cell (j := 0) rfl
    have c1 := n1.cell (j := 1) rfl
    have c2 := n1.cell (j := 2) rfl
    have c3 := n1.cell (j := 3) rfl
    have f1 := n1.fz
    have N1 := W_hid (blk_set4 n1 (a' := .int .i64 0) (b' := .pointer none) (c' := .string ⟨#[]⟩) (d' := .bool false))
    have b2 : Below w.heap.size w w1 := b0.trans (b1.mono b0.size)
    have B2 := W_hid (below4 (b2.alloc b2.size (.cells #[.int .i64 0, .pointer none] 141)) (g := w.heap.size + 1) (by simp) (.int .i64 0) (.pointer none) (.string ⟨#[]⟩) (.bool false))
    clear b1 n1 b2 cR cR1 b0
    go_wp2_with fail
    exact bodyPost_ret (res_place Tryz.results78 _ _ rfl N1.out) rfl ⟨rfl, B2.out⟩
  | ok m =>
    rw [hg] at hp cR
    simp only at hp
    by_cases hD : D m = none
    · rw [if_pos hD] at hp
      simp only [Except.error.injEq] at hp
      subst hp
      have cF := fun w => isFile_any m (pa A m) w
      rw [hpn m, decide_eq_true hD] at cF
      obtain ⟨pm, hpm⟩ := ptr_form (pa A m)
      simp only [rv, er, NS.nv, hpm] at cR cF
      replace cF := fun w => W_hid (cF w)
      clear hg hpn hD hpm
      go_enter Tryz.func78, Tryz.ntmps78
      go_wp2_with (with_reducible show wpList _ _ _ _ _ _; (refine wpList_takeS rfl (.tmp 26) (.tmp 27) 134 rfl strs_elem (strs_size _) ao n cap l rfl HL.out .i64 _ (n - 1) rfl (by omega) (by omega) hn ?_); intro hl1; have cR1 := W_hid (cR.out hl1); clear hl1)
      refine cR1.out.mono ?_
      rintro e' w1 ⟨rfl, b1⟩
      have n1 : Blk (w1.alloc (.cells #[.int .i64 m, .pointer pm] 141)) (w.heap.size + 1) 147 [.int .i64 0, .pointer none, .string ⟨#[]⟩, .bool false] := ((Blk.new _ _ _ (by simp)).keep b1).alloc _
      have b2 : Below w.heap.size w w1 := b0.trans (b1.mono b0.size)
      have B2 := W_hid (b2.alloc b2.size (.cells #[.int .i64 m, .pointer pm] 141))
      have n1 := W_hid n1
      clear b1 b2 cR cR1 b0
      go_wp2_with fail
      refine (cF _).out.mono ?_
      rintro e' w2 ⟨rfl, b2⟩
      have n2 := n1.out.keep b2
      have c0 := n2.cell (j := 0) rfl
      have c1 := n2.cell (j := 1) rfl
      have c2 := n2.cell (j := 2) rfl
      have c3 := n2.cell (j := 3) rfl
      have f1 := n2.fz
      have N1 := W_hid (blk_set4 n2 (a' := .int .i64 0) (b' := .pointer none) (c' := .string ⟨#[]⟩) (d' := .bool false))
      have B3 := W_hid (below4 (B2.out.trans (b2.mono B2.out.size)) (g := w.heap.size + 1) (by simp) (.int .i64 0) (.pointer none) (.string ⟨#[]⟩) (.bool false))
      clear b2 n2 n1
      go_wp2_with fail
      exact bodyPost_ret (res_place Tryz.results78 _ _ rfl N1.out) rfl ⟨rfl, B3.out⟩
    · rw [if_neg hD] at hp
      cases hp
set_option maxRecDepth 100000 in
set_option maxHeartbeats 4000000 in
theorem place_yes (a d : Bool) (r : Int) (l : List ByteArray) (ao : Option Addr) (n cap : Nat) (k : Nat) (lb : Array Value) (w : World) (h : TM base w tg sg mb A D) (hl : SS w ao n cap l) (hn : 0 < n) (hs : ∀ k ∈ l, NS.Sm k) (m : Int) (hp : place D l r = .ok m)
    (ek : ∀ args w, (callFunc k args).run Tryz.prog w = .ok (.enter k args) w) (c : Int) (hc : ∀ W, Below w.heap.size w W → Calls Tryz.prog k (#[plv m (pa A m) (last l) d] ++ lb) W fun e W' => e = .returned (.int .i64 c) ∧ Below W.heap.size W W') :
    Calls Tryz.prog 78 #[.pointer (some ⟨tg, 0, none⟩), .agg #[.bool a, .slice ao n cap, .bool d], .int .i64 r, .func (.func k) #[] lb] w fun e' w' => e' = .returned (.tuple #[if c = 0 then plv m (pa A m) (last l) d else .agg #[.int .i64 0, .pointer none, .string ByteArray.empty, .bool false], .int .i64 c]) ∧ Below w.heap.size w w' := by
  have b0 := new2 w (.cells #[.bool a, .slice ao n cap, .bool d] 136) (.cells #[.int .i64 0, .pointer none, .string ⟨#[]⟩, .bool false] 147)
  have hlim : n ≤ 9223372036854775807 := by have := hl.2.1; have := hl.2.2.1; unfold maxLen at *; omega
  have hlen := hl.1
  have hl0 := hl.below b0 (Nat.le_refl _)
  obtain ⟨blk, off, rfl, hlast⟩ := SS_last hl0 hn
  have HL := W_hid hl0
  have cR := W_hid (fun (hl1 : SS _ (some ⟨blk, off, none⟩) (n - 1) cap (l.take (n - 1))) => resolve_any (l.take (n - 1)) (some ⟨blk, off, none⟩) (n - 1) cap _ (h.keep b0) hl1 (fun k hk => hs k (List.mem_of_mem_take hk)))
  have hdl : l.dropLast = l.take (n - 1) := by rw [List.dropLast_eq_take, hlen]
  have hpn := pa_none h
  have hne : ¬ l = [] := fun e => by rw [e] at hlen; simp at hlen; omega
  unfold place at hp
  rw [if_neg hne, hdl] at hp
  clear h hl hl0 hdl hs
  have hg : goes D 1 (l.take (n - 1)) = .ok m ∧ ¬ D m = none := by
    cases hg : goes D 1 (l.take (n - 1)) with
    | error e1 => rw [hg] at hp; cases hp
    | ok m' =>
      rw [hg] at hp
      simp only at hp
      by_cases hD : D m' = none
      · rw [if_pos hD] at hp; cases hp
      · rw [if_neg hD] at hp
        cases hp
        exact ⟨rfl, hD⟩
  obtain ⟨hg, hD⟩ := hg
  rw [hg] at cR
  have cF := fun w => isFile_any m (pa A m) w
  rw [hpn m, decide_eq_false hD] at cF
  obtain ⟨pm, hpm⟩ := ptr_form (pa A m)
  obtain ⟨z, hz⟩ : ∃ z, last l = z := ⟨_, rfl⟩
  unfold plv at hc ⊢
  rw [hz] at hlast hc ⊢
  simp only [rv, er, NS.nv, hpm] at cR cF hc ⊢
  replace cF := fun w => W_hid (cF w)
  replace hc := W_hid hc
  replace ek := W_hid ek
  have hn1 : (n : Int) - 1 = ((n - 1 : Nat) : Int) := by omega
  clear hg hpn hD hpm hp hz
  go_enter Tryz.func78, Tryz.ntmps78
  go_wp2_with (with_reducible show wpList _ _ _ _ _ _; (refine wpList_takeS rfl (.tmp 26) (.tmp 27) 134 rfl strs_elem (strs_size _) (some ⟨blk, off, none⟩) n cap l rfl HL.out .i64 _ (n - 1) rfl (by omega) (by omega) hn ?_); intro hl1; have cR1 := W_hid (cR.out hl1); clear hl1)
  refine cR1.out.mono ?_
  rintro e' w1 ⟨rfl, b1⟩
  have n1 : Blk (w1.alloc (.cells #[.int .i64 m, .pointer pm] 141)) (w.heap.size + 1) 147 [.int .i64 0, .pointer none, .string ⟨#[]⟩, .bool false] := ((Blk.new _ _ _ (by simp)).keep b1).alloc _
  have p1 : Blk (w1.alloc (.cells #[.int .i64 m, .pointer pm] 141)) w.heap.size 136 [.bool a, .slice (some ⟨blk, off, none⟩) n cap, .bool d] := (((Blk.new _ _ _ rfl).alloc _).keep b1).alloc _
  have q1 : Blk (w1.alloc (.cells #[.int .i64 m, .pointer pm] 141)) w1.heap.size 141 [.int .i64 m, .pointer pm] := Blk.new _ _ _ rfl
  have hlast1 : w1.cell? ⟨blk, off + (n - 1), none⟩ = some (.string z) := by
    rw [b1.cell (World.block_lt_of_cell? _ _ hlast)]
    exact hlast
  have hlast1a : (w1.alloc (.cells #[.int .i64 m, .pointer pm] 141)).cell? ⟨blk, off + (n - 1), none⟩ = some (.string z) := by
    rw [((Below.refl w1.heap.size w1).alloc (Nat.le_refl _) _).cell (World.block_lt_of_cell? _ _ hlast1)]
    exact hlast1
  have b2 : Below w.heap.size w w1 := b0.trans (b1.mono b0.size)
  have B2 := W_hid (b2.alloc b2.size (.cells #[.int .i64 m, .pointer pm] 141))
  have n1 := W_hid n1
  have p1 := W_hid p1
  have q1 := W_hid q1
  have hl2 := W_hid hlast1a
  clear b1 b2 cR cR1 b0 hlast1 hlast1a hlast
  go_wp2_with fail
  refine (cF _).out.mono ?_
  rintro e' w2 ⟨rfl, b2⟩
  have n2 := n1.out.keep b2
  have p2 := p1.out.keep b2
  have q2 := q1.out.keep b2
  have hl3 : w2.cell? ⟨blk, off + (n - 1), none⟩ = some (.string z) := by
    rw [b2.cell (World.block_lt_of_cell? _ _ hl2.out)]
    exact hl2.out
  have pc1 := p2.cell (j := 1) rfl
  have pc2 := p2.cell (j := 2) rfl
  have qc0 := q2.cell (j := 0) rfl
  have qc1 := q2.cell (j := 1) rfl
  have pc1a := fun o => (p2.alloc o).cell (j := 1) rfl
  have pc2a := fun o => (p2.alloc o).cell (j := 2) rfl
  have qc0a := fun o => (q2.alloc o).cell (j := 0) rfl
  have qc1a := fun o => (q2.alloc o).cell (j := 1) rfl
  have hl3a : ∀ o, (w2.alloc o).cell? ⟨blk, off + (n - 1), none⟩ = some (.string z) := fun o => by
    rw [((Below.refl w2.heap.size w2).alloc (Nat.le_refl _) o).cell (World.block_lt_of_cell? _ _ hl3)]
    exact hl3
  have hb1 : n - 1 < n := by omega
  have B3 := W_hid (B2.out.trans (b2.mono B2.out.size))
  have n2 := W_hid n2
  clear b2 n1 p1 q1 p2 q2 hl2 B2
  go_wp2_with fail
  go_region
  obtain ⟨W, hW⟩ : ∃ W, (w2.alloc (.cells #[.int .i64 m, .pointer pm, .string z, .bool d] 147)).drew = W := ⟨_, rfl⟩
  have n3 : Blk W (w.heap.size + 1) 147 [.int .i64 0, .pointer none, .string ⟨#[]⟩, .bool false] := by rw [← hW]; exact n2.out.alloc _
  have q3 : Blk W w2.heap.size 147 [.int .i64 m, .pointer pm, .string z, .bool d] := by rw [← hW]; exact Blk.new w2 _ _ rfl
  have B4 : Below w.heap.size w W := by rw [← hW]; exact ((B3.out).alloc B3.out.size _).drew
  rw [hW]
  have r0 := q3.cell (j := 0) rfl
  have r1 := q3.cell (j := 1) rfl
  have r2 := q3.cell (j := 2) rfl
  have r3 := q3.cell (j := 3) rfl
  have cC := W_hid (hc.out W B4)
  have n3 := W_hid n3
  have q3 := W_hid q3
  have B4 := W_hid B4
  have hcf := fun w => ek.out (#[.agg #[.int .i64 m, .pointer pm, .string z, .bool d]] ++ lb) w
  clear hl3 hl3a pc1 pc1a pc2 pc2a qc0 qc0a qc1 qc1a n2 B3 hc ek
  go_wp2_with fail
  refine cC.out.mono ?_
  rintro e' w4 ⟨rfl, b4⟩
  have q4 := q3.out.keep b4
  have n4 := n3.out.keep b4
  have s0 := q4.cell (j := 0) rfl
  have s1 := q4.cell (j := 1) rfl
  have s2 := q4.cell (j := 2) rfl
  have s3 := q4.cell (j := 3) rfl
  have c0 := n4.cell (j := 0) rfl
  have c1 := n4.cell (j := 1) rfl
  have c2 := n4.cell (j := 2) rfl
  have c3 := n4.cell (j := 3) rfl
  have f4 := n4.fz
  by_cases hc0 : c = 0
  · subst hc0
    have N1 := W_hid (blk_set4 n4 (a' := .int .i64 m) (b' := .pointer pm) (c' := .string z) (d' := .bool d))
    have B5 := W_hid (below4 (B4.out.trans (b4.mono B4.out.size)) (g := w.heap.size + 1) (by simp) (.int .i64 m) (.pointer pm) (.string z) (.bool d))
    clear b4 q4 n4 n3 q3 cC
    go_wp2_with fail
    exact bodyPost_ret (res_place Tryz.results78 _ _ rfl N1.out) rfl ⟨rfl, B5.out⟩
  · have hne2 : (c == 0) = false := by simpa using hc0
    have N1 := W_hid (blk_set4 n4 (a' := .int .i64 0) (b' := .pointer none) (c' := .string ⟨#[]⟩) (d' := .bool false))
    have B5 := W_hid (below4 (B4.out.trans (b4.mono B4.out.size)) (g := w.heap.size + 1) (by simp) (.int .i64 0) (.pointer none) (.string ⟨#[]⟩) (.bool false))
    have hc0 := W_hid hc0
    clear b4 q4 n4 n3 q3 cC
    go_wp2_with fail
    refine bodyPost_ret (res_place Tryz.results78 _ _ rfl N1.out) rfl ⟨?_, B5.out⟩
    first
      | rfl
      | (rw [if_neg hc0.out]; rfl)
theorem place_er {D : Ds} {l : List ByteArray} {r e : Int} (h : place D l r = .error e) : e = r ∨ e ≠ 0 := by
  unfold place at h
  split at h
  · cases h; exact .inl rfl
  · split at h
    · rename_i e' he
      cases h
      exact .inr (goes_er he)
    · split at h <;> cases h
      exact .inr (by decide)
theorem place_all (a d : Bool) (r : Int) (l : List ByteArray) (ao : Option Addr) (n cap : Nat) (k : Nat) (lb : Array Value) (w : World) (h : TM base w tg sg mb A D) (hl : SS w ao n cap l) (hs : ∀ k ∈ l, NS.Sm k)
    (ek : ∀ args w, (callFunc k args).run Tryz.prog w = .ok (.enter k args) w) (c : Int → Int) (hc : ∀ m, place D l r = .ok m → ∀ W, Below w.heap.size w W → Calls Tryz.prog k (#[plv m (pa A m) (last l) d] ++ lb) W fun e W' => e = .returned (.int .i64 (c m)) ∧ Below W.heap.size W W') :
    Calls Tryz.prog 78 #[.pointer (some ⟨tg, 0, none⟩), .agg #[.bool a, .slice ao n cap, .bool d], .int .i64 r, .func (.func k) #[] lb] w fun e' w' => e' = .returned (.tuple #[pv A l d (placeC D l r c), .int .i64 (er (placeC D l r c))]) ∧ Below w.heap.size w w' := by
  by_cases hn : n = 0
  · have hl0 : l = [] := List.eq_nil_of_length_eq_zero (by rw [hl.1, hn])
    subst hn hl0
    exact (place_none a d r _ ao cap (.func k) #[] lb w).mono fun e w' h => h
  · cases hp : place D l r with
    | error e =>
      have e1 : placeC D l r c = .error e := by unfold placeC; rw [hp]
      rw [e1]
      exact place_no a d r l ao n cap (.func k) #[] lb w h hl (by omega) hs e hp
    | ok m =>
      have cc := place_yes a d r l ao n cap k lb w h hl (by omega) hs m hp ek (c m) (hc m hp)
      by_cases h0 : c m = 0
      · have e1 : placeC D l r c = .ok m := by unfold placeC; rw [hp]; simp [h0]
        rw [e1]
        rw [if_pos h0, h0] at cc
        exact cc
      · have e1 : placeC D l r c = .error (c m) := by unfold placeC; rw [hp]; simp [h0]
        rw [e1]
        rw [if_neg h0] at cc
        exact cc
end
end NT
namespace NT
open IN (Keeps)
def vacR (M : ByteArray → Option (Int × Option Nat)) (k : ByteArray) (kind : Int) (d : Bool) : Int := if (M k).isSome = true ∨ PM.name k = false then 12 else if kind = 1 ∧ d = true then 14 else 0
set_option maxRecDepth 100000 in
set_option maxHeartbeats 4000000 in
theorem vac1_any (n : Int) (g m kb : Nat) (u : Int) (pu : Option Nat) (M : ByteArray → Option (Int × Option Nat)) (k : ByteArray) (d : Bool) (kind : Int) (hk : NS.Sm k) (w : World) (h : DB w g u pu m M) (hkb : w.cell? ⟨kb, 0, none⟩ = some (.int .i64 kind)) :
    Calls Tryz.prog 153 #[.agg #[.int .i64 n, .pointer (some ⟨g, 0, none⟩), .string k, .bool d], .pointer (some ⟨kb, 0, none⟩)] w fun e w' => e = .returned (.int .i64 (vacR M k kind d)) ∧ Below w.heap.size w w' := by
  have b0 : Below w.heap.size w (w.alloc (.cells #[.int .i64 n, .pointer (some ⟨g, 0, none⟩), .string k, .bool d] 147)) := (Below.refl _ w).alloc (Nat.le_refl _) _
  have cT := W_hid (target_any n g m u pu M k d hk _ (h.keep b0))
  have cN := fun w => IsName_any k w hk
  have hp : Blk (w.alloc (.cells #[.int .i64 n, .pointer (some ⟨g, 0, none⟩), .string k, .bool d] 147)) w.heap.size 147 [.int .i64 n, .pointer (some ⟨g, 0, none⟩), .string k, .bool d] := Blk.new _ _ _ rfl
  have hv := W_hid (show vacR M k kind d = _ from rfl)
  obtain ⟨r, hr⟩ : ∃ r, (M k).getD (0, none) = r := ⟨_, rfl⟩
  obtain ⟨b, hbb⟩ : ∃ b, (M k).isSome = b := ⟨_, rfl⟩
  obtain ⟨y, hy⟩ : ∃ y, PM.name k = y := ⟨_, rfl⟩
  rw [hr, hbb] at cT
  rw [hy] at cN
  replace cN := fun w => W_hid (cN w)
  unfold vacR
  rw [hbb, hy]
  obtain ⟨r1, r2⟩ := r
  obtain ⟨pp, hpp⟩ := ptr_form r2
  simp only [NS.nv, hpp] at cT
  have fin : ∀ w1 : World, Below _ (w.alloc (.cells #[.int .i64 n, .pointer (some ⟨g, 0, none⟩), .string k, .bool d] 147)) w1 → Blk (w1.alloc (.cells #[.int .i64 r1, .pointer pp] 141)) w.heap.size 147 [.int .i64 n, .pointer (some ⟨g, 0, none⟩), .string k, .bool d] ∧ (w1.alloc (.cells #[.int .i64 r1, .pointer pp] 141)).cell? ⟨kb, 0, none⟩ = some (.int .i64 kind) ∧ Below w.heap.size w (w1.alloc (.cells #[.int .i64 r1, .pointer pp] 141)) := fun w1 b1 => by
    have b2 : Below w.heap.size w w1 := b0.trans (b1.mono b0.size)
    refine ⟨(hp.keep b1).alloc _, ?_, b2.alloc b2.size _⟩
    rw [(b2.alloc b2.size _).cell (World.block_lt_of_cell? _ _ hkb)]
    exact hkb
  replace fin := W_hid fin
  clear h hr hbb hpp hp b0 hkb hy hv
  go_enter Tryz.func153, Tryz.ntmps153
  go_wp2_with fail
  refine cT.out.mono ?_
  rintro e w1 ⟨rfl, b1⟩
  obtain ⟨p1, k1, B1⟩ := fin.out w1 b1
  have c1 := p1.cell (j := 1) rfl
  have c2 := p1.cell (j := 2) rfl
  have c3 := p1.cell (j := 3) rfl
  have B1 := W_hid B1
  clear p1 b1 cT fin
  cases b with
  | true =>
    go_wp2_with fail
    go_ret
    exact ⟨by simp, B1.out⟩
  | false =>
    cases y with
    | false =>
      go_wp2_with fail
      refine (cN _).out.mono ?_
      rintro e w2 ⟨rfl, rfl⟩
      go_wp2_with fail
      go_ret
      exact ⟨by simp, B1.out⟩
    | true =>
      go_wp2_with fail
      refine (cN _).out.mono ?_
      rintro e w2 ⟨rfl, rfl⟩
      by_cases hk1 : kind = 1
      · subst hk1
        cases d with
        | true =>
          go_wp2_with fail
          go_ret
          exact ⟨by simp, B1.out⟩
        | false =>
          go_wp2_with fail
          go_ret
          exact ⟨by simp, B1.out⟩
      · have hne : (kind == 1) = false := by simpa using hk1
        go_wp2_with fail
        go_ret
        exact ⟨by simp [hk1], B1.out⟩
section
variable {base : Nat} {w w' : World} {tg sg mb : Nat} {A : Int → Option (Nat × Nat)} {D : Ds}
theorem place_dir {D : Ds} {l : List ByteArray} {r m : Int} (h : place D l r = .ok m) : D m ≠ none := by
  unfold place at h
  split at h
  · cases h
  · split at h
    · cases h
    · split at h
      · cases h
      · rename_i e
        cases h
        exact e
theorem last_mem {l : List ByteArray} (h : l ≠ []) : last l ∈ l := by
  unfold last
  have : l.length - 1 < l.length := by have := List.length_pos_iff.2 h; omega
  rw [List.getD_eq_getElem?_getD, List.getElem?_eq_getElem this]
  exact List.getElem_mem _
theorem last_sm {l : List ByteArray} (hs : ∀ k ∈ l, NS.Sm k) : NS.Sm (last l) := by
  by_cases h : l = []
  · subst h; show ByteArray.size _ ≤ maxLen; decide
  · exact hs _ (last_mem h)
def vac (D : Ds) (kind : Int) (k : ByteArray) (d : Bool) (m : Int) : Int := if at_ D m k ≠ none ∨ PM.name k = false then 12 else if kind = 1 ∧ d = true then 14 else 0
theorem at_nm (h : TM base w tg sg mb A D) {n : Int} {d : Dr} (hD : D n = some d) (k : ByteArray) : nm A d.l k = (at_ D n k).map fun j => (j, pa A j) := by
  unfold nm at_
  rw [hD]
theorem TM.db (h : TM base w tg sg mb A D) {n : Int} {d : Dr} (hD : D n = some d) : ∃ g m, A n = some (g, m) ∧ pa A n = some g ∧ DB w g d.up (pa A d.up) m (nm A d.l) := by
  obtain ⟨g, m, hA, h1, h2⟩ := h.has hD
  exact ⟨g, m, hA, by unfold pa; rw [hA]; rfl, h1, h2⟩
theorem enters_vac1 : ∀ args w, (callFunc 153 args).run Tryz.prog w = .ok (.enter 153 args) w :=
  fun args w => by kernel_rfl
set_option maxRecDepth 100000 in
set_option maxHeartbeats 4000000 in
theorem vacant_any (a d : Bool) (kind : Int) (l : List ByteArray) (ao : Option Addr) (n cap : Nat) (w : World) (h : TM base w tg sg mb A D) (hl : SS w ao n cap l) (hs : ∀ k ∈ l, NS.Sm k) :
    Calls Tryz.prog 85 #[.pointer (some ⟨tg, 0, none⟩), .agg #[.bool a, .slice ao n cap, .bool d], .int .i64 kind] w fun e' w' => e' = .returned (.tuple #[pv A l d (placeC D l 12 (vac D kind (last l) d)), .int .i64 (er (placeC D l 12 (vac D kind (last l) d)))]) ∧ Below w.heap.size w w' := by
  have b0 := new3 w (.cells #[.bool a, .slice ao n cap, .bool d] 136) (.cells #[.int .i64 kind] 3) (.cells #[.int .i64 0, .pointer none, .string ⟨#[]⟩, .bool false] 147)
  have hK : (((w.alloc (.cells #[.bool a, .slice ao n cap, .bool d] 136)).alloc (.cells #[.int .i64 kind] 3)).alloc (.cells #[.int .i64 0, .pointer none, .string ⟨#[]⟩, .bool false] 147)).cell? ⟨w.heap.size + 1, 0, none⟩ = some (.int .i64 kind) := Blk.cell (j := 0) (l := [.int .i64 kind]) ((Blk.new _ _ _ (by simp)).alloc _) rfl
  have cP := W_hid (place_all a d 12 l ao n cap 153 #[.pointer (some ⟨w.heap.size + 1, 0, none⟩)] _ (h.keep b0) (hl.below b0 (Nat.le_refl _)) hs enters_vac1 (vac D kind (last l) d) (fun m hp W hW => by
    have hD := place_dir hp
    cases hd : D m with
    | none => exact absurd hd hD
    | some dr =>
      obtain ⟨g, mm, hA, hpa, hdb⟩ := ((h.keep b0).keep hW).db hd
      unfold plv
      rw [hpa]
      have c := vac1_any m g mm (w.heap.size + 1) dr.up (pa A dr.up) (nm A dr.l) (last l) d kind (last_sm hs) W hdb (by rw [hW.cell (World.block_lt_of_cell? _ _ hK)]; exact hK)
      have e1 : vacR (nm A dr.l) (last l) kind d = vac D kind (last l) d m := by
        unfold vacR vac
        rw [at_nm h hd]
        cases at_ D m (last l) <;> simp
      rw [e1] at c
      exact c))
  obtain ⟨R, hR⟩ : ∃ R, placeC D l 12 (vac D kind (last l) d) = R := ⟨_, rfl⟩
  rw [hR] at cP ⊢
  have hv : ∃ v1 v2 v3 v4, pv A l d R = .agg #[.int .i64 v1, .pointer v2, .string v3, .bool v4] := by
    cases R with
    | error e => exact ⟨_, _, _, _, rfl⟩
    | ok m =>
      obtain ⟨pp, hpp⟩ := ptr_form (pa A m)
      exact ⟨m, pp, last l, d, by show plv m (pa A m) (last l) d = _; unfold plv; rw [hpp]⟩
  obtain ⟨v1, v2, v3, v4, hv⟩ := hv
  rw [hv] at cP ⊢
  obtain ⟨z, hz⟩ : ∃ z, er R = z := ⟨_, rfl⟩
  rw [hz] at cP ⊢
  clear h hl hR hv hz hK
  go_enter Tryz.func85, Tryz.ntmps85
  go_wp2_with fail
  refine cP.out.mono ?_
  rintro e w1 ⟨rfl, b1⟩
  have n1 : Blk w1 (w.heap.size + 2) 147 [.int .i64 0, .pointer none, .string ⟨#[]⟩, .bool false] := (Blk.new _ _ _ (by simp)).keep b1
  have c0 := n1.cell (j := 0) rfl
  have c1 := n1.cell (j := 1) rfl
  have c2 := n1.cell (j := 2) rfl
  have c3 := n1.cell (j := 3) rfl
  have f1 := n1.fz
  have N1 := W_hid (blk_set4 n1 (a' := .int .i64 v1) (b' := .pointer v2) (c' := .string v3) (d' := .bool v4))
  have B5 := W_hid (below4 (b0.trans (b1.mono b0.size)) (g := w.heap.size + 2) (by simp) (.int .i64 v1) (.pointer v2) (.string v3) (.bool v4))
  clear b1 n1 cP b0
  go_wp2_with fail
  exact bodyPost_ret (res_place Tryz.results85 _ _ rfl N1.out) rfl ⟨rfl, B5.out⟩
end
end NT
namespace NT
open IN (Keeps)
def nu : Except Int Int → Int
  | .ok n => n
  | .error _ => 0
theorem parsed {s : ByteArray} {w : World} (hs : s.size ≤ maxLen) : Calls Tryz.prog 75 #[.string s] w fun e w' => ∃ ao n cap, e = .returned (.tuple #[.agg #[.bool (PM.pA s), .slice ao n cap, .bool (PM.pD s)], .int .i64 (PM.perr s)]) ∧ SS w' ao n cap (PM.pN s) ∧ Below w.heap.size w w' :=
  (Parse_all s w hs).mono fun e w' h => by
    obtain ⟨v, rfl, hown, hb⟩ := h
    obtain ⟨ao, cap, rfl⟩ := own_form hown
    exact ⟨ao, _, cap, rfl, SS_own hown, hb⟩
theorem pN_sm (s : ByteArray) : ∀ k ∈ PM.pN s, NS.Sm k := fun k hk => by
  by_cases h : PM.perr s = 0
  · have h1 := PM.valid_comp (PM.parse_valid h).1 k hk
    have h2 := ((PM.comp_iff k).1 h1).1.2
    unfold NS.Sm maxLen
    omega
  · have : PM.pN s = [] := by unfold PM.pN; rw [if_neg h]
    rw [this] at hk
    cases hk
def findR (D : Ds) (s : ByteArray) : Except Int Int := if PM.perr s = 0 then find D (PM.pN s) (PM.pD s) else .error (PM.perr s)
section
variable {base : Nat} {w w' : World} {tg sg mb : Nat} {A : Int → Option (Nat × Nat)} {D : Ds}
set_option maxRecDepth 100000 in
set_option maxHeartbeats 2000000 in
theorem Find_nil (s : ByteArray) (w : World) : Calls Tryz.prog 26 #[.pointer none, .string s] w fun e w' => e = .returned (.tuple #[.int .i64 0, .int .i64 1]) ∧ w' = w := by
  have cN := fun w => W_hid (none_nil w)
  go_enter Tryz.func26, Tryz.ntmps26
  go_wp2_with fail
  refine (cN _).out.mono ?_
  rintro e w1 ⟨rfl, rfl⟩
  go_wp2_with fail
  go_ret2
  exact ⟨rfl, rfl⟩
set_option maxRecDepth 100000 in
set_option maxHeartbeats 4000000 in
theorem Find_any (s : ByteArray) (hs : s.size ≤ maxLen) (w : World) (h : TM base w tg sg mb A D) :
    Calls Tryz.prog 26 #[.pointer (some ⟨tg, 0, none⟩), .string s] w fun e w' => e = .returned (.tuple #[.int .i64 (nu (findR D s)), .int .i64 (er (findR D s))]) ∧ Below w.heap.size w w' := by
  have cN := W_hid (none_some w h)
  have cP := fun w => W_hid (parsed (w := w) hs)
  have cF := fun (ao : Option Addr) (n cap : Nat) (w' : World) (hb : Below w.heap.size w w') (hl : SS w' ao n cap (PM.pN s)) => find_any (PM.pA s) (PM.pD s) (PM.pN s) ao n cap w' (h.keep hb) hl (pN_sm s)
  obtain ⟨pe, hpe⟩ : ∃ pe, PM.perr s = pe := ⟨_, rfl⟩
  have hf : findR D s = if pe = 0 then find D (PM.pN s) (PM.pD s) else .error pe := by unfold findR; rw [hpe]
  rw [hpe] at cP
  generalize PM.pN s = l at cP hf cF
  generalize PM.pD s = d at cP hf cF
  generalize PM.pA s = a at cP cF
  clear h hpe
  by_cases h0 : pe = 0
  · subst h0
    rw [if_pos rfl] at hf
    rw [hf]
    generalize find D l d = R at cF
    have hv : ∃ v2, rv A R = .agg #[.int .i64 (nu R), .pointer v2] := by
      cases R with
      | error e => exact ⟨_, rfl⟩
      | ok m =>
        obtain ⟨pp, hpp⟩ := ptr_form (pa A m)
        exact ⟨pp, by show NS.nv (m, pa A m) = _; unfold NS.nv; rw [hpp]; rfl⟩
    obtain ⟨v2, hv⟩ := hv
    rw [hv] at cF
    generalize nu R = v1 at cF
    generalize er R = v3 at cF
    replace cF := W_hid cF
    clear hv hf
    go_enter Tryz.func26, Tryz.ntmps26
    go_wp2_with fail
    refine cN.out.mono ?_
    rintro e w1 ⟨rfl, b1⟩
    have B1 := W_hid b1
    clear b1 cN
    go_wp2_with fail
    refine (cP _).out.mono ?_
    rintro e w2 ⟨ao, n, cap, rfl, hS, b2⟩
    have p2 : Blk (w2.alloc (.cells #[.bool a, .slice ao n cap, .bool d] 136)) w2.heap.size 136 [.bool a, .slice ao n cap, .bool d] := Blk.new _ _ _ rfl
    have b2' : Below w.heap.size w w2 := B1.out.trans (b2.mono B1.out.size)
    have b3 := b2'.alloc b2'.size (.cells #[.bool a, .slice ao n cap, .bool d] 136)
    have cF1 := W_hid (cF.out ao n cap _ b3 (hS.alloc _))
    have c0 := p2.cell (j := 0) rfl
    have c1 := p2.cell (j := 1) rfl
    have c2 := p2.cell (j := 2) rfl
    have B3 := W_hid b3
    clear b2 b3 b2' p2 hS cF
    go_wp2_with fail
    refine cF1.out.mono ?_
    rintro e w3 ⟨rfl, b4⟩
    go_wp2_with fail
    go_ret2
    exact ⟨rfl, (B3.out.trans (b4.mono B3.out.size)).alloc (by have := B3.out.size; have := b4.size; omega) _⟩
  · rw [if_neg h0] at hf
    rw [hf]
    have hne : (pe == 0) = false := by simpa using h0
    clear hf
    go_enter Tryz.func26, Tryz.ntmps26
    go_wp2_with fail
    refine cN.out.mono ?_
    rintro e w1 ⟨rfl, b1⟩
    have B1 := W_hid b1
    clear b1 cN
    go_wp2_with fail
    refine (cP _).out.mono ?_
    rintro e w2 ⟨ao, n, cap, rfl, hS, b2⟩
    have b2' : Below w.heap.size w w2 := B1.out.trans (b2.mono B1.out.size)
    have B3 := W_hid (b2'.alloc b2'.size (.cells #[.bool a, .slice ao n cap, .bool d] 136))
    clear b2 b2' hS
    go_wp2_with fail
    go_ret2
    exact ⟨rfl, B3.out⟩
end
end NT
end Go.Proofs.YtmnmheocmcmpmaaGreat

namespace Go.Proofs.YtmnmheocmcmpmaaGreat
open Go.ChangeShapes Go.WideShapes Go.ChangeAt Go.RowKit
set_option linter.unusedVariables false
set_option linter.unusedSimpArgs false
namespace RN
open IN (Keeps)
open NT (Dr Ds er nu)
def two (l : List (ByteArray × Int × Int)) : List (ByteArray × Int) := l.map fun x => (x.1, x.2.1)
def toD (l : List DD) : Ds := fun n => (l.find? fun x => decide (x.ino = n)).map fun x => ⟨x.up, two x.l⟩
theorem toD_ix : ∀ (l : List DD) (n : Int), toD l n = if h : ix l n < l.length then some ⟨l[ix l n].up, two l[ix l n].l⟩ else none
  | [], n => by simp [toD]
  | x :: l, n => by
    by_cases e : x.ino = n
    · have h1 : ix (x :: l) n = 0 := by simp [ix, e]
      have h2 : toD (x :: l) n = some ⟨x.up, two x.l⟩ := by simp [toD, e]
      rw [h2]
      simp only [h1, List.length_cons, Nat.zero_lt_succ, dite_true, List.getElem_cons_zero]
    · have h1 : ix (x :: l) n = ix l n + 1 := by simp [ix, e]
      have h2 : toD (x :: l) n = toD l n := by simp [toD, e]
      rw [h2, toD_ix l n]
      simp only [h1, List.length_cons, Nat.add_lt_add_iff_right, List.getElem_cons_succ]
theorem has_look : ∀ (l : List (ByteArray × Int × Int)) (k : ByteArray), hasA l k = (NT.look k (two l)).getD 0
  | [], k => rfl
  | x :: l, k => by
    have ih := has_look l k
    by_cases e : x.1 = k
    · simp [hasA, two, NT.look, e]
    · have h2 : hasA (x :: l) k = hasA l k := by simp [hasA, e]
      rw [h2, ih]
      simp [two, NT.look, e]
theorem dir_none {l : List DD} {n : Int} (h : toD l n = none) : dirA l n = -1 := by
  rw [toD_ix] at h
  unfold dirA
  split at h
  · cases h
  · rename_i h2
    rw [if_neg h2]
theorem dir_some {l : List DD} {n : Int} {d : Dr} (h : toD l n = some d) : ∃ h : ix l n < l.length, dirA l n = (ix l n : Int) ∧ d.up = l[ix l n].up ∧ d.l = two l[ix l n].l := by
  rw [toD_ix] at h
  split at h
  · rename_i h2
    cases h
    exact ⟨h2, by unfold dirA; rw [if_pos h2], rfl, rfl⟩
  · cases h
structure Few (l : List DD) : Prop where
  len : l.length ≤ 100000
  names : ∀ x ∈ l, x.l.length ≤ 100000
  nos : ∀ x ∈ l, ∀ y ∈ x.l, y.2.1 ≠ 0
theorem Few.look {l : List DD} (h : Few l) {n : Int} {d : Dr} (hd : toD l n = some d) {k : ByteArray} {j : Int} (hj : NT.look k d.l = some j) : j ≠ 0 := by
  obtain ⟨h1, -, -, h2⟩ := dir_some hd
  rw [h2] at hj
  obtain ⟨y, hy, e⟩ := List.mem_map.1 (NT.look_mem hj)
  simp only [Prod.mk.injEq] at e
  rw [← e.2]
  exact h.nos _ (List.getElem_mem h1) y hy
section
variable {base : Nat} {w w' : World} {rt rg : Nat} {v : Value} {q : List QE}
structure DT (base : Nat) (w : World) (rt rg : Nat) (l : List DD) : Prop where
  ex : ∃ v q, DM base w rt rg v q ∧ Fit w q l
  few : Few l
theorem DT.keep {l : List DD} (h : DT base w rt rg l) (hb : Below w.heap.size w w') : DT base w' rt rg l := by
  obtain ⟨v, q, h1, h2⟩ := h.ex
  exact ⟨⟨v, q, h1.keep hb, h2.keep hb⟩, h.few⟩
theorem dir_t (n : Int) {l : List DD} (h : DT base w rt rg l) :
    Calls Tryz.prog 128 #[.pointer (some ⟨rt, 0, none⟩), .int .i64 n] w fun e w' => e = .returned (.int .i64 (dirA l n)) ∧ w = w' := by
  obtain ⟨v, q, h1, h2⟩ := h.ex
  exact rdir_any n h1 h2 h.few.len
theorem has_t (n : Int) (k : ByteArray) {l : List DD} (h : DT base w rt rg l) {d : Dr} (hd : toD l n = some d) :
    Calls Tryz.prog 132 #[.pointer (some ⟨rt, 0, none⟩), .int .i64 n, .string k] w fun e w' => e = .returned (.int .i64 ((NT.look k d.l).getD 0)) ∧ Below w.heap.size w w' := by
  obtain ⟨v, q, h1, h2⟩ := h.ex
  obtain ⟨h3, -, -, h4⟩ := dir_some hd
  have := rhas_any n k h1 h2 h.few.len h3 (h.few.names _ (List.getElem_mem h3))
  rw [has_look, ← h4] at this
  exact this
theorem DT.el {l : List DD} (h : DT base w rt rg l) {n : Int} {d : Dr} (hd : toD l n = some d) : ∃ g cap, w.cell? ⟨rt, 1, none⟩ = some (.slice (some ⟨g, 0, none⟩) l.length cap) ∧ ix l n < l.length ∧ l.length ≤ cap ∧ w.cell? ⟨g, ix l n * 3 + 1, none⟩ = some (.int .i64 d.up) := by
  obtain ⟨v, q, h1, h2⟩ := h.ex
  obtain ⟨h3, -, h4, -⟩ := dir_some hd
  have hl := h2.len
  obtain ⟨g, cap, rfl, -, -, -, h5, -, -, -, h6, -⟩ := h1.el (i := ix l n) (by omega)
  have h7 := h1.box.cell (j := 1) rfl
  rw [hl] at h7 h5
  refine ⟨g, cap, h7, h3, h5, ?_⟩
  rw [h6, (h2.at_ (ix l n) (by omega) h3).up, h4]
theorem goes_drop (D : Ds) (l : List ByteArray) (j : Nat) (hj : j < l.length) (a : Int) : NT.goes D a (l.drop j) = (match NT.step D a l[j] with | .error e => .error e | .ok m => NT.goes D m (l.drop (j + 1))) := by
  rw [List.drop_eq_getElem_cons hj]
  rfl
set_option maxRecDepth 100000 in
set_option maxHeartbeats 8000000 in
theorem rgoes_any (ns : List ByteArray) (ao : Option Addr) (nn cap : Nat) {l : List DD} (w : World) (h : DT base w rt rg l) (hl : SS w ao nn cap ns) (hnn : nn ≤ 100000) :
    Calls Tryz.prog 137 #[.pointer (some ⟨rt, 0, none⟩), .slice ao nn cap] w fun e w' => e = .returned (.tuple #[.int .i64 (nu (NT.goes (toD l) 1 ns)), .int .i64 (er (NT.goes (toD l) 1 ns))]) ∧ Below w.heap.size w w' := by
  have H := W_hid (And.intro h hl)
  have hlen := hl.1
  obtain ⟨R, hR⟩ : ∃ R, NT.goes (toD l) 1 ns = R := ⟨_, rfl⟩
  rw [hR]
  have hR0 : NT.goes (toD l) 1 (ns.drop 0) = R := hR
  have hnl := W_hid hlen
  clear h hl hR hlen
  go_enter Tryz.func137, Tryz.ntmps137
  go_wp2_with fail
  go_loopw [6, 7] (fun a i wr => ∃ (j : Nat) (at_ : Int), j ≤ nn ∧ i = .int .i64 (j : Int) ∧ a = .int .i64 at_ ∧ Hid (NT.goes (toD l) at_ (ns.drop j) = R) ∧ Hid (Below w.heap.size w wr)) (fun _ i _ => nn - (intOf i).toNat)
  case atStart => exact ⟨0, 1, Nat.zero_le _, rfl, rfl, W_hid hR0, W_hid (Below.refl _ _)⟩
  case round =>
    obtain ⟨j, a, hj, rfl, rfl, hg, hb⟩ := hrel
    have hT := H.out.1.keep hb.out
    by_cases hlt : j < nn
    · obtain ⟨blk, off, rfl, hcc⟩ := (H.out.2.below hb.out (Nat.le_refl _)).at_ (by omega)
      have hc := hcc j hlt
      clear hcc
      have hjn : j < ns.length := by rw [hnl.out]; exact hlt
      have hd := goes_drop (toD l) ns j hjn a
      rw [hg.out] at hd
      obtain ⟨x, hx⟩ : ∃ x, ns[j]'hjn = x := ⟨_, rfl⟩
      simp only [hx] at hc hd
      have cD := dir_t a hT
      cases hD : toD l a with
      | none =>
        rw [dir_none hD] at cD
        have hst : NT.step (toD l) a x = .error 13 := by unfold NT.step; rw [hD]
        rw [hst] at hd
        simp only at hd
        subst hd
        clear hT hD hst hx hjn hg
        replace cD := W_hid cD
        go_wp2_with fail
        refine cD.out.mono ?_
        rintro e w1 ⟨rfl, rfl⟩
        go_wp2_with fail
        go_ret2
        exact ⟨rfl, hb.out⟩
      | some d =>
        obtain ⟨h3, h4, -, -⟩ := dir_some hD
        rw [h4] at cD
        have cH := W_hid (fun W (hbb : Below w.heap.size w W) => has_t a x (H.out.1.keep hbb) hD)
        obtain ⟨g, cp, e1, -, hcp, e2⟩ := hT.el hD
        have hno := fun j2 (h2 : NT.look x d.l = some j2) => hT.few.look hD h2
        generalize ix l a = p at *
        have hp : (p : Int) < (l.length : Int) := by omega
        obtain ⟨NL, hNL⟩ : ∃ NL, l.length = NL := ⟨_, rfl⟩
        rw [hNL] at hp e1 hcp h3
        replace cD := W_hid cD
        by_cases k1 : x = PM.dot
        · have f1 := dot_yes k1
          have hst : NT.step (toD l) a x = .ok a := by unfold NT.step; rw [hD]; simp [k1]
          rw [hst] at hd
          have hd := W_hid (show NT.goes (toD l) a (ns.drop (j + 1)) = R from hd.symm)
          clear hT hD hst hx hjn hg hno k1 h4 hNL e1 e2 hp cH
          go_wp2_with fail
          refine cD.out.mono ?_
          rintro e w1 ⟨rfl, rfl⟩
          go_wp2_with fail
          go_roundw
          case rel => exact ⟨j + 1, a, by omega, by go_num, rfl, hd, hb⟩
          case measure => simp [intOf]; omega
        · obtain ⟨f1, f2⟩ := dot_no k1
          by_cases k2 : x = PM.dots
          · have f3 := dots_yes k2
            have hst : NT.step (toD l) a x = .ok d.up := by unfold NT.step; rw [hD]; simp [k1, k2, PM.dot_ne.symm]
            rw [hst] at hd
            have hd := W_hid (show NT.goes (toD l) d.up (ns.drop (j + 1)) = R from hd.symm)
            clear hT hD hst hx hjn hg hno k1 k2 h4 hNL cH
            go_wp2_with fail
            refine cD.out.mono ?_
            rintro e w1 ⟨rfl, rfl⟩
            go_wp2_with fail
            go_roundw
            case rel => exact ⟨j + 1, d.up, by omega, by go_num, rfl, hd, hb⟩
            case measure => simp [intOf]; omega
          · obtain ⟨f3, f4⟩ := dots_no k2
            cases hlk : NT.look x d.l with
            | none =>
              have hst : NT.step (toD l) a x = .error 11 := by unfold NT.step; rw [hD]; simp [k1, k2, hlk]
              rw [hst] at hd
              simp only at hd
              subst hd
              rw [hlk] at cH
              simp only [Option.getD_none] at cH
              have cH1 := W_hid (cH.out _ hb.out)
              clear hT hD hst hx hjn hg hno k1 k2 h4 hNL hlk cH e1 e2 hp
              go_wp2_with fail
              refine cD.out.mono ?_
              rintro e w1 ⟨rfl, rfl⟩
              go_wp2_with fail
              refine cH1.out.mono ?_
              rintro e w1 ⟨rfl, b1⟩
              go_wp2_with fail
              go_ret2
              exact ⟨rfl, hb.out.trans (b1.mono hb.out.size)⟩
            | some j2 =>
              have hst : NT.step (toD l) a x = .ok j2 := by unfold NT.step; rw [hD]; simp [k1, k2, hlk]
              rw [hst] at hd
              have hd := W_hid (show NT.goes (toD l) j2 (ns.drop (j + 1)) = R from hd.symm)
              have hj2 := hno j2 hlk
              rw [hlk] at cH
              simp only [Option.getD_some] at cH
              have cH1 := W_hid (cH.out _ hb.out)
              clear hT hD hst hx hjn hg hno k1 k2 h4 hNL hlk cH e1 e2 hp
              go_wp2_with fail
              refine cD.out.mono ?_
              rintro e w1 ⟨rfl, rfl⟩
              go_wp2_with fail
              refine cH1.out.mono ?_
              rintro e w1 ⟨rfl, b1⟩
              have hb2 := W_hid (hb.out.trans (b1.mono hb.out.size))
              clear b1
              go_wp2_with fail
              go_roundw
              case rel => exact ⟨j + 1, j2, by omega, by go_num, rfl, hd, hb2⟩
              case measure => simp [intOf]; omega
    · obtain rfl : j = nn := by omega
      have hd := hg.out
      rw [List.drop_eq_nil_of_le (by rw [hnl.out]; exact Nat.le_refl _)] at hd
      have hd : R = .ok a := hd.symm
      subst hd
      clear hg hT
      go_wp2_with fail
      go_ret2
      exact ⟨rfl, hb.out⟩
end
end RN
namespace RN
open IN (Keeps)
open NT (Dr Ds er nu findR)
theorem rparsed {s : ByteArray} {w : World} (hs : s.size ≤ maxLen) : Calls Tryz.prog 73 #[.string s] w fun e w' => ∃ ao n cap, e = .returned (.tuple #[.agg #[.bool (PM.pA s), .slice ao n cap, .bool (PM.pD s)], .int .i64 (PM.perr s)]) ∧ SS w' ao n cap (PM.pN s) ∧ Below w.heap.size w w' :=
  (rParse_all s w hs).mono fun e w' h => by
    obtain ⟨v, rfl, hown, hb⟩ := h
    obtain ⟨ao, cap, rfl⟩ := own_form hown
    exact ⟨ao, _, cap, rfl, SS_own hown, hb⟩
theorem pN_len (s : ByteArray) : (PM.pN s).length ≤ 100000 := by
  by_cases h : PM.perr s = 0
  · have := PM.valid_count (PM.parse_valid h).1
    omega
  · have : PM.pN s = [] := by unfold PM.pN; rw [if_neg h]
    rw [this]; exact Nat.zero_le _
section
variable {base : Nat} {w w' : World} {rt rg : Nat}
set_option maxRecDepth 100000 in
set_option maxHeartbeats 8000000 in
theorem rFind_any (s : ByteArray) (hs : s.size ≤ maxLen) {l : List DD} (w : World) (h : DT base w rt rg l) :
    Calls Tryz.prog 66 #[.pointer (some ⟨rt, 0, none⟩), .string s] w fun e w' => e = .returned (.tuple #[.int .i64 (nu (findR (toD l) s)), .int .i64 (er (findR (toD l) s))]) ∧ Below w.heap.size w w' := by
  have cP := fun w => W_hid (rparsed (w := w) hs)
  have cG := W_hid (fun (ao : Option Addr) (n cap : Nat) (W : World) (hb : Below w.heap.size w W) (hl : SS W ao n cap (PM.pN s)) => rgoes_any (PM.pN s) ao n cap W (h.keep hb) hl (by have := hl.1; have := pN_len s; omega))
  have cD := W_hid (fun (n : Int) (W : World) (hb : Below w.heap.size w W) => dir_t n (h.keep hb))
  unfold findR
  generalize PM.perr s = pe at cP ⊢
  by_cases h0 : pe = 0
  · subst h0
    rw [if_pos rfl]
    generalize PM.pN s = ns at cP cG ⊢
    generalize PM.pD s = d at cP ⊢
    generalize PM.pA s = a at cP
    cases hg : NT.goes (toD l) 1 ns with
    | error e0 =>
      have hf : NT.find (toD l) ns d = .error e0 := by unfold NT.find; rw [hg]
      have hne : (e0 == 0) = false := by simpa using NT.goes_er hg
      rw [hf]
      rw [hg] at cG
      simp only [nu, er] at cG ⊢
      clear h hf hg
      go_enter Tryz.func66, Tryz.ntmps66
      go_wp2_with fail
      refine (cP _).out.mono ?_
      rintro e w2 ⟨ao, n, cap, rfl, hS, b2⟩
      have p2 : Blk (w2.alloc (.cells #[.bool a, .slice ao n cap, .bool d] 136)) w2.heap.size 136 [.bool a, .slice ao n cap, .bool d] := Blk.new _ _ _ rfl
      have b3 := b2.alloc b2.size (.cells #[.bool a, .slice ao n cap, .bool d] 136)
      have cG1 := W_hid (cG.out ao n cap _ b3 (hS.alloc _))
      have c1 := p2.cell (j := 1) rfl
      have B3 := W_hid b3
      clear b2 b3 p2 hS cG
      go_wp2_with fail
      refine cG1.out.mono ?_
      rintro e w3 ⟨rfl, b4⟩
      go_wp2_with fail
      go_ret2
      exact ⟨rfl, B3.out.trans (b4.mono B3.out.size)⟩
    | ok m =>
      have hf : NT.find (toD l) ns d = if d = true ∧ toD l m = none then .error 13 else .ok m := by unfold NT.find; rw [hg]
      rw [hf]
      rw [hg] at cG
      simp only [nu, er] at cG
      cases d with
      | false =>
        rw [if_neg (by simp)]
        simp only [nu, er]
        clear h hf hg
        go_enter Tryz.func66, Tryz.ntmps66
        go_wp2_with fail
        refine (cP _).out.mono ?_
        rintro e w2 ⟨ao, n, cap, rfl, hS, b2⟩
        have p2 : Blk (w2.alloc (.cells #[.bool a, .slice ao n cap, .bool false] 136)) w2.heap.size 136 [.bool a, .slice ao n cap, .bool false] := Blk.new _ _ _ rfl
        have b3 := b2.alloc b2.size (.cells #[.bool a, .slice ao n cap, .bool false] 136)
        have cG1 := W_hid (cG.out ao n cap _ b3 (hS.alloc _))
        have c1 := p2.cell (j := 1) rfl
        have B3 := W_hid b3
        replace p2 := W_hid p2
        clear b2 b3 hS cG
        go_wp2_with fail
        refine cG1.out.mono ?_
        rintro e w3 ⟨rfl, b4⟩
        have c2 := (p2.out.keep b4).cell (j := 2) rfl
        have B4 := W_hid (B3.out.trans (b4.mono B3.out.size))
        clear b4 c1
        go_wp2_with fail
        go_ret2
        exact ⟨rfl, B4.out⟩
      | true =>
        have cDm := W_hid (fun (W : World) (hb : Below w.heap.size w W) => cD.out m W hb)
        cases hD : toD l m with
        | none =>
          rw [if_pos ⟨rfl, rfl⟩]
          simp only [dir_none hD] at cDm
          simp only [nu, er]
          clear h hf hg hD cD
          go_enter Tryz.func66, Tryz.ntmps66
          go_wp2_with fail
          refine (cP _).out.mono ?_
          rintro e w2 ⟨ao, n, cap, rfl, hS, b2⟩
          have p2 : Blk (w2.alloc (.cells #[.bool a, .slice ao n cap, .bool true] 136)) w2.heap.size 136 [.bool a, .slice ao n cap, .bool true] := Blk.new _ _ _ rfl
          have b3 := b2.alloc b2.size (.cells #[.bool a, .slice ao n cap, .bool true] 136)
          have cG1 := W_hid (cG.out ao n cap _ b3 (hS.alloc _))
          have c1 := p2.cell (j := 1) rfl
          have B3 := W_hid b3
          replace p2 := W_hid p2
          clear b2 b3 hS cG
          go_wp2_with fail
          refine cG1.out.mono ?_
          rintro e w3 ⟨rfl, b4⟩
          have c2 := (p2.out.keep b4).cell (j := 2) rfl
          have B4 := W_hid (B3.out.trans (b4.mono B3.out.size))
          have cD1 := W_hid (cDm.out _ B4.out)
          clear b4 c1
          go_wp2_with (go_at_call 128; refine cD1.out.mono ?_; rintro e w4 ⟨rfl, rfl⟩)
          go_ret2
          exact ⟨rfl, B4.out⟩
        | some dd =>
          obtain ⟨-, h4, -, -⟩ := dir_some hD
          rw [if_neg (by simp)]
          simp only [h4] at cDm
          simp only [nu, er]
          generalize ix l m = K at cDm
          clear h hf hg hD cD h4
          go_enter Tryz.func66, Tryz.ntmps66
          go_wp2_with fail
          refine (cP _).out.mono ?_
          rintro e w2 ⟨ao, n, cap, rfl, hS, b2⟩
          have p2 : Blk (w2.alloc (.cells #[.bool a, .slice ao n cap, .bool true] 136)) w2.heap.size 136 [.bool a, .slice ao n cap, .bool true] := Blk.new _ _ _ rfl
          have b3 := b2.alloc b2.size (.cells #[.bool a, .slice ao n cap, .bool true] 136)
          have cG1 := W_hid (cG.out ao n cap _ b3 (hS.alloc _))
          have c1 := p2.cell (j := 1) rfl
          have B3 := W_hid b3
          replace p2 := W_hid p2
          clear b2 b3 hS cG
          go_wp2_with fail
          refine cG1.out.mono ?_
          rintro e w3 ⟨rfl, b4⟩
          have c2 := (p2.out.keep b4).cell (j := 2) rfl
          have B4 := W_hid (B3.out.trans (b4.mono B3.out.size))
          have cD1 := W_hid (cDm.out _ B4.out)
          clear b4 c1
          go_wp2_with (go_at_call 128; refine cD1.out.mono ?_; rintro e w4 ⟨rfl, rfl⟩)
          go_ret2
          exact ⟨rfl, B4.out⟩
  · rw [if_neg h0]
    have hne : (pe == 0) = false := by simpa using h0
    simp only [nu, er]
    clear h h0 cG cD
    generalize PM.pN s = ns at cP
    generalize PM.pD s = d at cP
    generalize PM.pA s = a at cP
    go_enter Tryz.func66, Tryz.ntmps66
    go_wp2_with fail
    refine (cP _).out.mono ?_
    rintro e w2 ⟨ao, n, cap, rfl, hS, b2⟩
    have B3 := W_hid (b2.alloc b2.size (.cells #[.bool a, .slice ao n cap, .bool d] 136))
    clear b2 hS
    go_wp2_with fail
    go_ret2
    exact ⟨rfl, B3.out⟩
end
end RN
namespace RN
open IN (Keeps)
open NT (Dr Ds er nu findR)
section
variable {base : Nat} {w w' : World} {rt rg : Nat}
def lstA (l : List DD) (s : ByteArray) : Except Int (List (ByteArray × Int × Int)) := match findR (toD l) s with
  | .error e => .error e
  | .ok n => if h : ix l n < l.length then .ok l[ix l n].l else .error 13
def lsv : Except Int (List (ByteArray × Int × Int)) → List (ByteArray × Int × Int)
  | .ok l => l
  | .error _ => []
theorem findR_er {D : Ds} {s : ByteArray} {e : Int} (h : findR D s = .error e) : e ≠ 0 := by
  unfold findR at h
  split at h
  · exact NT.find_er h
  · rename_i h2
    cases h
    exact h2
theorem NE.nil (w : World) : NE w (.slice none 0 0) [] := ⟨0, World.ownsRow_nil _ _ _ _⟩
theorem DT.at_l {l : List DD} (h : DT base w rt rg l) {n : Int} (hn : ix l n < l.length) : ∃ g cap v, w.cell? ⟨rt, 1, none⟩ = some (.slice (some ⟨g, 0, none⟩) l.length cap) ∧ l.length ≤ cap ∧ w.cell? ⟨g, ix l n * 3 + 2, none⟩ = some v ∧ NE w v l[ix l n].l := by
  obtain ⟨v, q, h1, h2⟩ := h.ex
  have hl := h2.len
  obtain ⟨g, cap, rfl, -, -, -, h5, -, -, -, -, h6⟩ := h1.el (i := ix l n) (by omega)
  have h7 := h1.box.cell (j := 1) rfl
  rw [hl] at h7 h5
  exact ⟨g, cap, _, h7, h5, h6, (h2.at_ (ix l n) (by omega) hn).v⟩
set_option maxRecDepth 100000 in
set_option maxHeartbeats 8000000 in
theorem rList_any (s : ByteArray) (hs : s.size ≤ maxLen) {l : List DD} (w : World) (h : DT base w rt rg l) :
    Calls Tryz.prog 67 #[.pointer (some ⟨rt, 0, none⟩), .string s] w fun e w' => ∃ v, e = .returned (.tuple #[v, .int .i64 (er (lstA l s))]) ∧ NE w' v (lsv (lstA l s)) ∧ Below w.heap.size w w' := by
  have cF := rFind_any s hs w h
  unfold lstA
  have hfe : ∀ e, findR (toD l) s = .error e → e ≠ 0 := fun e he => findR_er he
  generalize findR (toD l) s = R at cF hfe ⊢
  have cD := W_hid (fun (n : Int) (W : World) (hb : Below w.heap.size w W) => dir_t n (h.keep hb))
  cases R with
  | error e0 =>
    have h0 := hfe e0 rfl
    · have hne : (e0 == 0) = false := by simpa using h0
      clear hfe
      simp only [nu, er] at cF ⊢
      replace cF := W_hid cF
      clear h cD
      go_enter Tryz.func67, Tryz.ntmps67
      go_wp2_with fail
      refine cF.out.mono ?_
      rintro e w1 ⟨rfl, b1⟩
      go_wp2_with fail
      go_ret2
      exact ⟨_, rfl, NE.nil _, b1⟩
  | ok n =>
    simp only [nu, er] at cF ⊢
    by_cases hn : ix l n < l.length
    · rw [dif_pos hn]
      simp only [er, lsv]
      have hda : dirA l n = (ix l n : Int) := by unfold dirA; rw [if_pos hn]
      have cDn := W_hid (fun (W : World) (hb : Below w.heap.size w W) => cD.out n W hb)
      simp only [hda] at cDn
      have hE := W_hid (fun (W : World) (hb : Below w.heap.size w W) => (h.keep hb).at_l hn)
      generalize l[ix l n].l = nl at hE ⊢
      generalize ix l n = K at *
      generalize l.length = N at *
      have hK : (K : Int) < (N : Int) := by omega
      replace cF := W_hid cF
      clear h cD hda
      go_enter Tryz.func67, Tryz.ntmps67
      go_wp2_with fail
      refine cF.out.mono ?_
      rintro e w1 ⟨rfl, b1⟩
      have cD1 := W_hid (cDn.out w1 b1)
      obtain ⟨g, cap, v, e1, hcap, e2, hNE⟩ := hE.out w1 b1
      have hNE := W_hid hNE
      have B1 := W_hid b1
      clear b1 cDn hE
      go_wp2_with fail
      refine cD1.out.mono ?_
      rintro e w2 ⟨rfl, rfl⟩
      go_wp2_with fail
      go_ret2
      exact ⟨_, rfl, hNE.out, B1.out⟩
    · rw [dif_neg hn]
      simp only [er, lsv]
      have hda : dirA l n = -1 := by unfold dirA; rw [if_neg hn]
      have cDn := W_hid (fun (W : World) (hb : Below w.heap.size w W) => cD.out n W hb)
      simp only [hda] at cDn
      replace cF := W_hid cF
      clear h cD hda
      go_enter Tryz.func67, Tryz.ntmps67
      go_wp2_with fail
      refine cF.out.mono ?_
      rintro e w1 ⟨rfl, b1⟩
      have cD1 := W_hid (cDn.out w1 b1)
      have B1 := W_hid b1
      clear b1 cDn
      go_wp2_with fail
      refine cD1.out.mono ?_
      rintro e w2 ⟨rfl, rfl⟩
      go_wp2_with fail
      go_ret2
      exact ⟨_, rfl, NE.nil _, B1.out⟩
theorem ss_cut {w : World} {ao : Option Addr} {n cap k : Nat} {l : List ByteArray} (h : SS w ao n cap l) (hk : k ≤ n) : SS w ao k cap (l.take k) := by
  obtain ⟨h1, h2, h3, h4, h5⟩ := h
  refine ⟨by rw [List.length_take]; omega, by omega, h3, h4, fun a ha j u hu => h5 a ha j u ?_⟩
  unfold scl at hu ⊢
  rw [List.map_take, List.getElem?_take] at hu
  split at hu
  · exact hu
  · cases hu
theorem last_at (ns : List ByteArray) (N : Nat) (h : ns.length = N) (hh : N - 1 < ns.length) : ns[N - 1] = NT.last ns := by
  subst h
  unfold NT.last
  rw [List.getD_eq_getElem?_getD, List.getElem?_eq_getElem hh]
  rfl
def plA (D : Ds) (ns : List ByteArray) : (Int × ByteArray) × Int := match NT.goes D 1 ns.dropLast with
  | .error e => ((0, ⟨#[]⟩), e)
  | .ok n => if D n = none then ((0, ⟨#[]⟩), 13) else ((n, NT.last ns), 0)
set_option maxRecDepth 100000 in
set_option maxHeartbeats 8000000 in
theorem rplace_any (a d : Bool) (ns : List ByteArray) (ao : Option Addr) (N cap : Nat) {l : List DD} (w : World) (h : DT base w rt rg l) (hl : SS w ao N cap ns) (h0 : 0 < N) (hN : N ≤ 100000) :
    Calls Tryz.prog 130 #[.pointer (some ⟨rt, 0, none⟩), .agg #[.bool a, .slice ao N cap, .bool d]] w fun e w' => e = .returned (.tuple #[.int .i64 (plA (toD l) ns).1.1, .string (plA (toD l) ns).1.2, .int .i64 (plA (toD l) ns).2]) ∧ Below w.heap.size w w' := by
  have b0 := (Below.refl w.heap.size w).alloc (Nat.le_refl _) (.cells #[.bool a, .slice ao N cap, .bool d] 136)
  have p0 : Blk (w.alloc (.cells #[.bool a, .slice ao N cap, .bool d] 136)) w.heap.size 136 [.bool a, .slice ao N cap, .bool d] := Blk.new _ _ _ rfl
  have hlen := hl.1
  have hl0 := hl.below b0 (Nat.le_refl _)
  obtain ⟨blk, off, rfl, hat⟩ := hl0.at_ h0
  have hat1 := hat (N - 1) (by omega)
  have hlast : ns[N - 1]'(by omega) = NT.last ns := last_at ns N hlen (by omega)
  rw [hlast] at hat1
  have HL := W_hid hl0
  have cG := W_hid (rgoes_any (ns.take (N - 1)) (some ⟨blk, off, none⟩) (N - 1) cap _ (h.keep b0) (ss_cut hl0 (by omega)) (by omega))
  have hdl : ns.dropLast = ns.take (N - 1) := by rw [List.dropLast_eq_take, hlen]
  unfold plA
  rw [hdl]
  have cD := W_hid (fun (n : Int) (W : World) (hb : Below w.heap.size w W) => dir_t n (h.keep hb))
  have hlim : N ≤ 9223372036854775807 := by omega
  have hn1 : (N : Int) - 1 = ((N - 1 : Nat) : Int) := by omega
  have hlt : ((N - 1 : Nat) : Int) < (N : Int) := by omega
  have c1 := p0.cell (j := 1) rfl
  have hge : ∀ e, NT.goes (toD l) 1 (ns.take (N - 1)) = .error e → e ≠ 0 := fun e he => NT.goes_er he
  have hcp := hl.2.1
  generalize NT.last ns = z at hat1 ⊢
  generalize NT.goes (toD l) 1 (ns.take (N - 1)) = R at cG hge ⊢
  have p0 := W_hid p0
  have b0 := W_hid b0
  have hat1 := W_hid hat1
  clear hat hl hl0 hdl hlast
  cases R with
  | error e0 =>
    have h0e := hge e0 rfl
    have hne : (e0 == 0) = false := by simpa using h0e
    simp only [nu, er] at cG ⊢
    clear h hge h0e cD
    go_enter Tryz.func130, Tryz.ntmps130
    go_wp2_with fail
    refine cG.out.mono ?_
    rintro e w1 ⟨rfl, b1⟩
    go_wp2_with fail
    go_ret3
    exact ⟨rfl, b0.out.trans (b1.mono b0.out.size)⟩
  | ok m =>
    simp only [nu, er] at cG ⊢
    have cDm := W_hid (fun (W : World) (hb : Below w.heap.size w W) => cD.out m W hb)
    cases hD : toD l m with
    | none =>
      rw [if_pos rfl]
      simp only [dir_none hD] at cDm
      clear h hge cD hD
      go_enter Tryz.func130, Tryz.ntmps130
      go_wp2_with fail
      refine cG.out.mono ?_
      rintro e w1 ⟨rfl, b1⟩
      have B1 := W_hid (b0.out.trans (b1.mono b0.out.size))
      have cD1 := W_hid (cDm.out _ B1.out)
      clear b1
      go_wp2_with fail
      refine cD1.out.mono ?_
      rintro e w2 ⟨rfl, rfl⟩
      go_wp2_with fail
      go_ret3
      exact ⟨rfl, B1.out⟩
    | some dd =>
      obtain ⟨-, h4, -, -⟩ := dir_some hD
      rw [if_neg (by simp)]
      simp only [h4] at cDm
      generalize ix l m = K at cDm
      clear h hge cD hD h4
      go_enter Tryz.func130, Tryz.ntmps130
      go_wp2_with fail
      refine cG.out.mono ?_
      rintro e w1 ⟨rfl, b1⟩
      have B1 := W_hid (b0.out.trans (b1.mono b0.out.size))
      have cD1 := W_hid (cDm.out _ B1.out)
      have x1 := (p0.out.keep b1).cell (j := 1) rfl
      have x2 : w1.cell? ⟨blk, off + (N - 1), none⟩ = some (.string z) := by
        rw [b1.cell (World.block_lt_of_cell? _ _ hat1.out)]
        exact hat1.out
      clear b1 c1
      go_wp2_with fail
      refine cD1.out.mono ?_
      rintro e w2 ⟨rfl, rfl⟩
      go_wp2_with fail
      go_quiet (fail)
      go_wp2_with fail
      go_ret3
      exact ⟨rfl, B1.out.os, B1.out.tape, B1.out.output, B1.out.size, B1.out.block⟩
end
end RN
namespace RN
open IN (Keeps)
open NT (Dr Ds er nu findR)
section
variable {base : Nat} {w w' : World} {rt rg : Nat}
def frA (D : Ds) (ns : List ByteArray) (kind : Int) (d : Bool) : (Int × ByteArray) × Int := match NT.placeC D ns 12 (NT.vac D kind (NT.last ns) d) with
  | .error e => ((0, ⟨#[]⟩), e)
  | .ok p => ((p, NT.last ns), 0)
theorem fr_nil (D : Ds) (kind : Int) (d : Bool) : frA D [] kind d = ((0, ⟨#[]⟩), 12) := rfl
theorem fr_err {D : Ds} {ns : List ByteArray} {kind : Int} {d : Bool} (hne : ns ≠ []) (h : (plA D ns).2 ≠ 0) : frA D ns kind d = ((0, ⟨#[]⟩), (plA D ns).2) := by
  unfold frA NT.placeC NT.place plA at *
  rw [if_neg hne]
  cases hg : NT.goes D 1 ns.dropLast with
  | error e => rfl
  | ok n =>
    rw [hg] at h
    simp only at h ⊢
    by_cases hD : D n = none
    · rw [if_pos hD, if_pos hD]
    · rw [if_neg hD] at h; exact absurd rfl h
theorem pl_ok {D : Ds} {ns : List ByteArray} (hne : ns ≠ []) (h : (plA D ns).2 = 0) : ∃ p dp, D p = some dp ∧ plA D ns = ((p, NT.last ns), 0) ∧ NT.place D ns 12 = .ok p ∧ NT.place D ns 14 = .ok p ∧ NT.place D ns 2 = .ok p := by
  unfold plA NT.place at *
  rw [if_neg hne, if_neg hne, if_neg hne]
  cases hg : NT.goes D 1 ns.dropLast with
  | error e =>
    rw [hg] at h
    exact absurd h (NT.goes_er hg)
  | ok n =>
    rw [hg] at h
    simp only at h ⊢
    by_cases hD : D n = none
    · rw [if_pos hD] at h; cases h
    · obtain ⟨dp, hdp⟩ := Option.ne_none_iff_exists'.1 hD
      exact ⟨n, dp, hdp, by rw [if_neg hD], by rw [if_neg hD], by rw [if_neg hD], by rw [if_neg hD]⟩
theorem fr_ok {D : Ds} {ns : List ByteArray} {kind : Int} {d : Bool} {p v : Int} (hp : NT.place D ns 12 = .ok p) (hv : NT.vac D kind (NT.last ns) d p = v) : frA D ns kind d = if v = 0 then ((p, NT.last ns), 0) else ((0, ⟨#[]⟩), v) := by
  unfold frA NT.placeC
  rw [hp]
  simp only [hv]
  by_cases h : v = 0
  · rw [if_pos h, if_pos h]
  · rw [if_neg h, if_neg h]
set_option maxRecDepth 100000 in
set_option maxHeartbeats 8000000 in
theorem rfree_any (a d : Bool) (kind : Int) (ns : List ByteArray) (ao : Option Addr) (N cap : Nat) {l : List DD} (w : World) (h : DT base w rt rg l) (hl : SS w ao N cap ns) (hN : N ≤ 100000) (hcomp : ∀ k ∈ ns, PM.comp k = true) :
    Calls Tryz.prog 126 #[.pointer (some ⟨rt, 0, none⟩), .agg #[.bool a, .slice ao N cap, .bool d], .int .i64 kind] w fun e w' => e = .returned (.tuple #[.int .i64 (frA (toD l) ns kind d).1.1, .string (frA (toD l) ns kind d).1.2, .int .i64 (frA (toD l) ns kind d).2]) ∧ Below w.heap.size w w' := by
  have b0 := (Below.refl w.heap.size w).alloc (Nat.le_refl _) (.cells #[.bool a, .slice ao N cap, .bool d] 136)
  have p0 : Blk (w.alloc (.cells #[.bool a, .slice ao N cap, .bool d] 136)) w.heap.size 136 [.bool a, .slice ao N cap, .bool d] := Blk.new _ _ _ rfl
  have hlen := hl.1
  have c0 := p0.cell (j := 0) rfl
  have c1 := p0.cell (j := 1) rfl
  have c2 := p0.cell (j := 2) rfl
  by_cases hz : N = 0
  · subst hz
    obtain rfl := List.eq_nil_of_length_eq_zero hlen
    rw [fr_nil]
    clear h hl p0
    replace b0 := W_hid b0
    go_enter Tryz.func126, Tryz.ntmps126
    go_wp2_with fail
    go_ret3
    exact ⟨rfl, b0.out⟩
  · have hne : ns ≠ [] := fun e => by rw [e] at hlen; simp at hlen; omega
    have hN0 : ((N : Int) == 0) = false := by simp; omega
    have hN1 : ¬ (N : Int) = 0 := by omega
    have cP := rplace_any a d ns ao N cap _ (h.keep b0) (hl.below b0 (Nat.le_refl _)) (by omega) hN
    by_cases hE : (plA (toD l) ns).2 = 0
    · obtain ⟨p, dp, hdp, hpl, hp12, -, -⟩ := pl_ok hne hE
      have hfr := fun v => fr_ok (kind := kind) (d := d) (v := v) hp12
      rw [hpl] at cP
      have hk : PM.comp (NT.last ns) = true := by
        refine hcomp _ ?_
        have := last_at ns ns.length rfl (by have : 0 < ns.length := by omega
                                             omega)
        rw [← this]
        exact List.getElem_mem _
      have cH := W_hid (fun W (hb : Below w.heap.size w W) => has_t p (NT.last ns) (h.keep hb) hdp)
      have hno := fun j2 (h2 : NT.look (NT.last ns) dp.l = some j2) => h.few.look hdp h2
      have cT := W_hid (fun W => rdots_any (NT.last ns) W)
      generalize NT.last ns = z at *
      have hvac : NT.vac (toD l) kind z d p = if (NT.look z dp.l ≠ none ∨ (z = PM.dot ∨ z = PM.dots)) then 12 else if kind = 1 ∧ d = true then 14 else 0 := by
        unfold NT.vac NT.at_ PM.name
        rw [hdp, hk]
        by_cases e1 : z = PM.dot <;> by_cases e2 : z = PM.dots <;> simp [e1, e2]
      simp only at cP
      replace cP := W_hid cP
      replace p0 := W_hid p0
      replace b0 := W_hid b0
      by_cases hd : z = PM.dot ∨ z = PM.dots
      · have hfr := hfr 12 (by rw [hvac, if_pos (.inr hd)])
        rw [if_neg (by decide)] at hfr
        rw [hfr]
        simp only [decide_eq_true hd] at cT
        clear h hl hdp hpl hp12 hfr hk hno hvac hd hE cH
        go_enter Tryz.func126, Tryz.ntmps126
        go_wp2_with fail
        refine cP.out.mono ?_
        rintro e w1 ⟨rfl, b1⟩
        go_wp2_with fail
        refine (cT.out _).mono ?_
        rintro e w2 ⟨rfl, rfl⟩
        go_wp2_with fail
        go_ret3
        exact ⟨rfl, b0.out.trans (b1.mono b0.out.size)⟩
      · simp only [decide_eq_false hd] at cT
        cases hlk : NT.look z dp.l with
        | some j =>
          have hj := hno j hlk
          rw [hlk] at cH
          have hfr := hfr 12 (by rw [hvac, if_pos (.inl (by rw [hlk]; simp))])
          rw [if_neg (by decide)] at hfr
          rw [hfr]
          simp only [Option.getD_some] at cH
          clear h hl hdp hpl hp12 hfr hk hno hvac hd hE hlk
          go_enter Tryz.func126, Tryz.ntmps126
          go_wp2_with fail
          refine cP.out.mono ?_
          rintro e w1 ⟨rfl, b1⟩
          have B1 := W_hid (b0.out.trans (b1.mono b0.out.size))
          have cH1 := W_hid (cH.out _ B1.out)
          clear b1
          go_wp2_with fail
          refine (cT.out _).mono ?_
          rintro e w2 ⟨rfl, rfl⟩
          go_wp2_with (go_at_call 132; refine cH1.out.mono ?_; rintro e w3 ⟨rfl, b3⟩)
          go_ret3
          exact ⟨rfl, B1.out.trans (b3.mono B1.out.size)⟩
        | none =>
          rw [hlk] at cH
          have hvac := hvac
          rw [if_neg (by rw [hlk]; simp [hd])] at hvac
          simp only [Option.getD_none] at cH
          by_cases hk1 : kind = 1
          · subst hk1
            cases d with
            | true =>
              have hfr := hfr 14 (by rw [hvac, if_pos ⟨rfl, rfl⟩])
              rw [if_neg (by decide)] at hfr
              rw [hfr]
              clear h hl hdp hpl hp12 hfr hk hno hvac hd hE hlk
              go_enter Tryz.func126, Tryz.ntmps126
              go_wp2_with fail
              refine cP.out.mono ?_
              rintro e w1 ⟨rfl, b1⟩
              have B1 := W_hid (b0.out.trans (b1.mono b0.out.size))
              have cH1 := W_hid (cH.out _ B1.out)
              have p1 := W_hid (p0.out.keep b1)
              clear b1 c0 c1 c2
              go_wp2_with fail
              refine (cT.out _).mono ?_
              rintro e w2 ⟨rfl, rfl⟩
              go_wp2_with (go_at_call 132; refine cH1.out.mono ?_; rintro e w3 ⟨rfl, b3⟩; have c3 := (p1.out.keep b3).cell (j := 2) rfl)
              go_ret3
              exact ⟨rfl, B1.out.trans (b3.mono B1.out.size)⟩
            | false =>
              have hfr := hfr 0 (by rw [hvac, if_neg (by simp)])
              rw [if_pos rfl] at hfr
              rw [hfr]
              clear h hl hdp hpl hp12 hfr hk hno hvac hd hE hlk
              go_enter Tryz.func126, Tryz.ntmps126
              go_wp2_with fail
              refine cP.out.mono ?_
              rintro e w1 ⟨rfl, b1⟩
              have B1 := W_hid (b0.out.trans (b1.mono b0.out.size))
              have cH1 := W_hid (cH.out _ B1.out)
              have p1 := W_hid (p0.out.keep b1)
              clear b1 c0 c1 c2
              go_wp2_with fail
              refine (cT.out _).mono ?_
              rintro e w2 ⟨rfl, rfl⟩
              go_wp2_with (go_at_call 132; refine cH1.out.mono ?_; rintro e w3 ⟨rfl, b3⟩; have c3 := (p1.out.keep b3).cell (j := 2) rfl)
              go_ret3
              exact ⟨rfl, B1.out.trans (b3.mono B1.out.size)⟩
          · have hfr := hfr 0 (by rw [hvac, if_neg (fun h => hk1 h.1)])
            rw [if_pos rfl] at hfr
            rw [hfr]
            have hk2 : (kind == 1) = false := by simpa using hk1
            clear h hl hdp hpl hp12 hfr hk hno hvac hd hE hlk
            go_enter Tryz.func126, Tryz.ntmps126
            go_wp2_with fail
            refine cP.out.mono ?_
            rintro e w1 ⟨rfl, b1⟩
            have B1 := W_hid (b0.out.trans (b1.mono b0.out.size))
            have cH1 := W_hid (cH.out _ B1.out)
            clear b1
            go_wp2_with fail
            refine (cT.out _).mono ?_
            rintro e w2 ⟨rfl, rfl⟩
            go_wp2_with (go_at_call 132; refine cH1.out.mono ?_; rintro e w3 ⟨rfl, b3⟩)
            go_ret3
            exact ⟨rfl, B1.out.trans (b3.mono B1.out.size)⟩
    · rw [fr_err hne hE]
      generalize (plA (toD l) ns).1.1 = x1 at cP
      generalize (plA (toD l) ns).1.2 = x2 at cP
      generalize (plA (toD l) ns).2 = E at cP hE ⊢
      have hE0 : (E == 0) = false := by simpa using hE
      replace cP := W_hid cP
      replace b0 := W_hid b0
      clear h hl p0
      go_enter Tryz.func126, Tryz.ntmps126
      go_wp2_with fail
      refine cP.out.mono ?_
      rintro e w1 ⟨rfl, b1⟩
      go_wp2_with fail
      go_ret3
      exact ⟨rfl, b0.out.trans (b1.mono b0.out.size)⟩
end
end RN
end Go.Proofs.YtmnmheocmcmpmaaGreat

namespace Go.Proofs
open Go.Shelf
def Tryz.keys150_ren : Go.Shelf.Ren := ⟨fun | 7 => 150 | 10 => 196 | n => n, fun | 23 => 161 | 26 => 9 | 3 => 141 | 28 => 217 | 0 => 0 | 27 => 216 | 33 => 51 | 4 => 4 | n => n, fun | n => n⟩
theorem Tryz.keys150 : Go.Proofs.SlLaysZ.n7 Tryz.prog Tryz.keys150_ren := {
  mixed := by kernel_rfl
  f7 := ⟨Tryz.f150.name, by decide, Tryz.func150.trans (congrArg some (by kernel_rfl))⟩
  f10 := ⟨Tryz.f196.name, by decide, Tryz.func196.trans (congrArg some (by kernel_rfl))⟩
  t0 := Tryz.underlying0
  a0 := Tryz.isAgg0
  z0 := Tryz.sizeOf0
  v0 := Tryz.zeroValue0
  t4 := Tryz.underlying4
  a4 := Tryz.isAgg4
  z4 := Tryz.sizeOf4
  v4 := Tryz.zeroValue4
  t23 := Tryz.underlying161
  a23 := Tryz.isAgg161
  z23 := Tryz.sizeOf161
  v23 := Tryz.zeroValue161
  t26 := Tryz.underlying9
  a26 := Tryz.isAgg9
  z26 := Tryz.sizeOf9
  v26 := Tryz.zeroValue9
  t27 := Tryz.underlying216
  a27 := Tryz.isAgg216
  z27 := Tryz.sizeOf216
  v27 := Tryz.zeroValue216
  t28 := Tryz.underlying217
  a28 := Tryz.isAgg217
  z28 := Tryz.sizeOf217
  v28 := Tryz.zeroValue217
  t33 := Tryz.underlying51
  a33 := Tryz.isAgg51
  z33 := Tryz.sizeOf51
  v33 := Tryz.zeroValue51 }
def Tryz.sorted149_ren : Go.Shelf.Ren := ⟨fun | 6 => 149 | 8 => 194 | 9 => 195 | 11 => 224 | 13 => 189 | 12 => 225 | 23 => 221 | 24 => 222 | 14 => 237 | 15 => 238 | 16 => 239 | 17 => 240 | 18 => 241 | 19 => 242 | 20 => 243 | 21 => 244 | 22 => 245 | 25 => 247 | 26 => 232 | 27 => 233 | 28 => 248 | 29 => 249 | 30 => 250 | 31 => 251 | n => n, fun | 26 => 9 | 28 => 217 | 24 => 134 | 0 => 0 | 3 => 3 | 37 => 237 | 48 => 259 | 50 => 261 | 4 => 4 | 40 => 252 | 39 => 251 | 45 => 256 | 5 => 5 | 9 => 9 | 51 => 268 | 55 => 272 | 57 => 279 | 58 => 280 | 33 => 51 | n => n, fun | n => n⟩
theorem Tryz.sorted149 : Go.Proofs.SlLaysZ.n6 Tryz.prog Tryz.sorted149_ren := {
  mixed := by kernel_rfl
  f6 := ⟨Tryz.f149.name, by decide, Tryz.func149.trans (congrArg some (by kernel_rfl))⟩
  f8 := ⟨Tryz.f194.name, by decide, Tryz.func194.trans (congrArg some (by kernel_rfl))⟩
  f11 := ⟨Tryz.f224.name, by decide, Tryz.func224.trans (congrArg some (by kernel_rfl))⟩
  t0 := Tryz.underlying0
  a0 := Tryz.isAgg0
  z0 := Tryz.sizeOf0
  v0 := Tryz.zeroValue0
  t24 := Tryz.underlying134
  a24 := Tryz.isAgg134
  z24 := Tryz.sizeOf134
  v24 := Tryz.zeroValue134
  t26 := Tryz.underlying9
  a26 := Tryz.isAgg9
  z26 := Tryz.sizeOf9
  v26 := Tryz.zeroValue9
  t28 := Tryz.underlying217
  a28 := Tryz.isAgg217
  z28 := Tryz.sizeOf217
  v28 := Tryz.zeroValue217
  i26 := by kernel_rfl }
def Tryz.sort195_ren : Go.Shelf.Ren := ⟨fun | 6 => 195 | 8 => 189 | 9 => 225 | 19 => 221 | 20 => 222 | 21 => 237 | 22 => 238 | 23 => 239 | 24 => 240 | 25 => 241 | 26 => 242 | 27 => 243 | 28 => 244 | 29 => 245 | 36 => 247 | 31 => 232 | 32 => 233 | 37 => 248 | 38 => 249 | 39 => 250 | 41 => 251 | n => n, fun | 27 => 134 | 29 => 9 | 3 => 3 | 32 => 237 | 26 => 134 | 0 => 0 | 44 => 259 | 46 => 261 | 4 => 4 | 36 => 252 | 35 => 251 | 41 => 256 | 5 => 5 | 9 => 9 | 53 => 268 | 57 => 272 | 63 => 279 | 64 => 280 | n => n, fun | n => n⟩
theorem Tryz.sort195 : Go.Proofs.SlLaysM.n6 Tryz.prog Tryz.sort195_ren := {
  mixed := by kernel_rfl
  f6 := ⟨Tryz.f195.name, by decide, Tryz.func195.trans (congrArg some (by kernel_rfl))⟩
  f8 := Tryz.func189.trans (congrArg some (by kernel_rfl))
  f9 := ⟨Tryz.f225.name, by decide, Tryz.func225.trans (congrArg some (by kernel_rfl))⟩
  f19 := Tryz.func221.trans (congrArg some (by kernel_rfl))
  f20 := Tryz.func222.trans (congrArg some (by kernel_rfl))
  f21 := ⟨Tryz.f237.name, by decide, Tryz.func237.trans (congrArg some (by kernel_rfl))⟩
  f22 := ⟨Tryz.f238.name, by decide, Tryz.func238.trans (congrArg some (by kernel_rfl))⟩
  f23 := ⟨Tryz.f239.name, by decide, Tryz.func239.trans (congrArg some (by kernel_rfl))⟩
  f24 := ⟨Tryz.f240.name, by decide, Tryz.func240.trans (congrArg some (by kernel_rfl))⟩
  f25 := ⟨Tryz.f241.name, by decide, Tryz.func241.trans (congrArg some (by kernel_rfl))⟩
  f26 := ⟨Tryz.f242.name, by decide, Tryz.func242.trans (congrArg some (by kernel_rfl))⟩
  f27 := ⟨Tryz.f243.name, by decide, Tryz.func243.trans (congrArg some (by kernel_rfl))⟩
  f28 := ⟨Tryz.f244.name, by decide, Tryz.func244.trans (congrArg some (by kernel_rfl))⟩
  f29 := ⟨Tryz.f245.name, by decide, Tryz.func245.trans (congrArg some (by kernel_rfl))⟩
  f31 := Tryz.func232.trans (congrArg some (by kernel_rfl))
  f32 := Tryz.func233.trans (congrArg some (by kernel_rfl))
  f36 := ⟨Tryz.f247.name, by decide, Tryz.func247.trans (congrArg some (by kernel_rfl))⟩
  f37 := ⟨Tryz.f248.name, by decide, Tryz.func248.trans (congrArg some (by kernel_rfl))⟩
  f38 := ⟨Tryz.f249.name, by decide, Tryz.func249.trans (congrArg some (by kernel_rfl))⟩
  f39 := ⟨Tryz.f250.name, by decide, Tryz.func250.trans (congrArg some (by kernel_rfl))⟩
  f41 := ⟨Tryz.f251.name, by decide, Tryz.func251.trans (congrArg some (by kernel_rfl))⟩
  t0 := Tryz.underlying0
  a0 := Tryz.isAgg0
  z0 := Tryz.sizeOf0
  v0 := Tryz.zeroValue0
  t3 := Tryz.underlying3
  a3 := Tryz.isAgg3
  z3 := Tryz.sizeOf3
  v3 := Tryz.zeroValue3
  t4 := Tryz.underlying4
  a4 := Tryz.isAgg4
  z4 := Tryz.sizeOf4
  v4 := Tryz.zeroValue4
  t5 := Tryz.underlying5
  a5 := Tryz.isAgg5
  z5 := Tryz.sizeOf5
  v5 := Tryz.zeroValue5
  t9 := Tryz.underlying9
  a9 := Tryz.isAgg9
  z9 := Tryz.sizeOf9
  v9 := Tryz.zeroValue9
  t26 := Tryz.underlying134
  a26 := Tryz.isAgg134
  z26 := Tryz.sizeOf134
  v26 := Tryz.zeroValue134
  t27 := Tryz.underlying134
  a27 := Tryz.isAgg134
  z27 := Tryz.sizeOf134
  v27 := Tryz.zeroValue134
  t29 := Tryz.underlying9
  a29 := Tryz.isAgg9
  z29 := Tryz.sizeOf9
  v29 := Tryz.zeroValue9
  t32 := Tryz.underlying237
  a32 := Tryz.isAgg237
  z32 := Tryz.sizeOf237
  v32 := Tryz.zeroValue237
  t35 := Tryz.underlying251
  a35 := Tryz.isAgg251
  z35 := Tryz.sizeOf251
  v35 := Tryz.zeroValue251
  t36 := Tryz.underlying252
  a36 := Tryz.isAgg252
  z36 := Tryz.sizeOf252
  v36 := Tryz.zeroValue252
  t41 := Tryz.underlying256
  a41 := Tryz.isAgg256
  z41 := Tryz.sizeOf256
  v41 := Tryz.zeroValue256
  t44 := Tryz.underlying259
  a44 := Tryz.isAgg259
  z44 := Tryz.sizeOf259
  v44 := Tryz.zeroValue259
  t46 := Tryz.underlying261
  a46 := Tryz.isAgg261
  z46 := Tryz.sizeOf261
  v46 := Tryz.zeroValue261
  t53 := Tryz.underlying268
  a53 := Tryz.isAgg268
  z53 := Tryz.sizeOf268
  v53 := Tryz.zeroValue268
  t57 := Tryz.underlying272
  a57 := Tryz.isAgg272
  z57 := Tryz.sizeOf272
  v57 := Tryz.zeroValue272
  t63 := Tryz.underlying279
  a63 := Tryz.isAgg279
  z63 := Tryz.sizeOf279
  v63 := Tryz.zeroValue279
  t64 := Tryz.underlying280
  a64 := Tryz.isAgg280
  z64 := Tryz.sizeOf280
  v64 := Tryz.zeroValue280 }
end Go.Proofs

namespace Go.Proofs.YtmnmheocmcmpmaaGreat
open Go.ChangeShapes Go.WideShapes Go.ChangeAt Go.RowKit Go.Maps
open Go.Sort Go.Shelf
open Go.WideElems (Fit rd rg pl rd_val rd_key rg_of)
set_option linter.unusedVariables false
set_option linter.unusedSimpArgs false
namespace NS
def mk (l : List UInt8) : ByteArray := ⟨l.toArray⟩
theorem scl_enc (ss : List (List UInt8)) : scl (ss.map mk) = ss.map encStr := by
  unfold scl
  rw [List.map_map]
  rfl
theorem strKeys_nums {w : World} {b n : Nat} {M : ByteArray → Option (Int × Option Nat)} {D : DataW Unit} (h : w.ownsMap Tryz.prog 9 PR b n D) (hf : ∀ f, Sm f → Maps.has D (key f) = (M f).isSome) (hb : ∀ f, M f ≠ none → Sm f) : Nums M ((strKeys D).map mk) := by
  obtain ⟨es0, rfl, hne, -⟩ := h.entries keyed_str
  obtain ⟨es, clock, hbk, F, hs, hD⟩ := h
  simp only [DataW.map.injEq] at hD
  have hk : ∀ p ∈ es0, ∃ f : ByteArray, p.1 = key f ∧ M f ≠ none := by
    intro p hp
    have hp0 := hp
    rw [hD] at hp
    obtain ⟨v, hv⟩ := fit_keys F p (mem_sorted.1 hp)
    obtain ⟨x, rfl, hx, hsz⟩ := WideMaps.string_of_keyOf und_str hv
    have hI : Sm x := hsz
    have hh := hf x hI
    have h1 : Maps.has (DataW.map es0) (key x) = true := by
      rw [Maps.has_eq]
      exact List.any_eq_true.2 ⟨p, hp0, by rw [hx]; exact WideAt.sameKey_self (isKey x hI)⟩
    rw [h1] at hh
    have hM : M x ≠ none := fun e => by rw [e] at hh; cases hh
    exact ⟨x, hx, hM⟩
  have e : (strKeys (DataW.map es0)).map mk = es0.map fun p => mk (Go.strOf p.1) := by
    simp only [strKeys, List.map_map]
    rfl
  rw [e]
  refine ⟨?_, fun f => ?_⟩
  · unfold List.Nodup
    rw [List.pairwise_map]
    refine hne.imp_of_mem ?_
    intro p q hp hq hpq
    obtain ⟨f, e1, -⟩ := hk p hp
    obtain ⟨g, e2, -⟩ := hk q hq
    rw [e1, e2] at hpq
    rw [e1, e2]
    intro hfg
    apply hpq
    have : f = g := hfg
    rw [this]
  · rw [List.mem_map]
    constructor
    · rintro ⟨p, hp, rfl⟩
      obtain ⟨f, e1, hM⟩ := hk p hp
      rw [e1]
      exact hM
    · intro hM
      have hbd := hb f hM
      have h1 := hf f hbd
      have h2 : Maps.has (DataW.map es0) (key f) = true := by
        rw [h1]
        cases e : M f with
        | none => exact absurd e hM
        | some _ => rfl
      rw [Maps.has_eq] at h2
      obtain ⟨p, hp, hs⟩ := List.any_eq_true.1 h2
      obtain ⟨g, e1, -⟩ := hk p hp
      refine ⟨p, hp, ?_⟩
      rw [e1] at hs ⊢
      have : g = f := by
        simp only [key, Lit.sameKey] at hs
        have hs' : g.data.toList = f.data.toList := by simpa using hs
        exact ByteArray.ext (Array.toList_inj.1 hs')
      exact this
theorem sorts (m : Nat) : AnyZ.SortsIn Tryz.prog Tryz.sorted149_ren Fence.wide m :=
  ⟨fun blk off cap ss W hH hblk hsz => callsIn_wide.2 (AnyM.slices_Sort_string Tryz.sort195 blk off cap ss W hH hblk hsz),
   fun p cap W => callsIn_wide.2 (AnyM.slices_Sort_string_none Tryz.sort195 p cap W)⟩
theorem Keys_any (b : Nat) (w : World) : Calls Tryz.prog 150 #[.map (some b)] w fun e w' => e = .returned (.func (.func 196) #[] #[.pointer (some ⟨w.heap.size, 0, none⟩)]) ∧ w' = w.alloc (.cells #[.map (some b)] 161) :=
  (callsIn_wide (n := 5)).1 (AnyZ.keys_in Tryz.keys150 Fence.wide 5 trivial rfl (some b) w)
set_option maxRecDepth 100000 in
set_option maxHeartbeats 1000000 in
theorem sorted_keys (b nn : Nat) (D0 : DataW Unit) (R : Value → Option (DataW Unit × List MemPlace)) (w : World) (hown : w.ownsMap Tryz.prog 9 R b nn D0) (hmax : Maps.size D0 ≤ maxLen) (hbytes : Maps.size D0 * 16 ≤ 140737488355328) :
    CallsIn Fence.wide 5 Tryz.prog 149 #[.func (.func 196) #[] #[.pointer (some ⟨w.heap.size, 0, none⟩)]] (w.alloc (.cells #[.map (some b)] 161)) fun e w' => ∃ (v : Value) (ss : List (List UInt8)), e = .returned v ∧ ss.Perm (strKeys D0) ∧
      w'.ownsRow (w.alloc (.cells #[.map (some b)] 161)).heap.size 9 1 v ss.length ((ss.mergeSort leB).map encStr) ∧ (v = .slice none 0 0 ↔ ss = []) ∧ Below (w.alloc (.cells #[.map (some b)] 161)).heap.size (w.alloc (.cells #[.map (some b)] 161)) w' := by
  have hbl := hown.lt
  have hseq : SeqGives Fence.wide 2 Tryz.prog 196 #[.pointer (some ⟨w.heap.size, 0, none⟩)] encStr (fun ss => ss.Perm (strKeys D0)) (Maps.size D0) (w.alloc (.cells #[.map (some b)] 161)) :=
    AnyZ.keys_gives (ρ := Tryz.keys150_ren) { Tryz.keys150 with } Fence.wide _ trivial rfl (by omega) w.heap.size b nn D0 _ (by simp) (by simp) (by
      obtain ⟨es, clock, hb, Ft, hs, hD⟩ := hown
      exact ⟨es, clock, (Below.heap_alloc _ _ b hbl).trans hb, Ft, hs, hD⟩)
  exact AnyZ.sorted_in Tryz.sorted149 Fence.wide 5 trivial trivial trivial trivial rfl (by omega) (sorts _) (enters_of Tryz.func195 (by kernel_rfl) rfl) 196 #[.pointer (some ⟨w.heap.size, 0, none⟩)] trivial (enters_of Tryz.func196 (by kernel_rfl) rfl) _ _ hmax hbytes _ hseq
theorem leB_sorted (ss : List (List UInt8)) : (ss.mergeSort leB).Pairwise fun a b => leB a b = true :=
  List.pairwise_mergeSort (fun a b c hab hbc => by simp only [leB, decide_eq_true_eq] at *; exact Std.le_trans hab hbc) (fun a b => by simp only [leB, Bool.or_eq_true, decide_eq_true_eq]; exact Std.le_total) ss
theorem bytesLess_lt : ∀ (x y : List UInt8), Op.bytesLess x y = decide (x < y)
  | [], [] => by simp [Op.bytesLess]
  | _ :: _, [] => by simp [Op.bytesLess]
  | [], _ :: _ => by simp [Op.bytesLess]
  | a :: x, b :: y => by
    rw [Op.bytesLess, bytesLess_lt x y]
    simp only [List.cons_lt_cons_iff]
    by_cases h1 : a < b <;> by_cases h2 : a = b <;> by_cases h3 : x < y <;> simp [h1, h2, h3]
theorem blt_iff (a b : ByteArray) : NT.blt a b = true ↔ a.data.toList < b.data.toList := by
  unfold NT.blt
  rw [bytesLess_lt, ByteArray.toList_eq, ByteArray.toList_eq]
  simp
theorem nums_perm {M : ByteArray → Option (Int × Option Nat)} {a b : List ByteArray} (h : Nums M a) (hp : a.Perm b) : Nums M b := ⟨hp.nodup_iff.1 h.1, fun f => by rw [← hp.mem_iff]; exact h.2 f⟩
set_option maxRecDepth 100000 in
set_option maxHeartbeats 1000000 in
theorem Sorted_names (b : Nat) (M : ByteArray → Option (Int × Option Nat)) (w : World) (hMB : MB w b M) (hfew : ∀ ss, Nums M ss → ss.length < 65536) :
    Calls Tryz.prog 149 #[.func (.func 196) #[] #[.pointer (some ⟨w.heap.size, 0, none⟩)]] (w.alloc (.cells #[.map (some b)] 161)) fun e w' => ∃ (v : Value) (l : List ByteArray), e = .returned v ∧ Nums M l ∧ l.Pairwise (fun a b => NT.blt a b = true) ∧
      w'.ownsRow (w.heap.size + 1) 9 1 v l.length (scl l) ∧ Below (w.heap.size + 1) (w.alloc (.cells #[.map (some b)] 161)) w' := by
  obtain ⟨⟨D, hown, hhas, hat⟩, hbd⟩ := hMB
  have hN := strKeys_nums hown hhas hbd
  have hlen := hfew _ hN
  rw [List.length_map] at hlen
  have hsz : (strKeys D).length = Maps.size D := by
    obtain ⟨es0, rfl, -⟩ := hown.entries keyed_str
    simp [strKeys, Maps.size]
  have hmx : Maps.size D ≤ maxLen := by rw [← hsz]; unfold maxLen; omega
  refine ((callsIn_wide (n := 5)).1 (sorted_keys b (Maps.size D) D PR w hown hmx (by omega))).mono ?_
  rintro e w' ⟨v, ss, rfl, hp, hrow, hnil, hB⟩
  have hpm : ss.Perm (ss.mergeSort leB) := (List.mergeSort_perm ss leB).symm
  have hN2 : Nums M ((ss.mergeSort leB).map mk) := nums_perm hN ((hp.symm.trans hpm).map mk)
  refine ⟨v, (ss.mergeSort leB).map mk, rfl, hN2, ?_, ?_, ?_⟩
  · have hs := leB_sorted ss
    have hnd := hN2.1
    unfold List.Nodup at hnd
    rw [List.pairwise_map] at hnd ⊢
    refine (hs.and hnd).imp ?_
    rintro x y ⟨h1, h2⟩
    rw [blt_iff]
    have h1' : x ≤ y := by simpa [leB] using h1
    have hne : x ≠ y := fun e => h2 (by rw [e])
    show x.toArray.toList < y.toArray.toList
    simp only [List.toList_toArray]
    exact Std.lt_of_le_of_ne h1' hne
  · rw [scl_enc, List.length_map, hpm.length_eq.symm]
    have : (w.alloc (.cells #[.map (some b)] 161)).heap.size = w.heap.size + 1 := by simp
    rw [← this]
    exact hrow
  · have : (w.alloc (.cells #[.map (some b)] 161)).heap.size = w.heap.size + 1 := by simp
    rw [← this]
    exact hB
end NS
end Go.Proofs.YtmnmheocmcmpmaaGreat

namespace Go.Proofs.YtmnmheocmcmpmaaGreat
open Go.ChangeShapes Go.WideShapes Go.ChangeAt Go.RowKit Go.Maps
set_option linter.unusedVariables false
set_option linter.unusedSimpArgs false
namespace NT
open IN (Keeps)
def ncl1 (M : ByteArray → Option (Int × Option Nat)) (k : ByteArray) : List Value := [.string k, .int .i64 ((M k).getD (0, none)).1, .int .i64 (if ((M k).getD (0, none)).2 = none then 1 else 2)]
def ncl (M : ByteArray → Option (Int × Option Nat)) (l : List ByteArray) : List Value := l.flatMap (ncl1 M)
theorem ncl_app (M : ByteArray → Option (Int × Option Nat)) (a b : List ByteArray) : ncl M (a ++ b) = ncl M a ++ ncl M b := List.flatMap_append
theorem ncl_one (M : ByteArray → Option (Int × Option Nat)) (k : ByteArray) : ncl M [k] = ncl1 M k := by simp [ncl]
theorem own_lt {w : World} {base e size n : Nat} {v : Value} {xs : List Value} (h : w.ownsRow base e size v n xs) (g : Nat) (hg : v.ownBlock = some g) : g < w.heap.size := by
  rcases h.2 with ⟨rfl, _⟩ | ⟨g', cap, cur, rfl, h2, h3, h4⟩
  · cases hg
  · obtain rfl : g' = g := by simpa [Value.ownBlock] using hg
    rcases Nat.lt_or_ge g' w.heap.size with hlt | hge
    · exact hlt
    · rw [Array.getElem?_eq_none hge] at h3; cases h3
theorem two_drew {g b : Nat} {w w' : World} (h : Two g b w w') : Two g b w w'.drew := ⟨h.os, h.tape, h.output, h.size, h.block⟩
theorem two_al {g b : Nat} {w w' : World} (h : Two g b w w') (o : Obj) : Two g b w (w'.alloc o) := h.trans (Two.of ((Below.refl _ w').alloc (Nat.le_refl _) o))
theorem nm_src (w : World) (g : Nat) (k : ByteArray) (n kd : Int) (hB : Blk w g 133 [.string k, .int .i64 n, .int .i64 kd]) : Own.Src w 3 (.slice (some ⟨g, 0, none⟩) 1 1) 1 [.string k, .int .i64 n, .int .i64 kd] :=
  .inr ⟨_, _, rfl, by simp, fun j v hj => by
    have := hB.cell hj
    rw [Addr.add_lit, Nat.zero_add]
    exact this⟩
theorem nm_one (k : ByteArray) (n kd : Int) : ∀ u ∈ [Value.string k, .int .i64 n, .int .i64 kd], u.oneCell' = true := by
  intro u hu
  simp only [List.mem_cons, List.not_mem_nil, or_false] at hu
  rcases hu with rfl | rfl | rfl <;> rfl
theorem info_name : Own.Info Tryz.prog 133 (.agg #[.string ⟨#[]⟩, .int .i64 0, .int .i64 0]) 3 32 := Own.info_of (by kernel_rfl) rfl (by decide)
set_option maxRecDepth 100000 in
set_option maxHeartbeats 8000000 in
theorem list_any (g m : Nat) (u : Int) (pu : Option Nat) (M : ByteArray → Option (Int × Option Nat)) (w : World) (h : DB w g u pu m M) (hfew : ∀ ss, NS.Nums M ss → ss.length < 65536) :
    Calls Tryz.prog 84 #[.pointer (some ⟨g, 0, none⟩)] w fun e w' => ∃ v l, e = .returned v ∧ NS.Nums M l ∧ l.Pairwise (fun a b => blt a b = true) ∧ w'.ownsRow w.heap.size 133 3 v l.length (ncl M l) ∧ Below w.heap.size w w' := by
  obtain ⟨ss, hss⟩ := h.2.nums
  have hlen := hfew ss hss
  have hcnt : ∀ ty, (Builtin.len_ #[161] ty #[.map (some m)]).run Tryz.prog w = .ok (.int .i64 (ss.length : Int)) w := fun ty => h.2.count hss ty
  obtain ⟨N, hNN⟩ : ∃ N, ss.length = N := ⟨_, rfl⟩
  rw [hNN] at hcnt hlen
  obtain ⟨X, hmk, hmo⟩ := Own.make_room (t := 56) Tryz.underlying56 info_name N (N : Int) rfl (by omega) (by omega)
  have hown0 := W_hid (hmo w w.heap.size (Nat.le_refl _))
  have c0 := h.1.cell (j := 2) rfl
  obtain ⟨w2, hw2⟩ : ∃ w2, w.alloc X = w2 := ⟨_, rfl⟩
  have b2 : Below w.heap.size w w2 := by rw [← hw2]; exact (Below.refl _ w).alloc (Nat.le_refl _) X
  rw [hw2] at hown0
  have h2 := h.keep b2
  have d0 := h2.1.cell (j := 2) rfl
  have cK := W_hid (NS.Keys_any m w2)
  have hsz2 : w2.heap.size = w.heap.size + 1 := by rw [← hw2]; simp
  have cS := NS.Sorted_names m M w2 h2.2 hfew
  rw [hsz2] at cS
  replace cS := W_hid cS
  have H := W_hid (And.intro h (And.intro hss b2))
  replace hNN := W_hid hNN
  have b2h := b2
  clear h h2 hss b2 hmo
  go_enter Tryz.func84, Tryz.ntmps84
  go_wp2_with fail
  refine cK.out.mono ?_
  rintro e w3 ⟨rfl, rfl⟩
  go_wp2_with fail
  refine cS.out.mono ?_
  rintro e w4 ⟨v4, l, rfl, hNl, hpw, hrow, b4⟩
  obtain ⟨ao, cap, rfl⟩ := own_form hrow
  have hSS := SS_own hrow
  have hlN : l.length = N := by have := hNl.len_eq H.out.2.1; have := hNN.out; omega
  have hge : Hid (∀ b o, ao = some ⟨b, o, none⟩ → 0 < N → w.heap.size + 1 ≤ b) := W_hid (fun b o e h0 => by
    have h1 := Own.ge hrow b (by rw [e]; rfl)
    omega)
  have hrow := W_hid hrow
  have b5 : Below w.heap.size w w4 := (b2h.alloc b2h.size _).trans (b4.mono (by omega))
  have hown4 : Hid (w4.ownsRow w.heap.size 133 3 (.slice (some ⟨w.heap.size, 0, none⟩) 0 N) 0 []) := W_hid (Own.below (Own.below hown0.out ((Below.refl _ w2).alloc (Nat.le_refl _) (.cells #[.map (some m)] 161))) (b4.mono (by simp; omega)))
  have hs4 : w.heap.size + 1 ≤ w4.heap.size := by have := b4.size; simp at this; omega
  rw [hlN] at hSS ⊢
  replace b5 := W_hid b5
  have hSS := W_hid hSS
  replace hlN := W_hid hlN
  have hR := W_hid (And.intro hNl hpw)
  clear hown0 b4 cS cK d0 c0 hNl hpw hrow b2h
  replace hw2 := W_hid hw2
  go_wp2_with fail
  go_loopw [21, 3] (fun i v wr => ∃ (j : Nat), j ≤ N ∧ i = .int .i64 (j : Int) ∧ Hid (wr.ownsRow w.heap.size 133 3 v j (ncl M (l.take j))) ∧ Hid (v.ownBlock = some w.heap.size ∨ ∃ g, w4.heap.size ≤ g ∧ v.ownBlock = some g) ∧ Hid (Two w.heap.size w.heap.size w4 wr)) (fun i _ _ => N - (intOf i).toNat)
  case atStart => exact ⟨0, Nat.zero_le _, rfl, hown4, W_hid (.inl rfl), W_hid (Two.refl _ _ _)⟩
  case round =>
    obtain ⟨j, hj, rfl, hown, hob, hT⟩ := hrel
    have belr := W_hid (b5.out.trans (hT.out.below (B := w.heap.size) (by omega) (Nat.le_refl _) (Nat.le_refl _)))
    by_cases hlt : j < N
    · obtain ⟨blk, off, rfl, hc⟩ := hSS.out.at_ (by omega)
      have hc := hc j hlt
      have hb2 := World.block_lt_of_cell? w4 _ hc
      have htake := EM.take_snoc l j (by rw [hlN.out]; exact hlt)
      obtain ⟨k, hx⟩ : ∃ x, l[j]'(by rw [hlN.out]; exact hlt) = x := ⟨_, rfl⟩
      rw [hx] at hc htake
      have hc' : wr.cell? ⟨blk, off + j, none⟩ = some (.string k) := by
        rw [World.cell?_of_block (w := w4) (w' := wr) (a := ⟨blk, off + j, none⟩) (hT.out.block blk hb2 (by have := hge.out blk off rfl (by omega); omega) (by have := hge.out blk off rfl (by omega); omega))]
        exact hc
      have hkm : M k ≠ none := (hR.out.1.2 k).1 (by rw [← hx]; exact List.getElem_mem _)
      have hDr := H.out.1.keep belr.out
      have cG := get_any g m u pu M k (hDr.2.bound k hkm) wr hDr
      obtain ⟨⟨kn, kx⟩, hv⟩ : ∃ r, (M k).getD (0, none) = r := ⟨_, rfl⟩
      rw [hv] at cG
      have hone : Hid (ncl1 M k = [.string k, .int .i64 kn, .int .i64 (if kx = none then 1 else 2)]) := W_hid (by simp only [ncl1, hv])
      obtain ⟨some_, hsm⟩ : ∃ b, (M k).isSome = b := ⟨_, rfl⟩
      rw [hsm] at cG
      obtain ⟨pp, hpp⟩ : ∃ pp, IS.ptr kx = .pointer pp := ptr_form kx
      simp only [NS.nv] at cG
      rw [hpp] at cG
      replace cG := W_hid cG
      replace htake := W_hid htake
      have hkind := W_hid (fun w => kind_any kn kx w)
      obtain ⟨kd, hkd⟩ : ∃ kd : Int, (if kx = none then 1 else 2) = kd := ⟨_, rfl⟩
      rw [hkd] at hone
      simp only [hkd, hpp] at hkind
      clear hx hc hkm hDr hv hsm hkd hpp
      go_wp2_with fail
      refine cG.out.mono ?_
      rintro e w5 ⟨rfl, b6⟩
      have hown5 := W_hid (Own.below hown.out b6)
      have hT5 := W_hid (hT.out.trans (Two.of b6))
      have hs5 := b6.size
      have hs5' := hT.out.size
      have n0 := (Blk.new w5 141 [.int .i64 kn, .pointer pp] rfl).cell (j := 0) rfl
      have n1 := (Blk.new w5 141 [.int .i64 kn, .pointer pp] rfl).cell (j := 1) rfl
      clear b6 cG hc'
      go_wp2_with fail
      have hSb : Below w5.heap.size w5 (w5.alloc (.cells #[.int .i64 kn, .pointer pp] 141)) := (Below.refl _ w5).alloc (Nat.le_refl _) _
      have hS : (w5.alloc (.cells #[.int .i64 kn, .pointer pp] 141)).cell? ⟨w5.heap.size, 0, none⟩ = some (.int .i64 kn) ∧ (w5.alloc (.cells #[.int .i64 kn, .pointer pp] 141)).cell? ⟨w5.heap.size, 1, none⟩ = some (.pointer pp) ∧ Two w.heap.size w.heap.size w4 (w5.alloc (.cells #[.int .i64 kn, .pointer pp] 141)) := ⟨n0, n1, hT5.out.trans (Two.of hSb)⟩
      have hSt := hS.2.2
      have hkind2 : Hid (∀ W, (W.cell? ⟨w5.heap.size, 0, none⟩ = some (.int .i64 kn) ∧ W.cell? ⟨w5.heap.size, 1, none⟩ = some (.pointer pp) ∧ Two w.heap.size w.heap.size w4 W) → Calls Tryz.prog 152 #[.agg #[.int .i64 kn, .pointer pp]] W fun e w' => e = .returned (.int .i64 kd) ∧ (w'.cell? ⟨w5.heap.size, 0, none⟩ = some (.int .i64 kn) ∧ w'.cell? ⟨w5.heap.size, 1, none⟩ = some (.pointer pp) ∧ Two w.heap.size w.heap.size w4 w') ∧ Below W.heap.size W w') := W_hid (fun W h => (hkind.out W).mono (by
        rintro e w' ⟨rfl, h2⟩
        refine ⟨rfl, ⟨?_, ?_, h.2.2.trans (Two.of h2)⟩, h2⟩
        · rw [h2.cell (World.block_lt_of_cell? W _ h.1)]; exact h.1
        · rw [h2.cell (World.block_lt_of_cell? W _ h.2.1)]; exact h.2.1))
      clear n0 n1
      go_region_held3 (fun w' => w'.cell? ⟨w5.heap.size, 0, none⟩ = some (.int .i64 kn) ∧ w'.cell? ⟨w5.heap.size, 1, none⟩ = some (.pointer pp) ∧ Two w.heap.size w.heap.size w4 w') (first | assumption | (refine ⟨?_, ?_, ?_⟩ <;> first | assumption | exact two_drew (by assumption) | exact two_al (by assumption) _ | go_keep))
        (first
          | (go_at_call 152; refine (hkind2.out _ (by assumption)).mono ?_; rintro e w6 ⟨rfl, hS7, b7⟩
             have b8 : Below w5.heap.size w5 w6 := (Below.drew hSb).trans (b7.mono (by simp))
             have hown8 := W_hid (Own.below hown5.out (b8.alloc b8.size (.cells #[.string k, .int .i64 kn, .int .i64 kd] 133)))
             have hsrc := W_hid (nm_src (w6.alloc (.cells #[.string k, .int .i64 kn, .int .i64 kd] 133)) w6.heap.size _ _ _ (Blk.new w6 133 [.string k, .int .i64 kn, .int .i64 kd] rfl))
             have hs8 := b8.size
             have hT8 := hS7.2.2)
          | (refine Own.step_app rfl (.tmp 31) (.tmp 38) 56 rfl Tryz.underlying56 info_name u3 (.slice (some ⟨w6.heap.size, 0, none⟩) 1 1) rfl rfl hown8.out (by simp; omega) hsrc.out (nm_one _ _ _) (by unfold maxLen; omega) (by omega) ?_
             intro v' w8 ho8 hg8 hb8
             have hS8 : w8.cell? ⟨w5.heap.size, 0, none⟩ = some (.int .i64 kn) ∧ w8.cell? ⟨w5.heap.size, 1, none⟩ = some (.pointer pp) ∧ Two w.heap.size w.heap.size w4 w8 := by
               have hne : u3.ownBlock ≠ some w5.heap.size := fun e => by have := own_lt hown5.out _ e; omega
               have hT9 := two_al hT8 (.cells #[.string k, .int .i64 kn, .int .i64 kd] 133)
               refine ⟨?_, ?_, ?_⟩
               · exact Own.cellg hg8 (by rw [((Below.refl _ w6).alloc (Nat.le_refl _) _).cell (World.block_lt_of_cell? w6 _ hS7.1)]; exact hS7.1) hne.symm
               · exact Own.cellg hg8 (by rw [((Below.refl _ w6).alloc (Nat.le_refl _) _).cell (World.block_lt_of_cell? w6 _ hS7.2.1)]; exact hS7.2.1) hne.symm
               · exact ⟨hg8.os.trans hT9.os, hg8.tape.trans hT9.tape, hg8.output.trans hT9.output, Nat.le_trans hT9.size hg8.size, fun q hq h1 h2 => by
                   rw [hg8.block q (Nat.lt_of_lt_of_le hq hT9.size) (fun e => by
                     rcases hob.out with e2 | ⟨g, hg, e2⟩
                     · rw [e2] at e; cases e; exact h1 rfl
                     · rw [e2] at e; cases e; omega)]
                   exact hT9.block q hq h1 h2⟩
             have hT10 := W_hid hS8.2.2
             have hob8 : Hid (v'.ownBlock = some w.heap.size ∨ ∃ g, w4.heap.size ≤ g ∧ v'.ownBlock = some g) := W_hid (by
               rcases hb8 with e | e
               · rw [e]; exact hob.out
               · refine .inr ⟨_, ?_, e⟩
                 simp; omega)
             have hown9 : Hid (w8.ownsRow w.heap.size 133 3 v' (j + 1) (ncl M (l.take (j + 1)))) := W_hid (by rw [htake.out, ncl_app, ncl_one, hone.out]; exact ho8)
             clear ho8 hg8 hb8))
      all_goals
        go_wp2_with fail
        go_roundw
        case rel => exact ⟨j + 1, by omega, by go_num, hown9, hob8, hT10⟩
        case measure => simp [intOf]; omega
    · obtain rfl : j = N := by omega
      have hfin := hown.out
      rw [List.take_of_length_le (Nat.le_of_eq hlN.out)] at hfin
      have hfin := W_hid hfin
      go_wp2_with fail
      go_ret
      exact ⟨_, l, rfl, hR.out.1, hR.out.2, by rw [hlN.out]; exact hfin.out, belr.out⟩
end NT
end Go.Proofs.YtmnmheocmcmpmaaGreat

namespace Go.Proofs.YtmnmheocmcmpmaaGreat
open Go.ChangeShapes Go.WideShapes Go.ChangeAt Go.RowKit
set_option linter.unusedVariables false
set_option linter.unusedSimpArgs false
namespace RN
open IN (Keeps)
open NT (Dr Ds er nu findR)
def RT (_ : Nat) (o : Obj) : Prop := (∃ c s, o = .cells c 118 s) ∨ ∃ c s, o = .cells c 115 s
section
variable {base : Nat} {w w' : World} {rt rg : Nat} {v : Value} {q : List QE}
theorem DM.set {g cap N : Nat} (h : DM base w rt rg (.slice (some ⟨g, 0, none⟩) N cap) q) (hN : q.length = N) {i : Nat} (hi : i < q.length) (m : Nat) (u : Value) (hm : m < 3) (x : QE) (hx : (qrow q[i]).set m u = qrow x) :
    DM base (w.setCell ⟨g, i * 3 + m, none⟩ u) rt rg (.slice (some ⟨g, 0, none⟩) N cap) (q.set i x) ∧ Keeps base RT w (w.setCell ⟨g, i * 3 + m, none⟩ u) := by
  subst hN
  obtain ⟨g', cap', e, hb, hlt, hne, -⟩ := h.el hi
  simp only [Value.slice.injEq, Option.some.injEq, Addr.mk.injEq, and_true, true_and] at e
  obtain ⟨rfl, rfl⟩ := e
  have hs := (h.row.stored (i * 3 + m) u).1
  rw [qcl_set q i hi m u hm x hx] at hs
  refine ⟨⟨h.box.far (p := ⟨g, i * 3 + m, none⟩) (fun e => hne e.symm) u, by rw [List.length_set]; exact hs, h.ge⟩, ?_⟩
  rcases h.row.2 with ⟨e, _⟩ | ⟨g', cap', cur, e, _, hg, _⟩
  · simp at e
  · simp only [Value.slice.injEq, Option.some.injEq, Addr.mk.injEq, and_true, true_and] at e
    obtain ⟨rfl, rfl⟩ := e
    exact (Keeps.refl base RT w).setCell (p := ⟨g, i * 3 + m, none⟩) hg (.inr ⟨_, _, rfl⟩) hb u
def setL (x : DD) (nl : List (ByteArray × Int × Int)) : DD := ⟨x.ino, x.up, nl⟩
theorem DT.names {l : List DD} {n : Int} (h : DT base w rt rg l) (hn : ix l n < l.length) : ∃ g cap, w.cell? ⟨rt, 1, none⟩ = some (.slice (some ⟨g, 0, none⟩) l.length cap) ∧ l.length ≤ cap ∧ base ≤ g ∧ g < w.heap.size ∧ (∀ j, w.frozen? ⟨g, j, none⟩ = false) ∧ ∀ (w1 : World) (hb : Below w.heap.size w w1) (u : Value) (nl : List (ByteArray × Int × Int)), NE w1 u nl → nl.length ≤ 100000 → (∀ y ∈ nl, y.2.1 ≠ 0) →
    DT base (w1.setCell ⟨g, ix l n * 3 + 2, none⟩ u) rt rg (l.set (ix l n) (setL l[ix l n] nl)) ∧ Keeps base RT w (w1.setCell ⟨g, ix l n * 3 + 2, none⟩ u) := by
  obtain ⟨v, q, h1, h2⟩ := h.ex
  have hl := h2.len
  obtain ⟨g, cap, rfl, hbg, hg, -, h5, -, hfz, -⟩ := h1.el (i := ix l n) (by omega)
  have h7 := h1.box.cell (j := 1) rfl
  rw [hl] at h7 h5
  refine ⟨g, cap, h7, h5, hbg, hg, hfz, fun w1 hb u nl hNE hlen hnos => ?_⟩
  have hq : ix l n < q.length := by omega
  obtain ⟨s1, s2⟩ := (h1.keep hb).set rfl hq 2 u (by decide) ⟨q[ix l n].ino, q[ix l n].up, u⟩ rfl
  have hF := h2.keep hb
  have hQ := hF.at_ (ix l n) hq hn
  refine ⟨⟨⟨_, _, s1, (hF.set (ix l n) (x := ⟨q[ix l n].ino, q[ix l n].up, u⟩) (y := setL l[ix l n] nl) ⟨hQ.ino, hQ.up, hNE⟩).keeps s2 (by simp [RT])⟩, ⟨by rw [List.length_set]; exact h.few.len, fun x hx => ?_, fun x hx => ?_⟩⟩, (Keeps.new hb h1.low).trans s2⟩
  · rcases List.mem_or_eq_of_mem_set hx with hx | rfl
    · exact h.few.names x hx
    · exact hlen
  · rcases List.mem_or_eq_of_mem_set hx with hx | rfl
    · exact h.few.nos x hx
    · exact hnos
theorem range_three {w : World} {g o : Nat} {a b c : Value} (h0 : w.cell? ⟨g, o, none⟩ = some a) (h1 : w.cell? ⟨g, o + 1, none⟩ = some b) (h2 : w.cell? ⟨g, o + 2, none⟩ = some c) : w.rangeAt g o [a, b, c] := by
  intro j v hj
  match j, hj with
  | 0, hj => cases hj; exact h0
  | 1, hj => cases hj; exact h1
  | 2, hj => cases hj; exact h2
theorem krow_src (w : World) (x : ByteArray × Int × Int) : Own.Src (w.alloc (.cells #[.string x.1, .int .i64 x.2.1, .int .i64 x.2.2] 133)) 3 (.slice (some ⟨w.heap.size, 0, none⟩) 1 1) 1 (kcl [x]) := by
  rw [kcl_one]
  exact NT.nm_src _ _ _ _ _ (Blk.new w 133 [.string x.1, .int .i64 x.2.1, .int .i64 x.2.2] rfl)
theorem krow_one (x : ByteArray × Int × Int) : ∀ u ∈ kcl [x], u.oneCell' = true := by
  rw [kcl_one]
  exact NT.nm_one _ _ _
def dropL (k : ByteArray) (l : List (ByteArray × Int × Int)) : List (ByteArray × Int × Int) := l.filter fun x => decide (x.1 ≠ k)
theorem take_snoc3 (l : List (ByteArray × Int × Int)) (j : Nat) (h : j < l.length) (k : ByteArray) : dropL k (l.take (j + 1)) = dropL k (l.take j) ++ (if l[j].1 = k then [] else [l[j]]) := by
  rw [List.take_succ_eq_append_getElem h]
  unfold dropL
  rw [List.filter_append]
  congr 1
  by_cases e : l[j].1 = k <;> simp [e]
set_option maxRecDepth 100000 in
set_option maxHeartbeats 8000000 in
theorem rdrop_any (n : Int) (k : ByteArray) {l : List DD} (w : World) (h : DT base w rt rg l) (hn : ix l n < l.length) :
    Calls Tryz.prog 133 #[.pointer (some ⟨rt, 0, none⟩), .int .i64 n, .string k] w fun e w' => e = .returned (.tuple #[]) ∧ DT base w' rt rg (l.set (ix l n) (setL l[ix l n] (dropL k l[ix l n].l))) ∧ Keeps base RT w w' := by
  have hda : dirA l n = (ix l n : Int) := by unfold dirA; rw [if_pos hn]
  have cD := dir_t n h
  rw [hda] at cD
  obtain ⟨g, cap, v, c1, hcap, c2, hNE⟩ := h.at_l hn
  obtain ⟨g', cap', c1', -, hbg, hgl, hfz, hset⟩ := h.names hn
  rw [c1] at c1'
  simp only [Option.some.injEq, Value.slice.injEq, Addr.mk.injEq, and_true, true_and] at c1'
  obtain ⟨rfl, rfl⟩ := c1'
  have HF := W_hid (fun (W : World) (hb : Below w.heap.size w W) => show ∀ j, W.frozen? ⟨g, j, none⟩ = false from by
    obtain ⟨g2, cap2, c2', -, -, -, hf2, -⟩ := (h.keep hb).names hn
    have := (hb.cell (World.block_lt_of_cell? w _ c1)).trans c1
    rw [this] at c2'
    simp only [Option.some.injEq, Value.slice.injEq, Addr.mk.injEq, and_true, true_and] at c2'
    rw [c2'.1]
    exact hf2)
  have hlen := h.few.names _ (List.getElem_mem hn)
  have hnos := h.few.nos _ (List.getElem_mem hn)
  generalize l[ix l n] = X at *
  obtain ⟨xi, xu, nl⟩ := X
  simp only [setL] at *
  have hset := W_hid hset
  have hnos := W_hid hnos
  generalize l.set (ix l n) = Y at *
  have hK : ((ix l n : Nat) : Int) < (l.length : Int) := by omega
  generalize ix l n = K at *
  generalize hL : l.length = LL at *
  obtain ⟨ao, cc, rfl⟩ := hNE.form
  obtain ⟨N, hN⟩ : ∃ N, nl.length = N := ⟨_, rfl⟩
  rw [hN] at c2 hNE hlen
  have hNE := W_hid hNE
  replace hN := W_hid hN
  replace cD := W_hid cD
  have hgl1 := World.block_lt_of_cell? w _ c1
  clear h hn hda hL
  have HC := W_hid (And.intro c1 (And.intro c2 (And.intro hfz (And.intro hgl hgl1))))
  clear c1 c2 hfz hgl hgl1
  go_enter Tryz.func133, Tryz.ntmps133
  go_wp2_with fail
  refine cD.out.mono ?_
  rintro e w1 ⟨rfl, rfl⟩
  go_wp2_with fail
  go_loopw [8, 7] (fun i out wr => ∃ (j m : Nat), j ≤ N ∧ m ≤ j ∧ i = .int .i64 (j : Int) ∧ Hid (wr.ownsRow w.heap.size 133 3 out m (kcl (dropL k (nl.take j)))) ∧ Hid (Below w.heap.size w wr)) (fun i _ _ => N - (intOf i).toNat)
  case atStart => exact ⟨0, 0, Nat.zero_le _, Nat.le_refl _, rfl, W_hid (World.ownsRow_nil _ _ _ _), W_hid (Below.refl _ _)⟩
  case round =>
    obtain ⟨j, m, hj, hm, rfl, hown, hb⟩ := hrel
    have c1 : wr.cell? ⟨rt, 1, none⟩ = _ := (hb.out.cell HC.out.2.2.2.2).trans HC.out.1
    have c2 : wr.cell? ⟨g, K * 3 + 2, none⟩ = _ := (hb.out.cell HC.out.2.2.2.1).trans HC.out.2.1
    by_cases hlt : j < N
    · have hjn : j < nl.length := by rw [hN.out]; exact hlt
      have hNr := (show NE w (.slice ao nl.length cc) nl by rw [hN.out]; exact hNE.out).move (w' := wr) fun b cur hc => hb.out.block b (IN.lt_of_some hc)
      obtain ⟨g2, cc2, hv, hg2, -, -, s0, s1, s2⟩ := hNr.el hjn
      simp only [Value.slice.injEq] at hv
      obtain ⟨rfl, -, -⟩ := hv
      have htk := take_snoc3 nl j hjn k
      obtain ⟨⟨y1, y2, y3⟩, hy⟩ : ∃ y, nl[j] = y := ⟨_, rfl⟩
      rw [hy] at s0 s1 s2 htk
      simp only at s0 s1 s2 htk
      have hR := W_hid (range_three s0 s1 s2)
      clear hNr hjn hy
      by_cases hk : y1 = k
      · subst hk
        rw [if_pos rfl, List.append_nil] at htk
        rw [← htk] at hown
        clear htk s1 s2
        go_wp2_with fail
        go_roundw
        case rel => exact ⟨j + 1, m, by omega, by omega, by go_num, hown, hb⟩
        case measure => simp [intOf]; omega
      · rw [if_neg hk] at htk
        have hx1 : (y1.toList == k.toList) = false := by
          simp only [beq_eq_false_iff_ne, ne_eq]
          exact fun e => hk (list_inj e)
        have hx2 : (y1.toList = k.toList) = False := eq_false fun e => hk (list_inj e)
        replace htk := W_hid htk
        have hsrc := W_hid (krow_src wr (y1, y2, y3))
        have hob := W_hid (Own.below hown.out ((Below.refl _ wr).alloc (Nat.le_refl _) (.cells #[.string y1, .int .i64 y2, .int .i64 y3] 133)))
        have hb2 := W_hid (hb.out.alloc hb.out.size (.cells #[.string y1, .int .i64 y2, .int .i64 y3] 133))
        have hws := hb.out.size
        clear hk s1 s2
        go_wp2_with (first
          | (refine wpList_load_mid rfl 133 (.tmp 49) rfl g2 (j * 3) rfl [.string y1, .int .i64 y2, .int .i64 y3] _ hR.out Tryz.underlying133 rfl (by kernel_rfl) ?_)
          | (at_builtin; refine Own.wpList_app rfl (.tmp 39) (.tmp 51) 56 rfl Tryz.underlying56 NT.info_name _ (.slice (some ⟨wr.heap.size, 0, none⟩) 1 1) rfl rfl hob.out (by simp; omega) hsrc.out (krow_one _) (by unfold maxLen; omega) (by omega) ?_; intro v' w8 ho8 hg8 hb8))
        have hown9 : Hid (w8.ownsRow w.heap.size 133 3 v' (m + 1) (kcl (dropL k (nl.take (j + 1))))) := W_hid (by rw [htk.out, kcl_app]; exact ho8)
        have hb9 : Hid (Below w.heap.size w w8) := W_hid (hb2.out.grown hg8 hb2.out.size (fun q hq => Own.ge hob.out q hq))
        go_roundw
        case rel => exact ⟨j + 1, m + 1, by omega, by omega, by go_num, hown9, hb9⟩
        case measure => simp [intOf]; omega
    · obtain rfl : j = N := by omega
      have hfz := HF.out wr hb.out
      have hown9 := hown.out
      rw [List.take_of_length_le (Nat.le_of_eq hN.out)] at hown9
      obtain ⟨ao3, c3, rfl⟩ := Own.form hown9
      have hlm : (dropL k nl).length = m := by
        have := hown9.1
        rw [kcl_len] at this
        omega
      have hfin := W_hid (hset.out wr hb.out _ (dropL k nl) ⟨w.heap.size, by rw [hlm]; exact hown9⟩ (by rw [hlm]; omega) (fun y hy => hnos.out y ((List.mem_filter.1 hy).1)))
      clear hown9 hlm
      go_wp2_with fail
      go_end0
      exact ⟨rfl, hfin.out⟩
end
end RN
end Go.Proofs.YtmnmheocmcmpmaaGreat

namespace Go.Proofs.YtmnmheocmcmpmaaGreat
open Go.ChangeShapes Go.WideShapes Go.ChangeAt Go.RowKit Go.Maps
set_option linter.unusedVariables false
set_option linter.unusedSimpArgs false
namespace NT
theorem res_paths {fn : Func} {r s t : Tmp} (hres : fn.results = #[.cell r 136, .cell s 136, .tmp t]) (tmps : Array Value) (w : World) {g g2 : Nat} {a b c a2 b2 c2 : Value} (hr : tmps.getD r undef = .pointer (some ⟨g, 0, none⟩)) (hs : tmps.getD s undef = .pointer (some ⟨g2, 0, none⟩)) (h : Blk w g 136 [a, b, c]) (h2 : Blk w g2 136 [a2, b2, c2]) :
    (results fn tmps).run Tryz.prog w = .ok (.tuple #[.agg #[a, b, c], .agg #[a2, b2, c2], tmps.getD t undef]) w := by
  have d0 := h.cell (j := 0) rfl
  have d1 := h.cell (j := 1) rfl
  have d2 := h.cell (j := 2) rfl
  have e0 := h2.cell (j := 0) rfl
  have e1 := h2.cell (j := 1) rfl
  have e2 := h2.cell (j := 2) rfl
  rw [Array.getD_eq_getD_getElem?] at hr hs
  simp [results, hres, go_sem, hr, hs, d0, d1, d2, e0, e1, e2]
theorem blk_set3 {w : World} {g : Nat} {e : TypeId} {a b c a' b' c' : Value} (h : Blk w g e [a, b, c]) : Blk (((w.setCell ⟨g, 0, none⟩ a').setCell ⟨g, 1, none⟩ b').setCell ⟨g, 2, none⟩ c') g e [a', b', c'] :=
  ((h.set 0 a').set 1 b').set 2 c'
theorem blk_far3 {w : World} {g g2 : Nat} {e : TypeId} {l : List Value} (h : Blk w g e l) (hg : g ≠ g2) (a b c : Value) : Blk (((w.setCell ⟨g2, 0, none⟩ a).setCell ⟨g2, 1, none⟩ b).setCell ⟨g2, 2, none⟩ c) g e l :=
  ((h.far (p := ⟨g2, 0, none⟩) hg a).far (p := ⟨g2, 1, none⟩) hg b).far (p := ⟨g2, 2, none⟩) hg c
theorem below3 {w w' : World} {B g : Nat} (h : Below B w w') (hg : B ≤ g) (a b c : Value) : Below B w (((w'.setCell ⟨g, 0, none⟩ a).setCell ⟨g, 1, none⟩ b).setCell ⟨g, 2, none⟩ c) :=
  ((h.setCell (p := ⟨g, 0, none⟩) hg a).setCell (p := ⟨g, 1, none⟩) hg b).setCell (p := ⟨g, 2, none⟩) hg c
theorem blk_drew {w : World} {g : Nat} {e : TypeId} {l : List Value} (h : Blk w g e l) : Blk w.drew g e l := h
theorem ss_drew {w : World} {ao : Option Addr} {n cap : Nat} {l : List ByteArray} (h : SS w ao n cap l) : SS w.drew ao n cap l := h
theorem parsed2 {s : ByteArray} {w : World} (hs : s.size ≤ maxLen) : Calls Tryz.prog 75 #[.string s] w fun e w' => ∃ ao n cap, e = .returned (.tuple #[.agg #[.bool (PM.pA s), .slice ao n cap, .bool (PM.pD s)], .int .i64 (PM.perr s)]) ∧ (SS w' ao n cap (PM.pN s) ∧ ∀ a, ao = some a → w.heap.size ≤ a.block) ∧ Below w.heap.size w w' :=
  (Parse_all s w hs).mono fun e w' h => by
    obtain ⟨v, rfl, hown, hb⟩ := h
    obtain ⟨ao, cap, rfl⟩ := own_form hown
    refine ⟨ao, _, cap, rfl, ⟨SS_own hown, fun a ha => ?_⟩, hb⟩
    subst ha
    rcases hown.2 with ⟨h', _⟩ | ⟨g, cap', cur, h', hg, _⟩
    · simp at h'
    · simp only [Value.slice.injEq, Option.some.injEq] at h'
      obtain ⟨rfl, -, -⟩ := h'
      exact hg
theorem SS_far {w : World} {ao : Option Addr} {n cap : Nat} {l : List ByteArray} (h : SS w ao n cap l) {p : Addr} (hp : ∀ a, ao = some a → a.block ≠ p.block) (u : Value) : SS (w.setCell p u) ao n cap l :=
  ⟨h.1, h.2.1, h.2.2.1, h.2.2.2.1, fun a ha j v hv => by
    have ea : (a.add j).block = a.block := by unfold Addr.add; split <;> rfl
    rw [World.cell?_of_block (w := w) (w' := w.setCell p u) (a := a.add j) (by rw [ea]; exact Below.heap_setCell w p u _ (hp a ha))]
    exact h.2.2.2.2 a ha j v hv⟩
theorem SS_far3 {w : World} {ao : Option Addr} {n cap : Nat} {l : List ByteArray} {g : Nat} (h : SS w ao n cap l) (hp : ∀ a, ao = some a → a.block ≠ g) (a b c : Value) : SS (((w.setCell ⟨g, 0, none⟩ a).setCell ⟨g, 1, none⟩ b).setCell ⟨g, 2, none⟩ c) ao n cap l :=
  SS_far (SS_far (SS_far h (p := ⟨g, 0, none⟩) hp a) (p := ⟨g, 1, none⟩) hp b) (p := ⟨g, 2, none⟩) hp c
set_option maxRecDepth 100000 in
set_option maxHeartbeats 4000000 in
theorem parse2_first (s t : ByteArray) (hs : s.size ≤ maxLen) (w : World) (he : PM.perr s ≠ 0) :
    Calls Tryz.prog 77 #[.string s, .string t] w fun e w' => e = .returned (.tuple #[.agg #[.bool false, .slice none 0 0, .bool false], .agg #[.bool false, .slice none 0 0, .bool false], .int .i64 (PM.perr s)]) ∧ Below w.heap.size w w' := by
  have cP := W_hid (parsed (w := (w.alloc (.cells #[.bool false, .slice none 0 0, .bool false] 136)).alloc (.cells #[.bool false, .slice none 0 0, .bool false] 136)) hs)
  have b0 := new2 w (.cells #[.bool false, .slice none 0 0, .bool false] 136) (.cells #[.bool false, .slice none 0 0, .bool false] 136)
  generalize PM.perr s = pe at cP he ⊢
  have hne : (pe == 0) = false := by simpa using he
  go_enter Tryz.func77, Tryz.ntmps77
  go_wp2_with fail
  refine cP.out.mono ?_
  rintro e w1 ⟨ao, n, cap, rfl, hS, b1⟩
  have n1 : Blk w1 w.heap.size 136 [.bool false, .slice none 0 0, .bool false] := ((Blk.new _ _ _ rfl).alloc _).keep b1
  have n2 : Blk w1 (w.heap.size + 1) 136 [.bool false, .slice none 0 0, .bool false] := (Blk.new _ _ _ (by simp)).keep b1
  have c10 := n1.cell (j := 0) rfl
  have c11 := n1.cell (j := 1) rfl
  have c12 := n1.cell (j := 2) rfl
  have f1 := n1.fz
  have c20 := n2.cell (j := 0) rfl
  have c21 := n2.cell (j := 1) rfl
  have c22 := n2.cell (j := 2) rfl
  have f2 := n2.fz
  have hgg : w.heap.size + 1 ≠ w.heap.size := by omega
  have n1a := blk_set3 n1 (a' := .bool (PM.pA s)) (b' := .slice ao n cap) (c' := .bool (PM.pD s))
  have n2a := blk_far3 n2 hgg (.bool (PM.pA s)) (.slice ao n cap) (.bool (PM.pD s))
  have n1b := blk_set3 n1a (a' := .bool false) (b' := .slice none 0 0) (c' := .bool false)
  have n2b := blk_far3 n2a hgg (.bool false) (.slice none 0 0) (.bool false)
  have N1 := blk_far3 n1b hgg.symm (.bool false) (.slice none 0 0) (.bool false)
  have N2 := blk_set3 n2b (a' := .bool false) (b' := .slice none 0 0) (c' := .bool false)
  have B1 := W_hid (below3 (below3 (below3 (b0.trans (b1.mono b0.size)) (Nat.le_refl _) (.bool (PM.pA s)) (.slice ao n cap) (.bool (PM.pD s))) (Nat.le_refl _) (.bool false) (.slice none 0 0) (.bool false)) (Nat.le_succ w.heap.size) (.bool false) (.slice none 0 0) (.bool false))
  have NN := W_hid (And.intro N1 (And.intro N2 B1))
  clear n1 n2 n1a n2a n1b n2b b1 b0 hS cP hgg N1 N2 B1
  go_wp2_with fail
  refine bodyPost_ret (res_paths Tryz.results77 _ _ rfl rfl NN.out.1 NN.out.2.1) rfl ?_
  exact ⟨rfl, NN.out.2.2.out⟩
set_option maxRecDepth 100000 in
set_option maxHeartbeats 8000000 in
theorem parse2_second (s t : ByteArray) (hs : s.size ≤ maxLen) (ht : t.size ≤ maxLen) (w : World) (h0 : PM.perr s = 0) (he : PM.perr t ≠ 0) :
    Calls Tryz.prog 77 #[.string s, .string t] w fun e w' => e = .returned (.tuple #[.agg #[.bool false, .slice none 0 0, .bool false], .agg #[.bool false, .slice none 0 0, .bool false], .int .i64 (PM.perr t)]) ∧ Below w.heap.size w w' := by
  have cP := W_hid (parsed (w := (w.alloc (.cells #[.bool false, .slice none 0 0, .bool false] 136)).alloc (.cells #[.bool false, .slice none 0 0, .bool false] 136)) hs)
  have cQ := fun w => W_hid (parsed (w := w) ht)
  have b0 := new2 w (.cells #[.bool false, .slice none 0 0, .bool false] 136) (.cells #[.bool false, .slice none 0 0, .bool false] 136)
  rw [h0] at cP
  generalize PM.perr t = pe at cQ he ⊢
  have hne : (pe == 0) = false := by simpa using he
  clear h0 he
  go_enter Tryz.func77, Tryz.ntmps77
  go_wp2_with fail
  refine cP.out.mono ?_
  rintro e w1 ⟨ao, n, cap, rfl, hS, b1⟩
  have n1 : Blk w1 w.heap.size 136 [.bool false, .slice none 0 0, .bool false] := ((Blk.new _ _ _ rfl).alloc _).keep b1
  have n2 : Blk w1 (w.heap.size + 1) 136 [.bool false, .slice none 0 0, .bool false] := (Blk.new _ _ _ (by simp)).keep b1
  have hgg : w.heap.size + 1 ≠ w.heap.size := by omega
  have c10 := n1.cell (j := 0) rfl
  have c11 := n1.cell (j := 1) rfl
  have c12 := n1.cell (j := 2) rfl
  have f1 := n1.fz
  have n1a := W_hid (blk_set3 n1 (a' := .bool (PM.pA s)) (b' := .slice ao n cap) (c' := .bool (PM.pD s)))
  have n2a := W_hid (blk_far3 n2 hgg (.bool (PM.pA s)) (.slice ao n cap) (.bool (PM.pD s)))
  have B1 := W_hid (below3 (b0.trans (b1.mono b0.size)) (Nat.le_refl _) (.bool (PM.pA s)) (.slice ao n cap) (.bool (PM.pD s)))
  clear n1 n2 b1 b0 hS cP
  go_wp2_with fail
  refine (cQ _).out.mono ?_
  rintro e w2 ⟨ao2, n2, cap2, rfl, hS2, b2⟩
  have m1 := n1a.out.keep b2
  have m2 := n2a.out.keep b2
  have d10 := m1.cell (j := 0) rfl
  have d11 := m1.cell (j := 1) rfl
  have d12 := m1.cell (j := 2) rfl
  have g1 := m1.fz
  have d20 := m2.cell (j := 0) rfl
  have d21 := m2.cell (j := 1) rfl
  have d22 := m2.cell (j := 2) rfl
  have g2 := m2.fz
  have N1 := (blk_far3 (blk_set3 (blk_far3 m1 hgg.symm (.bool (PM.pA t)) (.slice ao2 n2 cap2) (.bool (PM.pD t))) (a' := .bool false) (b' := .slice none 0 0) (c' := .bool false)) hgg.symm (.bool false) (.slice none 0 0) (.bool false))
  have N2 := (blk_set3 (blk_far3 (blk_set3 m2 (a' := .bool (PM.pA t)) (b' := .slice ao2 n2 cap2) (c' := .bool (PM.pD t))) hgg (.bool false) (.slice none 0 0) (.bool false)) (a' := .bool false) (b' := .slice none 0 0) (c' := .bool false))
  have B2 := W_hid (below3 (below3 (below3 (B1.out.trans (b2.mono B1.out.size)) (Nat.le_succ w.heap.size) (.bool (PM.pA t)) (.slice ao2 n2 cap2) (.bool (PM.pD t))) (Nat.le_refl _) (.bool false) (.slice none 0 0) (.bool false)) (Nat.le_succ w.heap.size) (.bool false) (.slice none 0 0) (.bool false))
  have NN := W_hid (And.intro N1 (And.intro N2 B2))
  clear m1 m2 b2 hS2 hgg n1a n2a B1 c10 c11 c12 f1 N1 N2 B2
  go_wp2_with fail
  refine bodyPost_ret (res_paths Tryz.results77 _ _ rfl rfl NN.out.1 NN.out.2.1) rfl ?_
  exact ⟨rfl, NN.out.2.2.out⟩
set_option maxRecDepth 100000 in
set_option maxHeartbeats 8000000 in
theorem parse2_yes (s t : ByteArray) (hs : s.size ≤ maxLen) (ht : t.size ≤ maxLen) (w : World) (h0 : PM.perr s = 0) (h1 : PM.perr t = 0) :
    Calls Tryz.prog 77 #[.string s, .string t] w fun e w' => ∃ ao n cap ao2 n2 cap2, e = .returned (.tuple #[.agg #[.bool (PM.pA s), .slice ao n cap, .bool (PM.pD s)], .agg #[.bool (PM.pA t), .slice ao2 n2 cap2, .bool (PM.pD t)], .int .i64 0]) ∧ SS w' ao n cap (PM.pN s) ∧ SS w' ao2 n2 cap2 (PM.pN t) ∧ Below w.heap.size w w' := by
  have cP := W_hid (parsed2 (w := (w.alloc (.cells #[.bool false, .slice none 0 0, .bool false] 136)).alloc (.cells #[.bool false, .slice none 0 0, .bool false] 136)) hs)
  have cQ := fun w => W_hid (parsed2 (w := w) ht)
  have b0 := new2 w (.cells #[.bool false, .slice none 0 0, .bool false] 136) (.cells #[.bool false, .slice none 0 0, .bool false] 136)
  rw [h0] at cP
  rw [h1] at cQ
  clear h0 h1
  go_enter Tryz.func77, Tryz.ntmps77
  go_wp2_with fail
  refine cP.out.mono ?_
  rintro e w1 ⟨ao, n, cap, rfl, ⟨hS, hSb⟩, b1⟩
  have n1 : Blk w1 w.heap.size 136 [.bool false, .slice none 0 0, .bool false] := ((Blk.new _ _ _ rfl).alloc _).keep b1
  have n2 : Blk w1 (w.heap.size + 1) 136 [.bool false, .slice none 0 0, .bool false] := (Blk.new _ _ _ (by simp)).keep b1
  have hgg : w.heap.size + 1 ≠ w.heap.size := by omega
  have c10 := n1.cell (j := 0) rfl
  have c11 := n1.cell (j := 1) rfl
  have c12 := n1.cell (j := 2) rfl
  have f1 := n1.fz
  have n1a := W_hid (blk_set3 n1 (a' := .bool (PM.pA s)) (b' := .slice ao n cap) (c' := .bool (PM.pD s)))
  have n2a := W_hid (blk_far3 n2 hgg (.bool (PM.pA s)) (.slice ao n cap) (.bool (PM.pD s)))
  have B1 := W_hid (below3 (b0.trans (b1.mono b0.size)) (Nat.le_refl _) (.bool (PM.pA s)) (.slice ao n cap) (.bool (PM.pD s)))
  have hSb' : ∀ a, ao = some a → w.heap.size + 2 ≤ a.block := fun a ha => by have := hSb a ha; simp at this; omega
  have hS1 := W_hid (And.intro hSb' (SS_far3 hS (g := w.heap.size) (fun a ha => by have := hSb' a ha; omega) (.bool (PM.pA s)) (.slice ao n cap) (.bool (PM.pD s))))
  have hsz1 := W_hid (show w.heap.size + 2 ≤ w1.heap.size from by have := b1.size; simpa using this)
  clear n1 n2 b1 b0 hS cP hSb hSb'
  go_wp2_with fail
  refine (cQ _).out.mono ?_
  rintro e w2 ⟨ao2, n2, cap2, rfl, ⟨hS2, hSb2⟩, b2⟩
  have m1 := n1a.out.keep b2
  have m2 := n2a.out.keep b2
  have d10 := m1.cell (j := 0) rfl
  have d11 := m1.cell (j := 1) rfl
  have d12 := m1.cell (j := 2) rfl
  have g1 := m1.fz
  have d20 := m2.cell (j := 0) rfl
  have d21 := m2.cell (j := 1) rfl
  have d22 := m2.cell (j := 2) rfl
  have g2 := m2.fz
  have hSb2' : ∀ a, ao2 = some a → w.heap.size + 2 ≤ a.block := fun a ha => by have h3 := hSb2 a ha; have h4 := hsz1.out; simp at h3; omega
  have hS3 := hS1.out.2.below b2 (Nat.le_refl _)
  have hS4 : (∀ a, ao = some a → w.heap.size + 2 ≤ a.block) ∧ (∀ a, ao2 = some a → w.heap.size + 2 ≤ a.block) ∧ SS (((w2.setCell ⟨w.heap.size + 1, 0, none⟩ (.bool (PM.pA t))).setCell ⟨w.heap.size + 1, 1, none⟩ (.slice ao2 n2 cap2)).setCell ⟨w.heap.size + 1, 2, none⟩ (.bool (PM.pD t))) ao n cap (PM.pN s) ∧ SS (((w2.setCell ⟨w.heap.size + 1, 0, none⟩ (.bool (PM.pA t))).setCell ⟨w.heap.size + 1, 1, none⟩ (.slice ao2 n2 cap2)).setCell ⟨w.heap.size + 1, 2, none⟩ (.bool (PM.pD t))) ao2 n2 cap2 (PM.pN t) :=
    ⟨hS1.out.1, hSb2', SS_far3 hS3 (fun a ha => by have := hS1.out.1 a ha; omega) _ _ _, SS_far3 hS2 (fun a ha => by have := hSb2' a ha; omega) _ _ _⟩
  have hW0 : Blk (((w2.setCell ⟨w.heap.size + 1, 0, none⟩ (.bool (PM.pA t))).setCell ⟨w.heap.size + 1, 1, none⟩ (.slice ao2 n2 cap2)).setCell ⟨w.heap.size + 1, 2, none⟩ (.bool (PM.pD t))) w.heap.size 136 [.bool (PM.pA s), .slice ao n cap, .bool (PM.pD s)] := blk_far3 m1 (by omega) _ _ _
  have hW1 : Blk (((w2.setCell ⟨w.heap.size + 1, 0, none⟩ (.bool (PM.pA t))).setCell ⟨w.heap.size + 1, 1, none⟩ (.slice ao2 n2 cap2)).setCell ⟨w.heap.size + 1, 2, none⟩ (.bool (PM.pD t))) (w.heap.size + 1) 136 [.bool (PM.pA t), .slice ao2 n2 cap2, .bool (PM.pD t)] := blk_set3 m2
  have NN := W_hid (And.intro hW0 (And.intro hW1 (And.intro (below3 (B1.out.trans (b2.mono B1.out.size)) (Nat.le_succ w.heap.size) (.bool (PM.pA t)) (.slice ao2 n2 cap2) (.bool (PM.pD t))) hS4)))
  clear m1 m2 b2 n1a n2a c10 c11 c12 f1 hW0 hW1 hS2 hS1 hS3 hS4 hSb2 hSb2' hsz1
  go_wp2_with fail
  obtain ⟨W, hW⟩ : ∃ W, ((w2.setCell ⟨w.heap.size + 1, 0, none⟩ (.bool (PM.pA t))).setCell ⟨w.heap.size + 1, 1, none⟩ (.slice ao2 n2 cap2)).setCell ⟨w.heap.size + 1, 2, none⟩ (.bool (PM.pD t)) = W := ⟨_, rfl⟩
  rw [hW] at NN ⊢
  have k0 := NN.out.1.cell (j := 0) rfl
  have k1 := NN.out.1.cell (j := 1) rfl
  have k2 := NN.out.1.cell (j := 2) rfl
  have kf := NN.out.1.fz
  have l0 := NN.out.2.1.cell (j := 0) rfl
  have l1 := NN.out.2.1.cell (j := 1) rfl
  have l2 := NN.out.2.1.cell (j := 2) rfl
  have lf := NN.out.2.1.fz
  clear d10 d11 d12 d20 d21 d22 g1 g2
  go_region
  have hg1 : w.heap.size + 1 ≠ w.heap.size := by omega
  have z0 := blk_far3 (blk_set3 NN.out.1 (a' := .bool (PM.pA s)) (b' := .slice ao n cap) (c' := .bool (PM.pD s))) hg1.symm (.bool (PM.pA t)) (.slice ao2 n2 cap2) (.bool (PM.pD t))
  have z1 := blk_set3 (blk_far3 NN.out.2.1 hg1 (.bool (PM.pA s)) (.slice ao n cap) (.bool (PM.pD s))) (a' := .bool (PM.pA t)) (b' := .slice ao2 n2 cap2) (c' := .bool (PM.pD t))
  have y0 := (below3 (below3 NN.out.2.2.1 (Nat.le_refl _) (.bool (PM.pA s)) (.slice ao n cap) (.bool (PM.pD s))) (Nat.le_succ w.heap.size) (.bool (PM.pA t)) (.slice ao2 n2 cap2) (.bool (PM.pD t))).drew
  have s1 := SS_far3 (SS_far3 NN.out.2.2.2.2.2.1 (g := w.heap.size) (fun a ha => by have := NN.out.2.2.2.1 a ha; omega) (.bool (PM.pA s)) (.slice ao n cap) (.bool (PM.pD s))) (g := w.heap.size + 1) (fun a ha => by have := NN.out.2.2.2.1 a ha; omega) (.bool (PM.pA t)) (.slice ao2 n2 cap2) (.bool (PM.pD t))
  have s2 := SS_far3 (SS_far3 NN.out.2.2.2.2.2.2 (g := w.heap.size) (fun a ha => by have := NN.out.2.2.2.2.1 a ha; omega) (.bool (PM.pA s)) (.slice ao n cap) (.bool (PM.pD s))) (g := w.heap.size + 1) (fun a ha => by have := NN.out.2.2.2.2.1 a ha; omega) (.bool (PM.pA t)) (.slice ao2 n2 cap2) (.bool (PM.pD t))
  obtain ⟨V, hV⟩ : ∃ V, ((((((W.setCell ⟨w.heap.size, 0, none⟩ (.bool (PM.pA s))).setCell ⟨w.heap.size, 1, none⟩ (.slice ao n cap)).setCell ⟨w.heap.size, 2, none⟩ (.bool (PM.pD s))).setCell ⟨w.heap.size + 1, 0, none⟩ (.bool (PM.pA t))).setCell ⟨w.heap.size + 1, 1, none⟩ (.slice ao2 n2 cap2)).setCell ⟨w.heap.size + 1, 2, none⟩ (.bool (PM.pD t))).drew = V := ⟨_, rfl⟩
  have NF := W_hid (show Blk V w.heap.size 136 [.bool (PM.pA s), .slice ao n cap, .bool (PM.pD s)] ∧ Blk V (w.heap.size + 1) 136 [.bool (PM.pA t), .slice ao2 n2 cap2, .bool (PM.pD t)] ∧ Below w.heap.size w V ∧ SS V ao n cap (PM.pN s) ∧ SS V ao2 n2 cap2 (PM.pN t) from by
    rw [← hV]
    exact ⟨blk_drew z0, blk_drew z1, y0, ss_drew s1, ss_drew s2⟩)
  rw [hV]
  clear z0 z1 y0 s1 s2 k0 k1 k2 kf l0 l1 l2 lf NN hW hV
  go_wp2_with fail
  refine bodyPost_ret (res_paths Tryz.results77 _ _ rfl rfl NF.out.1 NF.out.2.1) rfl ?_
  exact ⟨_, _, _, _, _, _, rfl, NF.out.2.2.2.1, NF.out.2.2.2.2, NF.out.2.2.1⟩
end NT
end Go.Proofs.YtmnmheocmcmpmaaGreat

namespace Go.Proofs.YtmnmheocmcmpmaaGreat
open Go.ChangeShapes Go.WideShapes Go.ChangeAt Go.RowKit
set_option linter.unusedVariables false
set_option linter.unusedSimpArgs false
namespace NT
theorem u8_under : Tryz.prog.underlying 249 = some (.slice 5) := by kernel_rfl
theorem u8_info : (Tryz.prog.info? 5).map (fun i => (i.zero, i.size, i.bytes)) = some (some (.int .u8 0), 1, 1) := by kernel_rfl
theorem pu8_under : Tryz.prog.underlying 264 = some (.pointer 5) := by kernel_rfl
set_option maxRecDepth 100000 in
set_option maxHeartbeats 4000000 in
theorem clone_any (s : ByteArray) (w : World) (hlim : s.size ≤ 281474976710656) :
    Calls Tryz.prog 197 #[.string s] w fun e w' => e = .returned (.string s) ∧ Below w.heap.size w w' := by
  by_cases h0 : s.size = 0
  · have hs : s = ⟨#[]⟩ := ByteArray.ext (Array.eq_empty_of_size_eq_zero h0)
    subst hs
    go_enter Tryz.func197, Tryz.ntmps197
    go_wp2_with fail
    go_ret
    exact ⟨rfl, Below.refl _ _⟩
  · obtain ⟨i0, hi, hz0, hz1, hz2⟩ := info_parts u8_info
    have hinfo : (Tryz.prog.info? 5).map (·.size) = some 1 := by rw [hi]; simp [hz1]
    have hco : Tryz.prog.cellsOf 5 = 1 := by simp [Program.cellsOf, hi, hz1]
    obtain ⟨N, hN⟩ : ∃ N, N = madeCells (Value.int .u8 0).cells (((s.size : Nat) : Int).toNat * i0.size) := ⟨_, rfl⟩
    have hNs : N.size = s.size := by rw [hN, size_madeCells, hz1]; simp
    have hmk : ∀ W : World, (Instr.makeSlice 249 (.int .i64 (s.size : Int)) (.int .i64 (s.size : Int))).run Tryz.prog W = .ok (.slice (some ⟨W.heap.size, 0, none⟩) s.size s.size) (W.alloc (.cells N 5)) := fun W => by
      have h := run_make (P := Tryz.prog) W 249 5 i0 (.int .u8 0) u8_under hi hz0 .i64 .i64 (s.size : Int) (s.size : Int) (by omega) (by omega) (by rw [hz2]; omega) (by omega)
      rw [← hN] at h
      simpa using h
    clear hN
    have hcp := Lib.run_copy_row_string (P := Tryz.prog) (w.alloc (.cells N 5)) 249 9 3 5 w.heap.size 0 s.size s.size s N 5 u8_under hinfo (heap_alloc_new w _) (Nat.le_refl _) (by omega)
    obtain ⟨Y, hY⟩ : ∃ Y, Y = (N.toList.take 0 ++ Lib.byteCells s.data.toList ++ N.toList.drop (0 + s.size)).toArray := ⟨_, rfl⟩
    rw [← hY] at hcp
    have hYl : Y.toList = Lib.byteCells s.data.toList := by
      rw [hY, List.toList_toArray, List.take_zero, List.nil_append, List.drop_of_length_le (by rw [Array.length_toList]; omega), List.append_nil]
    have hYs : Y.size = s.size := by rw [← Array.length_toList, hYl, Lib.byteCells_length, ← Lib.size_eq]
    have hgY : ((w.alloc (.cells N 5)).setRow w.heap.size Y).heap[w.heap.size]? = some (.cells Y 5 (0, 0)) := setRow_heap _ _ N _ 5 (0, 0) (heap_alloc_new w _)
    have hne : s.data.toList ≠ [] := fun e => h0 (by rw [Lib.size_eq, e]; rfl)
    have hUS := Lib.run_unsafeString_row (P := Tryz.prog) ((w.alloc (.cells N 5)).setRow w.heap.size Y) 264 3 9 5 pu8_under hco w.heap.size Y.size (by unfold World.shape?; rw [hgY]) s.data.toList hne (by rw [← Lib.size_eq]; omega) (by rw [← Lib.size_eq]; omega)
      (fun j x hx => Lib.cells_of_row hgY Y.size j _ (by rw [List.take_of_length_le (by rw [Array.length_toList]; exact Nat.le_refl _), hYl]; simp [Lib.byteCells, hx]))
    rw [← Lib.size_eq] at hUS
    clear hY
    go_enter Tryz.func197, Tryz.ntmps197
    go_wp2
    go_ret
    have hb1 : Below w.heap.size w (w.alloc (.cells N 5)) := (Below.refl _ w).alloc (Nat.le_refl _) _
    have hb2 : Below w.heap.size (w.alloc (.cells N 5)) ((w.alloc (.cells N 5)).setRow w.heap.size Y) := ⟨rfl, rfl, rfl, by simp, fun k hk => setRow_other _ _ _ _ (by omega)⟩
    exact ⟨rfl, Lib.below_freeze (hb1.trans hb2) (p := ⟨w.heap.size, 0, none⟩) (Nat.le_refl _) _⟩
set_option maxRecDepth 100000 in
set_option maxHeartbeats 1000000 in
theorem Clone_any (s : ByteArray) (w : World) (hlim : s.size ≤ 281474976710656) :
    Calls Tryz.prog 156 #[.string s] w fun e w' => e = .returned (.string s) ∧ Below w.heap.size w w' := by
  have c := W_hid (clone_any s w hlim)
  go_enter Tryz.func156, Tryz.ntmps156
  go_wp2_with fail
  refine c.out.mono ?_
  rintro e w1 ⟨rfl, b1⟩
  go_wp2_with fail
  go_ret
  exact ⟨rfl, b1⟩
end NT
end Go.Proofs.YtmnmheocmcmpmaaGreat

namespace Go.Proofs.YtmnmheocmcmpmaaGreat
open Go.ChangeShapes Go.WideShapes Go.ChangeAt Go.RowKit Go.Maps
set_option linter.unusedVariables false
set_option linter.unusedSimpArgs false
namespace NT
open IN (Keeps)
def One (m k : Nat) (o : Obj) : Prop := k = m ∧ ∃ es c, o = .map es c
def OneD (g k : Nat) (o : Obj) : Prop := k = g ∧ ∃ c s, o = .cells c 163 s
set_option maxRecDepth 100000 in
set_option maxHeartbeats 4000000 in
theorem remove_any (base g m : Nat) (u : Int) (pu : Option Nat) (M : ByteArray → Option (Int × Option Nat)) (k : ByteArray) (hk : NS.Sm k) (w : World) (h : DB w g u pu m M) (hb : base ≤ m) :
    Calls Tryz.prog 147 #[.pointer (some ⟨g, 0, none⟩), .string k] w fun e w' => e = .returned (.tuple #[]) ∧ NS.MB w' m (NS.upd M k none) ∧ Keeps base (One m) w w' := by
  have c2 := h.1.cell (j := 2) rfl
  have hd := fun ty => h.2.del k hk ty
  obtain ⟨es, c, hm⟩ := h.2.obj
  have hd2 : ∃ w2, (∀ ty, (Builtin.delete_ #[161, 9] ty #[.map (some m), .string k]).run Tryz.prog w = .ok (.tuple #[]) w2) ∧ NS.MB w2 m (NS.upd M k none) ∧ w.grownBy w2 (some m) := by
    obtain ⟨w2, h1, h2, h3, -⟩ := hd 0
    refine ⟨w2, fun ty => ?_, h2, h3⟩
    exact h1
  obtain ⟨w2, h1, h2, h3⟩ := hd2
  have hK := W_hid ((Keeps.refl base (One m) w).grown hm ⟨rfl, _, _, rfl⟩ hb h3)
  have h2 := W_hid h2
  clear h hd hm h3
  go_enter Tryz.func147, Tryz.ntmps147
  go_wp2_with fail
  go_end0
  exact ⟨rfl, h2.out, hK.out⟩
set_option maxRecDepth 100000 in
set_option maxHeartbeats 4000000 in
theorem put_any (base g m : Nat) (u : Int) (pu : Option Nat) (M : ByteArray → Option (Int × Option Nat)) (k : ByteArray) (hk : k.size ≤ 281474976710656) (n : Int) (x : Option Nat) (w : World) (h : DB w g u pu m M) (hb : base ≤ m) (hfew : ∀ ss, NS.Nums M ss → ss.length < 65536) :
    Calls Tryz.prog 87 #[.pointer (some ⟨g, 0, none⟩), .string k, NS.nv (n, x)] w fun e w' => e = .returned (.tuple #[]) ∧ NS.MB w' m (NS.upd M k (some (n, x))) ∧ Keeps base (One m) w w' := by
  have hk2 : NS.Sm k := by unfold NS.Sm maxLen; omega
  have cC := fun w => W_hid (Clone_any k w hk)
  have b0 : Below w.heap.size w (w.alloc (.cells #[.int .i64 n, IS.ptr x] 141)) := (Below.refl _ w).alloc (Nat.le_refl _) _
  have hlow : base ≤ w.heap.size := Nat.le_trans hb (Nat.le_of_lt h.2.lt)
  have fin : ∀ w1, Below (w.alloc (.cells #[.int .i64 n, IS.ptr x] 141)).drew.heap.size (w.alloc (.cells #[.int .i64 n, IS.ptr x] 141)).drew w1 → w1.cell? ⟨g, 2, none⟩ = some (.map (some m)) ∧ w1.cell? ⟨w.heap.size, 0, none⟩ = some (.int .i64 n) ∧ w1.cell? ⟨w.heap.size, 1, none⟩ = some (IS.ptr x) ∧ ∃ w2, (Instr.mapUpdate 161 (.map (some m)) (.string k) (NS.nv (n, x))).run Tryz.prog w1 = .ok () w2 ∧ Hid (NS.MB w2 m (NS.upd M k (some (n, x))) ∧ Keeps base (One m) w w2) := fun w1 b1 => by
    have b1' : Below w.heap.size w w1 := b0.trans ((bundrew b1).mono b0.size)
    have h1 := h.keep b1'
    have n1 : Blk w1 w.heap.size 141 [.int .i64 n, IS.ptr x] := (Blk.new _ _ _ rfl).keep (bundrew b1)
    obtain ⟨w2, r1, r2, r3, -⟩ := h1.2.put k (n, x) hk2 hfew
    obtain ⟨es, c, hm⟩ := h1.2.obj
    exact ⟨h1.1.cell (j := 2) rfl, n1.cell (j := 0) rfl, n1.cell (j := 1) rfl, w2, r1, W_hid ⟨r2, (Keeps.new b1' hlow).grown hm ⟨rfl, _, _, rfl⟩ hb r3⟩⟩
  have c2 := fun o => (h.1.alloc o).cell (j := 2) rfl
  unfold NS.nv at fin ⊢
  obtain ⟨pp, hpp⟩ := ptr_form x
  simp only [hpp] at fin ⊢
  replace fin := W_hid fin
  clear h b0 hpp
  go_enter Tryz.func87, Tryz.ntmps87
  go_wp2_with fail
  go_region_with (go_at_call 156; refine (cC _).out.mono ?_; rintro e w1 ⟨rfl, b1⟩; obtain ⟨d2, d0, d1, w2, hrun, hpost⟩ := fin.out w1 b1; clear b1)
  all_goals
    go_end0
    exact ⟨rfl, hpost.out.1, hpost.out.2⟩
theorem newMB (w : World) {x : Nat} (hx : x = w.heap.size) : NS.MB (w.alloc (.map #[] 0)) x (fun _ => none) := by subst hx; exact NS.MB.new w
theorem res_node1 {fn : Func} {r : Tmp} (hres : fn.results = #[.cell r 141]) (tmps : Array Value) (w : World) {g : Nat} {n p : Value} (hr : tmps.getD r undef = .pointer (some ⟨g, 0, none⟩)) (h : Blk w g 141 [n, p]) :
    (results fn tmps).run Tryz.prog w = .ok (.agg #[n, p]) w := by
  have h0 := h.cell (j := 0) rfl
  have h1 := h.cell (j := 1) rfl
  rw [Array.getD_eq_getD_getElem?] at hr
  simp [results, hres, go_sem, hr, h0, h1]
set_option maxRecDepth 100000 in
set_option maxHeartbeats 4000000 in
theorem newNode_file (n : Int) (u : Int) (pp : Option Addr) (w : World) :
    Calls Tryz.prog 88 #[.int .i64 n, .int .i64 1, .agg #[.int .i64 u, .pointer pp]] w fun e w' => e = .returned (NS.nv (n, none)) ∧ Below w.heap.size w w' := by
  go_enter Tryz.func88, Tryz.ntmps88
  go_wp2_with fail
  exact bodyPost_ret (res_node1 Tryz.results88 _ _ rfl ((Blk.new _ _ [.int .i64 n, .pointer none] (by simp)).alloc _)) rfl ⟨rfl, new3 _ _ _ _⟩
set_option maxRecDepth 100000 in
set_option maxHeartbeats 4000000 in
theorem newNode_dir (n : Int) (u : Int) (pp : Option Addr) (w : World) :
    Calls Tryz.prog 88 #[.int .i64 n, .int .i64 2, .agg #[.int .i64 u, .pointer pp]] w fun e w' => ∃ g m, e = .returned (.agg #[.int .i64 n, .pointer (some ⟨g, 0, none⟩)]) ∧ w.heap.size ≤ g ∧ w.heap.size ≤ m ∧ g ≠ m ∧ Blk w' g 163 [.int .i64 u, .pointer pp, .map (some m)] ∧ NS.MB w' m (fun _ => none) ∧ Below w.heap.size w w' := by
  have hmk : ∀ W : World, (Instr.makeMap 161 none).run Tryz.prog W = .ok (.map (some W.heap.size)) (W.alloc (.map #[] 0)) := fun W => by kernel_rfl
  go_enter Tryz.func88, Tryz.ntmps88
  go_wp2_with fail
  refine bodyPost_ret (res_node1 Tryz.results88 _ _ rfl ((((Blk.new _ _ [.int .i64 n, .pointer (some ⟨w.heap.size + 1 + 1 + 1 + 1, 0, none⟩)] (by simp)).alloc _).alloc _).alloc _)) rfl ?_
  exact ⟨w.heap.size + 1 + 1 + 1 + 1, w.heap.size + 1 + 1 + 1, rfl, by omega, by omega, by omega, Blk.new _ _ [.int .i64 u, .pointer pp, .map (some (w.heap.size + 1 + 1 + 1))] (by simp), (newMB _ (by simp)).alloc _, ((new3 w _ _ _).alloc (by simp; omega) _).alloc (by simp; omega) _⟩
end NT
namespace NT
open IN (Keeps)
def FT (A : Int → Option (Nat × Nat)) (mb : Nat) (k : Nat) (o : Obj) : Prop := IN.PT mb k o ∨ ∃ n g m, A n = some (g, m) ∧ (OneD g k o ∨ One m k o)
theorem keeps_wide {B : Nat} {T U : Nat → Obj → Prop} {w w' : World} (h : Keeps B T w w') (hTU : ∀ k o, w.heap[k]? = some o → T k o → U k o) : Keeps B U w w' :=
  ⟨h.os, h.tape, h.output, h.size, h.low, fun k o ho hU => h.block k o ho fun hT => hU (hTU k o ho hT)⟩
section
variable {base : Nat} {w w' : World} {tg sg mb : Nat} {A : Int → Option (Nat × Nat)} {D : Ds}
theorem keeps_store (h : Keeps base (IN.PT mb) w w') : Keeps base (FT A mb) w w' := keeps_wide h fun k o _ hT => .inl hT
theorem keeps_one {n : Int} {g m : Nat} (hA : A n = some (g, m)) (h : Keeps base (One m) w w') : Keeps base (FT A mb) w w' := keeps_wide h fun k o _ hT => .inr ⟨n, g, m, hA, .inr hT⟩
theorem keeps_dir {n : Int} {g m : Nat} (hA : A n = some (g, m)) (h : Keeps base (OneD g) w w') : Keeps base (FT A mb) w w' := keeps_wide h fun k o _ hT => .inr ⟨n, g, m, hA, .inl hT⟩
theorem TM.neq (h : TM base w tg sg mb A D) {n : Int} {g m : Nat} (hA : A n = some (g, m)) : g ≠ m ∧ tg ≠ g ∧ tg ≠ m ∧ ∀ n' g' m', A n' = some (g', m') → g' ≠ m ∧ m' ≠ g := by
  obtain ⟨d, hD, p, q⟩ := h.hasA hA
  obtain ⟨es, c, hm⟩ := q.obj
  have cm : ∀ {x : Nat} {e : TypeId} {l : List Value}, Blk w x e l → x ≠ m := fun {x e l} hx e' => by
    subst e'
    unfold Blk at hx
    rw [hx] at hm
    cases hm
  refine ⟨cm p, IN.blk_ne h.box p (by decide), cm h.box, fun n' g' m' hA' => ?_⟩
  obtain ⟨d', hD', p', q'⟩ := h.hasA hA'
  refine ⟨cm p', fun e' => ?_⟩
  obtain ⟨es', c', hm'⟩ := q'.obj
  subst e'
  unfold Blk at p
  rw [p] at hm'
  cases hm'
theorem TM.turn (h : TM base w tg sg mb A D) {n : Int} {g m : Nat} {d : Dr} (hA : A n = some (g, m)) (hD : D n = some d) {l' : List (ByteArray × Int)} (hm : NS.MB w' m (nm A l')) (hK : Keeps base (One m) w w') : TM base w' tg sg mb A (upd D n (some { d with l := l' })) := by
  have hne := h.neq hA
  have hmv : ∀ {x : Nat} {e : TypeId} {l : List Value}, x ≠ m → Blk w x e l → Blk w' x e l := fun {x e l} hx hb => hK.block x _ hb fun h => hx h.1
  refine ⟨hmv hne.2.2.1 h.box, fun n' => ?_, ?_, fun n' g' m' d' hA' hD' => ?_, h.inj, h.ge⟩
  · by_cases e : n' = n
    · subst e; rw [upd_at, hA]; simp
    · rw [upd_ne e]; exact h.dom n'
  · by_cases e : (1 : Int) = n
    · rw [e, upd_at]; simp
    · rw [upd_ne e]; exact h.root
  · by_cases e : n' = n
    · subst e
      rw [upd_at] at hD'
      cases hD'
      rw [hA] at hA'
      cases hA'
      obtain ⟨p, q⟩ := h.dir n' g m d hA hD
      exact ⟨hmv hne.1 p, hm⟩
    · rw [upd_ne e] at hD'
      obtain ⟨p, q⟩ := h.dir n' g' m' d' hA' hD'
      have hg := (hne.2.2.2 n' g' m' hA').1
      have hm' := (h.inj n' n g' m' g m hA' hA e).2
      refine ⟨hmv hg p, q.heap ?_⟩
      obtain ⟨es, c, ho⟩ := q.obj
      exact (hK.block m' _ ho fun h => hm' h.1).trans ho.symm
theorem nm_put (A : Int → Option (Nat × Nat)) (l : List (ByteArray × Int)) (k : ByteArray) (n : Int) : nm A (put k n l) = NS.upd (nm A l) k (some (n, pa A n)) := by
  funext j
  unfold nm NS.upd
  rw [look_put]
  by_cases e : j = k <;> simp [e]
theorem nm_del (A : Int → Option (Nat × Nat)) (l : List (ByteArray × Int)) (k : ByteArray) : nm A (del k l) = NS.upd (nm A l) k none := by
  funext j
  unfold nm NS.upd
  rw [look_del]
  by_cases e : j = k <;> simp [e]
def updA (A : Int → Option (Nat × Nat)) (n : Int) (x : Option (Nat × Nat)) : Int → Option (Nat × Nat) := fun m => if m = n then x else A m
theorem updA_at (n : Int) (x : Option (Nat × Nat)) : updA A n x n = x := if_pos rfl
theorem updA_ne {n m : Int} {x : Option (Nat × Nat)} (h : m ≠ n) : updA A n x m = A m := if_neg h
theorem pa_ne {n m : Int} {x : Option (Nat × Nat)} (h : m ≠ n) : pa (updA A n x) m = pa A m := by unfold pa; rw [updA_ne h]
def Free (D : Ds) (n : Int) : Prop := ∀ m d, D m = some d → d.up ≠ n ∧ ∀ k, look k d.l ≠ some n
theorem nm_free {l : List (ByteArray × Int)} {n : Int} {x : Option (Nat × Nat)} (h : ∀ k, look k l ≠ some n) : nm (updA A n x) l = nm A l := by
  funext k
  unfold nm
  cases e : look k l with
  | none => rfl
  | some j =>
    have : j ≠ n := fun e' => h k (by rw [e, e'])
    simp [pa_ne this]
theorem TM.grow (h : TM base w tg sg mb A D) {n u : Int} {g m : Nat} (hn : D n = none) (hf : Free D n) (hu : D u ≠ none) (hg : Blk w g 163 [.int .i64 u, IS.ptr (pa A u), .map (some m)]) (hm : NS.MB w m (fun _ => none)) (h1 : ∀ n' g' m', A n' = some (g', m') → g' ≠ g ∧ m' ≠ m) (h2 : base ≤ g ∧ base ≤ m ∧ m ≠ mb) :
    TM base w tg sg mb (updA A n (some (g, m))) (upd D n (some ⟨u, []⟩)) := by
  have h1n : (1 : Int) ≠ n := fun e => h.root (by rw [e]; exact hn)
  have hun : u ≠ n := fun e => hu (by rw [e]; exact hn)
  refine ⟨?_, fun n' => ?_, ?_, fun n' g' m' d' hA' hD' => ?_, fun n' n2 g' m' g2 m2 hA' hA2 e => ?_, h.ge.1, fun n' g' m' hA' => ?_⟩
  · rw [pa_ne h1n]; exact h.box
  · by_cases e : n' = n
    · subst e; rw [upd_at, updA_at]; simp
    · rw [upd_ne e, updA_ne e]; exact h.dom n'
  · rw [upd_ne h1n]; exact h.root
  · by_cases e : n' = n
    · subst e
      rw [upd_at] at hD'
      rw [updA_at] at hA'
      cases hD'
      cases hA'
      refine ⟨?_, hm.congr fun f => ?_⟩
      · unfold dcl
        rw [pa_ne hun]
        exact hg
      · simp [nm, look]
    · rw [upd_ne e] at hD'
      rw [updA_ne e] at hA'
      obtain ⟨p, q⟩ := h.dir n' g' m' d' hA' hD'
      have hfr := hf n' d' hD'
      refine ⟨?_, ?_⟩
      · unfold dcl
        rw [pa_ne hfr.1]
        exact p
      · rw [nm_free hfr.2]
        exact q
  · by_cases e1 : n' = n
    · by_cases e2 : n2 = n
      · exact absurd (e1.trans e2.symm) e
      · subst e1
        rw [updA_at] at hA'
        rw [updA_ne e2] at hA2
        cases hA'
        have := h1 n2 g2 m2 hA2
        exact ⟨this.1.symm, this.2.symm⟩
    · by_cases e2 : n2 = n
      · subst e2
        rw [updA_at] at hA2
        rw [updA_ne e1] at hA'
        cases hA2
        exact h1 n' g' m' hA'
      · rw [updA_ne e1] at hA'
        rw [updA_ne e2] at hA2
        exact h.inj n' n2 g' m' g2 m2 hA' hA2 e
  · by_cases e1 : n' = n
    · subst e1
      rw [updA_at] at hA'
      cases hA'
      exact h2
    · rw [updA_ne e1] at hA'
      exact h.ge.2 n' g' m' hA'
end
end NT
namespace NT
open IN (Keeps)
section
variable {base : Nat} {w w' : World} {tg sg mb : Nat} {A : Int → Option (Nat × Nat)} {D : Ds}
set_option maxRecDepth 100000 in
set_option maxHeartbeats 2000000 in
theorem Make_nil (s : ByteArray) (kind : Int) (w : World) : Calls Tryz.prog 29 #[.pointer none, .string s, .int .i64 kind] w fun e w' => e = .returned (.tuple #[.int .i64 0, .int .i64 1]) ∧ w' = w := by
  have cN := fun w => W_hid (none_nil w)
  go_enter Tryz.func29, Tryz.ntmps29
  go_wp2_with fail
  refine (cN _).out.mono ?_
  rintro e w1 ⟨rfl, rfl⟩
  go_wp2_with fail
  go_ret2
  exact ⟨rfl, rfl⟩
set_option maxRecDepth 100000 in
set_option maxHeartbeats 2000000 in
theorem Make_kind (s : ByteArray) (kind : Int) (w : World) (h : TM base w tg sg mb A D) (hk : ¬ (kind = 1 ∨ kind = 2)) : Calls Tryz.prog 29 #[.pointer (some ⟨tg, 0, none⟩), .string s, .int .i64 kind] w fun e w' => e = .returned (.tuple #[.int .i64 0, .int .i64 2]) ∧ Below w.heap.size w w' := by
  have cN := W_hid (none_some w h)
  have h1 : ¬ kind = 1 := fun e => hk (.inl e)
  have h2 : ¬ kind = 2 := fun e => hk (.inr e)
  have h3 : (kind == 1) = false := by simpa using h1
  have h4 : (kind == 2) = false := by simpa using h2
  have h5 : (kind != 1) = true := by simpa using h1
  have h6 : (kind != 2) = true := by simpa using h2
  clear hk
  go_enter Tryz.func29, Tryz.ntmps29
  go_wp2_with fail
  refine cN.out.mono ?_
  rintro e w1 ⟨rfl, b1⟩
  go_wp2_with fail
  go_ret2
  exact ⟨rfl, b1⟩
set_option maxRecDepth 100000 in
set_option maxHeartbeats 2000000 in
theorem Make_parse (s : ByteArray) (hs : s.size ≤ maxLen) (kind : Int) (w : World) (h : TM base w tg sg mb A D) (hk : kind = 1 ∨ kind = 2) (he : PM.perr s ≠ 0) : Calls Tryz.prog 29 #[.pointer (some ⟨tg, 0, none⟩), .string s, .int .i64 kind] w fun e w' => e = .returned (.tuple #[.int .i64 0, .int .i64 (PM.perr s)]) ∧ Below w.heap.size w w' := by
  have cN := W_hid (none_some w h)
  have cP := fun w => W_hid (parsed (w := w) hs)
  generalize PM.perr s = pe at cP he ⊢
  have hne : (pe == 0) = false := by simpa using he
  clear h
  rcases hk with rfl | rfl
  all_goals
    go_enter Tryz.func29, Tryz.ntmps29
    go_wp2_with fail
    refine cN.out.mono ?_
    rintro e w1 ⟨rfl, b1⟩
    have B1 := W_hid b1
    clear b1 cN
    go_wp2_with fail
    refine (cP _).out.mono ?_
    rintro e w2 ⟨ao, n, cap, rfl, hS, b2⟩
    have b2' : Below w.heap.size w w2 := B1.out.trans (b2.mono B1.out.size)
    have B3 := W_hid (b2'.alloc b2'.size (.cells #[.bool (PM.pA s), .slice ao n cap, .bool (PM.pD s)] 136))
    clear b2 b2' hS
    go_wp2_with fail
    go_ret2
    exact ⟨rfl, B3.out⟩
def vacant (D : Ds) (kind : Int) (s : ByteArray) : Except Int Int := placeC D (PM.pN s) 12 (vac D kind (last (PM.pN s)) (PM.pD s))
set_option maxRecDepth 100000 in
set_option maxHeartbeats 4000000 in
theorem Make_vac (s : ByteArray) (hs : s.size ≤ maxLen) (kind : Int) (w : World) (h : TM base w tg sg mb A D) (hk : kind = 1 ∨ kind = 2) (hp : PM.perr s = 0) (e0 : Int) (hv : vacant D kind s = .error e0) (he : e0 ≠ 0) : Calls Tryz.prog 29 #[.pointer (some ⟨tg, 0, none⟩), .string s, .int .i64 kind] w fun e w' => e = .returned (.tuple #[.int .i64 0, .int .i64 e0]) ∧ Below w.heap.size w w' := by
  have cN := W_hid (none_some w h)
  have cP := fun w => W_hid (parsed (w := w) hs)
  rw [hp] at cP
  have cV := fun (ao : Option Addr) (n cap : Nat) (w' : World) (hb : Below w.heap.size w w') (hl : SS w' ao n cap (PM.pN s)) => vacant_any (PM.pA s) (PM.pD s) kind (PM.pN s) ao n cap w' (h.keep hb) hl (pN_sm s)
  unfold vacant at hv
  rw [hv] at cV
  simp only [pv, er] at cV
  have hne : (e0 == 0) = false := by simpa using he
  generalize PM.pN s = l at cP cV
  generalize PM.pD s = d at cP cV
  generalize PM.pA s = a at cP cV
  replace cV := W_hid cV
  clear h hv hp he
  rcases hk with rfl | rfl
  all_goals
    go_enter Tryz.func29, Tryz.ntmps29
    go_wp2_with fail
    refine cN.out.mono ?_
    rintro e w1 ⟨rfl, b1⟩
    have B1 := W_hid b1
    clear b1 cN
    go_wp2_with fail
    refine (cP _).out.mono ?_
    rintro e w2 ⟨ao, n, cap, rfl, hS, b2⟩
    have b2' : Below w.heap.size w w2 := B1.out.trans (b2.mono B1.out.size)
    have b3 := b2'.alloc b2'.size (.cells #[.bool a, .slice ao n cap, .bool d] 136)
    have p2 : Blk (w2.alloc (.cells #[.bool a, .slice ao n cap, .bool d] 136)) w2.heap.size 136 [.bool a, .slice ao n cap, .bool d] := Blk.new _ _ _ rfl
    have c0 := p2.cell (j := 0) rfl
    have c1 := p2.cell (j := 1) rfl
    have c2 := p2.cell (j := 2) rfl
    have cV1 := W_hid (cV.out ao n cap _ b3 (hS.alloc _))
    have B3 := W_hid b3
    clear b2 b2' hS b3 p2 cV
    go_wp2_with fail
    refine cV1.out.mono ?_
    rintro e w3 ⟨rfl, b4⟩
    have b4' := B3.out.trans (b4.mono B3.out.size)
    have B4 := W_hid (b4'.alloc b4'.size (.cells #[.int .i64 0, .pointer none, .string ⟨#[]⟩, .bool false] 147))
    clear b4 b4' cV1
    go_wp2_with fail
    go_ret2
    exact ⟨rfl, B4.out⟩
theorem made_few {M : ByteArray → Option (Int × Option Nat)} {l : List (ByteArray × Int)} {A : Int → Option (Nat × Nat)} (hM : M = nm A l) (hl : l.length < 65536) : ∀ ss, NS.Nums M ss → ss.length < 65536 := fun ss h => by
  have : ss.length ≤ (l.map (·.1)).length := NS.nodup_sub ss (l.map (·.1)) h.1 (fun x hx => by
    have h1 := (h.2 x).1 hx
    rw [hM] at h1
    unfold nm at h1
    cases e : look x l with
    | none => rw [e] at h1; exact absurd rfl h1
    | some j => exact List.mem_map.2 ⟨(x, j), look_mem e, rfl⟩)
  rw [List.length_map] at this
  omega
set_option maxRecDepth 100000 in
set_option maxHeartbeats 4000000 in
theorem Make_full (I L B k : Nat) (M : Int → Option Nat) (S : Int → Option IN.Nd) (s : ByteArray) (hs : s.size ≤ maxLen) (kind : Int) (w : World) (h : TM base w tg sg mb A D) (hS0 : IN.PS base w sg mb M I L B k S) (hk : kind = 1 ∨ kind = 2) (hp : PM.perr s = 0) (p : Int) (hv : vacant D kind s = .ok p) (e0 : Int) (hr : IN.mkR I S kind = e0) (he : e0 ≠ 0) :
    Calls Tryz.prog 29 #[.pointer (some ⟨tg, 0, none⟩), .string s, .int .i64 kind] w fun e w' => e = .returned (.tuple #[.int .i64 0, .int .i64 e0]) ∧ Below w.heap.size w w' := by
  have cN := W_hid (none_some w h)
  have cP := fun w => W_hid (parsed (w := w) hs)
  rw [hp] at cP
  have cV := fun (ao : Option Addr) (n cap : Nat) (w' : World) (hb : Below w.heap.size w w') (hl : SS w' ao n cap (PM.pN s)) => vacant_any (PM.pA s) (PM.pD s) kind (PM.pN s) ao n cap w' (h.keep hb) hl (pN_sm s)
  unfold vacant at hv
  rw [hv] at cV
  simp only [pv, er, plv] at cV
  have hne : (e0 == 0) = false := by simpa using he
  generalize PM.pN s = l at cP cV
  generalize PM.pD s = d at cP cV
  generalize PM.pA s = a at cP cV
  generalize last l = z at cV
  obtain ⟨pp, hpp⟩ := ptr_form (pa A p)
  simp only [hpp] at cV
  replace cV := W_hid cV
  have cM := W_hid (fun (w' : World) (hb : Below w.heap.size w w') => IN.Make_no kind w' (hS0.keep hb) e0 hr he)
  have t0 := W_hid (fun (w' : World) (hb : Below w.heap.size w w') => (h.keep hb).box.cell (j := 0) rfl)
  clear h hv hp he hS0 hpp
  rcases hk with rfl | rfl
  all_goals
    go_enter Tryz.func29, Tryz.ntmps29
    go_wp2_with fail
    refine cN.out.mono ?_
    rintro e w1 ⟨rfl, b1⟩
    have B1 := W_hid b1
    clear b1 cN
    go_wp2_with fail
    refine (cP _).out.mono ?_
    rintro e w2 ⟨ao, n, cap, rfl, hS, b2⟩
    have b2' : Below w.heap.size w w2 := B1.out.trans (b2.mono B1.out.size)
    have b3 := b2'.alloc b2'.size (.cells #[.bool a, .slice ao n cap, .bool d] 136)
    have p2 : Blk (w2.alloc (.cells #[.bool a, .slice ao n cap, .bool d] 136)) w2.heap.size 136 [.bool a, .slice ao n cap, .bool d] := Blk.new _ _ _ rfl
    have c0 := p2.cell (j := 0) rfl
    have c1 := p2.cell (j := 1) rfl
    have c2 := p2.cell (j := 2) rfl
    have cV1 := W_hid (cV.out ao n cap _ b3 (hS.alloc _))
    have B3 := W_hid b3
    clear b2 b2' hS b3 p2 cV
    go_wp2_with fail
    refine cV1.out.mono ?_
    rintro e w3 ⟨rfl, b4⟩
    have b4' := B3.out.trans (b4.mono B3.out.size)
    have b5 := b4'.alloc b4'.size (.cells #[.int .i64 p, .pointer pp, .string z, .bool d] 147)
    have t1 := t0.out _ b5
    have cM1 := W_hid (cM.out _ b5)
    have B4 := W_hid b5
    clear b4 b4' b5 cV1 cM t0
    go_wp2_with fail
    refine cM1.out.mono ?_
    rintro e w4 ⟨rfl, b6⟩
    have B5 := W_hid (B4.out.trans (b6.mono B4.out.size))
    clear b6 cM1
    go_wp2_with fail
    go_ret2
    exact ⟨rfl, B5.out⟩
theorem last_le (s : ByteArray) : (last (PM.pN s)).size ≤ 281474976710656 := by
  by_cases h : PM.pN s = []
  · rw [h]; decide
  · by_cases hp : PM.perr s = 0
    · have h1 := PM.valid_comp (PM.parse_valid hp).1 _ (last_mem h)
      have h2 := ((PM.comp_iff _).1 h1).1.2
      omega
    · exact absurd (by unfold PM.pN; rw [if_neg hp]) h
def mkD (D : Ds) (p : Int) (k : ByteArray) (n kind : Int) : Ds := fun m => if m = p then (D p).map fun d => { d with l := put k n d.l } else if m = n ∧ kind = 2 then some ⟨p, []⟩ else D m
set_option maxRecDepth 100000 in
set_option maxHeartbeats 8000000 in
theorem Make_file (I L B k : Nat) (M : Int → Option Nat) (S : Int → Option IN.Nd) (s : ByteArray) (hs : s.size ≤ maxLen) (w : World) (h : TM base w tg sg mb A D) (hS0 : IN.PS base w sg mb M I L B k S) (hp : PM.perr s = 0) (p : Int) (hv : vacant D 1 s = .ok p) (dp : Dr) (hdp : D p = some dp) (hfew : dp.l.length < 65536)
    (n : Nat) (hr : IN.mkR I S 1 = 0) (hlow : IN.Low S n) (hn : n ≤ I) (hL : 1 ≤ L) (hfree : D (n : Int) = none) :
    Calls Tryz.prog 29 #[.pointer (some ⟨tg, 0, none⟩), .string s, .int .i64 1] w fun e w' => e = .returned (.tuple #[.int .i64 (n : Int), .int .i64 0]) ∧ (∃ M', IN.PS base w' sg mb M' I L B k (IN.upd S (n : Int) (some (IN.newNd 1)))) ∧ TM base w' tg sg mb A (mkD D p (last (PM.pN s)) (n : Int) 1) ∧ Keeps base (FT A mb) w w' := by
  have cN := W_hid (none_some w h)
  have cP := fun w => W_hid (parsed (w := w) hs)
  rw [hp] at cP
  have cV := fun (ao : Option Addr) (n cap : Nat) (w' : World) (hb : Below w.heap.size w w') (hl : SS w' ao n cap (PM.pN s)) => vacant_any (PM.pA s) (PM.pD s) 1 (PM.pN s) ao n cap w' (h.keep hb) hl (pN_sm s)
  unfold vacant at hv
  rw [hv] at cV
  have hz := last_le s
  simp only [pv, er, plv] at cV
  generalize PM.pN s = l at cP cV hv hz ⊢
  generalize PM.pD s = d at cP cV hv
  generalize PM.pA s = a at cP cV
  generalize last l = z at cV hv hz ⊢
  obtain ⟨g, m, hA, hpa, hdb⟩ := h.db hdp
  rw [hpa] at cV
  simp only [IS.ptr] at cV
  replace cV := W_hid cV
  have cM := W_hid (fun (w' : World) (hb : Below w.heap.size w w') => IN.Make_yes 1 n w' (hS0.keep hb) hr hlow hn hL)
  have t0 := W_hid (fun (w' : World) (hb : Below w.heap.size w w') => (h.keep hb).box.cell (j := 0) rfl)
  have cW := fun (pp : Option Addr) (w : World) => W_hid (newNode_file (n : Int) p pp w)
  have hpn : pa A (n : Int) = none := by unfold pa; rw [(h.dom _).2 hfree]; rfl
  have cU := W_hid (fun (w4 : World) (hK : Keeps base (FT A mb) w w4) (hT : TM base w4 tg sg mb A D) => by
    obtain ⟨q1, q2⟩ := hT.dir p g m dp hA hdp
    exact put_any base g m dp.up (pa A dp.up) (nm A dp.l) z hz (n : Int) none w4 ⟨q1, q2⟩ (h.ge.2 p g m hA).2.1 (made_few rfl hfew))
  have H := W_hid h
  have hDp : Hid (∀ (w5 : World), upd D p (some { dp with l := put z (n : Int) dp.l }) = mkD D p z (n : Int) 1) := W_hid (fun _ => by
    funext m'
    unfold mkD upd
    by_cases e : m' = p
    · simp [e, hdp]
    · simp [e])
  have hA := W_hid hA
  have hdp := W_hid hdp
  have hpn := W_hid hpn
  clear h hv hp hS0 hpa hdb hr hlow hfree
  go_enter Tryz.func29, Tryz.ntmps29
  go_wp2_with fail
  refine cN.out.mono ?_
  rintro e w1 ⟨rfl, b1⟩
  have B1 := W_hid b1
  clear b1 cN
  go_wp2_with fail
  refine (cP _).out.mono ?_
  rintro e w2 ⟨ao, n0, cap, rfl, hS, b2⟩
  have b2' : Below w.heap.size w w2 := B1.out.trans (b2.mono B1.out.size)
  have b3 := b2'.alloc b2'.size (.cells #[.bool a, .slice ao n0 cap, .bool d] 136)
  have p2 : Blk (w2.alloc (.cells #[.bool a, .slice ao n0 cap, .bool d] 136)) w2.heap.size 136 [.bool a, .slice ao n0 cap, .bool d] := Blk.new _ _ _ rfl
  have c0 := p2.cell (j := 0) rfl
  have c1 := p2.cell (j := 1) rfl
  have c2 := p2.cell (j := 2) rfl
  have cV1 := W_hid (cV.out ao n0 cap _ b3 (hS.alloc _))
  have B3 := W_hid b3
  clear b2 b2' hS b3 p2 cV
  go_wp2_with fail
  refine cV1.out.mono ?_
  rintro e w3 ⟨rfl, b4⟩
  have b4' := B3.out.trans (b4.mono B3.out.size)
  have b5 := b4'.alloc b4'.size (.cells #[.int .i64 p, .pointer (some ⟨g, 0, none⟩), .string z, .bool d] 147)
  have q3 : Blk (w3.alloc (.cells #[.int .i64 p, .pointer (some ⟨g, 0, none⟩), .string z, .bool d] 147)) w3.heap.size 147 [.int .i64 p, .pointer (some ⟨g, 0, none⟩), .string z, .bool d] := Blk.new _ _ _ rfl
  have q3 := W_hid q3
  have t1 := t0.out _ b5
  have cM1 := W_hid (cM.out _ b5)
  have B4 := W_hid b5
  have hw3 := W_hid b4'.size
  clear b4 b4' b5 cV1 cM t0
  go_wp2_with fail
  refine cM1.out.mono ?_
  rintro e w4 ⟨rfl, hPS, hK⟩
  have q4 : Blk w4 w3.heap.size 147 [.int .i64 p, .pointer (some ⟨g, 0, none⟩), .string z, .bool d] := hK.block _ _ q3.out (by simp [IN.PT])
  have hT4 := (H.out.keep B4.out).store hK
  have hK4 : Keeps base (FT A mb) w w4 := (Keeps.new B4.out H.out.low).trans (keeps_store hK)
  have d0 := q4.cell (j := 0) rfl
  have d1 := q4.cell (j := 1) rfl
  have d2 := q4.cell (j := 2) rfl
  have next : ∀ w5, Below w4.heap.size w4 w5 → (w5.cell? ⟨w3.heap.size, 0, none⟩ = some (.int .i64 p) ∧ w5.cell? ⟨w3.heap.size, 1, none⟩ = some (.pointer (some ⟨g, 0, none⟩)) ∧ w5.cell? ⟨w3.heap.size, 2, none⟩ = some (.string z)) ∧ Hid ((∃ M', IN.PS base w5 sg mb M' I L B k (IN.upd S (n : Int) (some (IN.newNd 1)))) ∧ TM base w5 tg sg mb A D ∧ Keeps base (FT A mb) w w5 ∧ Blk w5 w3.heap.size 147 [.int .i64 p, .pointer (some ⟨g, 0, none⟩), .string z, .bool d]) := fun w5 b5 => by
    have q5 := q4.keep b5
    obtain ⟨M', hp'⟩ := hPS
    exact ⟨⟨q5.cell (j := 0) rfl, q5.cell (j := 1) rfl, q5.cell (j := 2) rfl⟩, W_hid ⟨⟨M', hp'.keep b5⟩, hT4.keep b5, hK4.trans (Keeps.new b5 hT4.low), q5⟩⟩
  have hm3 : Hid (w3.heap.size ≠ m) := W_hid (by
    have h1 := (H.out.dir p g m dp hA.out hdp.out).2.lt
    have h2 := B3.out.size
    have h3 := hw3.out
    omega)
  replace next := W_hid next
  have hPS := W_hid hPS
  have hT4 := W_hid hT4
  have hK4 := W_hid hK4
  clear cM1 hK q4 q3
  go_wp2_with fail
  go_region_held3 (fun w' => w'.cell? ⟨w3.heap.size, 0, none⟩ = some (.int .i64 p) ∧ w'.cell? ⟨w3.heap.size, 1, none⟩ = some (.pointer (some ⟨g, 0, none⟩)) ∧ w'.cell? ⟨w3.heap.size, 2, none⟩ = some (.string z)) (first | assumption | go_keep)
    (first
      | (go_at_call 88; refine (cW _ _).out.mono ?_; rintro e w5 ⟨rfl, b5⟩; obtain ⟨S5, H5⟩ := next.out w5 (bundrew b5); clear b5)
      | (go_at_call 87; refine (cU.out _ H5.out.2.2.1 H5.out.2.1).mono ?_; rintro e w6 ⟨rfl, hM6, hK6⟩; have q6 := (show Blk w6 w3.heap.size 147 [.int .i64 p, .pointer (some ⟨g, 0, none⟩), .string z, .bool d] from hK6.block _ _ H5.out.2.2.2 fun h => hm3.out h.1); have S6 : w6.cell? ⟨w3.heap.size, 0, none⟩ = some (.int .i64 p) ∧ w6.cell? ⟨w3.heap.size, 1, none⟩ = some (.pointer (some ⟨g, 0, none⟩)) ∧ w6.cell? ⟨w3.heap.size, 2, none⟩ = some (.string z) := ⟨q6.cell (j := 0) rfl, q6.cell (j := 1) rfl, q6.cell (j := 2) rfl⟩))
  all_goals
    have hT6 := H5.out.2.1.turn hA.out hdp.out (l' := put z (n : Int) dp.l) (by rw [nm_put, hpn.out]; exact hM6) hK6
    have hfin := W_hid (show (∃ M', IN.PS base w6 sg mb M' I L B k (IN.upd S (n : Int) (some (IN.newNd 1)))) ∧ TM base w6 tg sg mb A (mkD D p z (n : Int) 1) ∧ Keeps base (FT A mb) w w6 from by
      obtain ⟨⟨M', h1⟩, h2, h3, h4⟩ := H5.out
      have hb := H.out.ge.2 p g m hA.out
      refine ⟨⟨M', h1.keeps hK6 (by simp [One]) (by simp [One]) (by simp [One, hb.2.2.symm]) (by simp [One])⟩, ?_, h3.trans (keeps_one hA.out hK6)⟩
      rw [← hDp.out w]
      exact hT6)
    clear hT6 q6 S6 hM6 hK6 H5
    go_wp2_with fail
    go_ret2
    exact ⟨rfl, hfin.out⟩
set_option maxRecDepth 100000 in
set_option maxHeartbeats 8000000 in
theorem Make_dir (I L B k : Nat) (M : Int → Option Nat) (S : Int → Option IN.Nd) (s : ByteArray) (hs : s.size ≤ maxLen) (w : World) (h : TM base w tg sg mb A D) (hS0 : IN.PS base w sg mb M I L B k S) (hp : PM.perr s = 0) (p : Int) (hv : vacant D 2 s = .ok p) (dp : Dr) (hdp : D p = some dp) (hfew : dp.l.length < 65536)
    (n : Nat) (hr : IN.mkR I S 2 = 0) (hlow : IN.Low S n) (hn : n ≤ I) (hL : 1 ≤ L) (hfree : D (n : Int) = none) (hFree : Free D (n : Int)) :
    Calls Tryz.prog 29 #[.pointer (some ⟨tg, 0, none⟩), .string s, .int .i64 2] w fun e w' => e = .returned (.tuple #[.int .i64 (n : Int), .int .i64 0]) ∧ (∃ M', IN.PS base w' sg mb M' I L B k (IN.upd S (n : Int) (some (IN.newNd 2)))) ∧ (∃ A', TM base w' tg sg mb A' (mkD D p (last (PM.pN s)) (n : Int) 2)) ∧ Keeps base (FT A mb) w w' := by
  have cN := W_hid (none_some w h)
  have cP := fun w => W_hid (parsed (w := w) hs)
  rw [hp] at cP
  have cV := fun (ao : Option Addr) (n cap : Nat) (w' : World) (hb : Below w.heap.size w w') (hl : SS w' ao n cap (PM.pN s)) => vacant_any (PM.pA s) (PM.pD s) 2 (PM.pN s) ao n cap w' (h.keep hb) hl (pN_sm s)
  unfold vacant at hv
  rw [hv] at cV
  have hz := last_le s
  simp only [pv, er, plv] at cV
  generalize PM.pN s = l at cP cV hv hz ⊢
  generalize PM.pD s = d at cP cV hv
  generalize PM.pA s = a at cP cV
  generalize last l = z at cV hv hz ⊢
  obtain ⟨g, m, hA, hpa, hdb⟩ := h.db hdp
  rw [hpa] at cV
  simp only [IS.ptr] at cV
  replace cV := W_hid cV
  have cM := W_hid (fun (w' : World) (hb : Below w.heap.size w w') => IN.Make_yes 2 n w' (hS0.keep hb) hr hlow hn hL)
  have t0 := W_hid (fun (w' : World) (hb : Below w.heap.size w w') => (h.keep hb).box.cell (j := 0) rfl)
  have cW := fun (pp : Option Addr) (w : World) => W_hid (newNode_dir (n : Int) p pp w)
  have hpnn : p ≠ (n : Int) := fun e => by rw [e, hfree] at hdp; cases hdp
  have cU := W_hid (fun (A' : Int → Option (Nat × Nat)) (g' : Nat) (w5 : World) (hA' : A' p = some (g, m)) (hT : TM base w5 tg sg mb A' (upd D (n : Int) (some ⟨p, []⟩))) => by
    obtain ⟨q1, q2⟩ := hT.dir p g m dp hA' (by rw [upd_ne hpnn]; exact hdp)
    exact put_any base g m dp.up (pa A' dp.up) (nm A' dp.l) z hz (n : Int) (some g') w5 ⟨q1, q2⟩ (h.ge.2 p g m hA).2.1 (made_few rfl hfew))
  have H := W_hid h
  have hDp : Hid (∀ (w5 : World), upd (upd D (n : Int) (some ⟨p, []⟩)) p (some { dp with l := put z (n : Int) dp.l }) = mkD D p z (n : Int) 2) := W_hid (fun _ => by
    funext m'
    unfold mkD upd
    by_cases e : m' = p
    · simp [e, hdp]
    · by_cases e2 : m' = (n : Int)
      · simp [e, e2]
        split <;> simp_all
      · simp [e, e2])
  have hA := W_hid hA
  have hpnn := W_hid hpnn
  have hdp := W_hid hdp
  have hfr := W_hid (And.intro hfree hFree)
  clear h hv hp hS0 hpa hdb hr hlow hfree hFree
  go_enter Tryz.func29, Tryz.ntmps29
  go_wp2_with fail
  refine cN.out.mono ?_
  rintro e w1 ⟨rfl, b1⟩
  have B1 := W_hid b1
  clear b1 cN
  go_wp2_with fail
  refine (cP _).out.mono ?_
  rintro e w2 ⟨ao, n0, cap, rfl, hS, b2⟩
  have b2' : Below w.heap.size w w2 := B1.out.trans (b2.mono B1.out.size)
  have b3 := b2'.alloc b2'.size (.cells #[.bool a, .slice ao n0 cap, .bool d] 136)
  have p2 : Blk (w2.alloc (.cells #[.bool a, .slice ao n0 cap, .bool d] 136)) w2.heap.size 136 [.bool a, .slice ao n0 cap, .bool d] := Blk.new _ _ _ rfl
  have c0 := p2.cell (j := 0) rfl
  have c1 := p2.cell (j := 1) rfl
  have c2 := p2.cell (j := 2) rfl
  have cV1 := W_hid (cV.out ao n0 cap _ b3 (hS.alloc _))
  have B3 := W_hid b3
  clear b2 b2' hS b3 p2 cV
  go_wp2_with fail
  refine cV1.out.mono ?_
  rintro e w3 ⟨rfl, b4⟩
  have b4' := B3.out.trans (b4.mono B3.out.size)
  have b5 := b4'.alloc b4'.size (.cells #[.int .i64 p, .pointer (some ⟨g, 0, none⟩), .string z, .bool d] 147)
  have q3 : Blk (w3.alloc (.cells #[.int .i64 p, .pointer (some ⟨g, 0, none⟩), .string z, .bool d] 147)) w3.heap.size 147 [.int .i64 p, .pointer (some ⟨g, 0, none⟩), .string z, .bool d] := Blk.new _ _ _ rfl
  have q3 := W_hid q3
  have t1 := t0.out _ b5
  have cM1 := W_hid (cM.out _ b5)
  have B4 := W_hid b5
  have hw3 := W_hid b4'.size
  clear b4 b4' b5 cV1 cM t0
  go_wp2_with fail
  refine cM1.out.mono ?_
  rintro e w4 ⟨rfl, hPS, hK⟩
  have q4 : Blk w4 w3.heap.size 147 [.int .i64 p, .pointer (some ⟨g, 0, none⟩), .string z, .bool d] := hK.block _ _ q3.out (by simp [IN.PT])
  have hT4 := (H.out.keep B4.out).store hK
  have hK4 : Keeps base (FT A mb) w w4 := (Keeps.new B4.out H.out.low).trans (keeps_store hK)
  have d0 := q4.cell (j := 0) rfl
  have d1 := q4.cell (j := 1) rfl
  have d2 := q4.cell (j := 2) rfl
  have next : ∀ w5 (g' m' : Nat), Below w4.heap.size w4 w5 → w4.heap.size ≤ g' → w4.heap.size ≤ m' → Blk w5 g' 163 [.int .i64 p, .pointer (some ⟨g, 0, none⟩), .map (some m')] → NS.MB w5 m' (fun _ => none) → (w5.cell? ⟨w3.heap.size, 0, none⟩ = some (.int .i64 p) ∧ w5.cell? ⟨w3.heap.size, 1, none⟩ = some (.pointer (some ⟨g, 0, none⟩)) ∧ w5.cell? ⟨w3.heap.size, 2, none⟩ = some (.string z)) ∧ Hid ((∃ M', IN.PS base w5 sg mb M' I L B k (IN.upd S (n : Int) (some (IN.newNd 2)))) ∧ TM base w5 tg sg mb (updA A (n : Int) (some (g', m'))) (upd D (n : Int) (some ⟨p, []⟩)) ∧ Keeps base (FT A mb) w w5 ∧ Blk w5 w3.heap.size 147 [.int .i64 p, .pointer (some ⟨g, 0, none⟩), .string z, .bool d]) := fun w5 g' m' b5 hg5 hm5 hb5 hM5 => by
    have q5 := q4.keep b5
    obtain ⟨M', hp'⟩ := hPS
    have hT5 := hT4.keep b5
    have hpp : IS.ptr (pa A p) = .pointer (some ⟨g, 0, none⟩) := by unfold pa; rw [hA.out]; rfl
    refine ⟨⟨q5.cell (j := 0) rfl, q5.cell (j := 1) rfl, q5.cell (j := 2) rfl⟩, W_hid ⟨⟨M', hp'.keep b5⟩, hT5.grow hfr.out.1 hfr.out.2 (by rw [hdp.out]; simp) (by rw [hpp]; exact hb5) hM5 (fun n' g1 m1 hA1 => ?_) ⟨Nat.le_trans hT4.low hg5, Nat.le_trans hT4.low hm5, ?_⟩, hK4.trans (Keeps.new b5 hT4.low), q5⟩⟩
    · obtain ⟨d1, _, p1, p2⟩ := hT4.hasA hA1
      have := p1.lt
      have := p2.lt
      exact ⟨by omega, by omega⟩
    · have := hp'.pm.mp.lt
      omega
  have hm3 : Hid (w3.heap.size ≠ m) := W_hid (by
    have h1 := (H.out.dir p g m dp hA.out hdp.out).2.lt
    have h2 := B3.out.size
    have h3 := hw3.out
    omega)
  replace next := W_hid next
  have hPS := W_hid hPS
  have hT4 := W_hid hT4
  have hK4 := W_hid hK4
  clear cM1 hK q4 q3
  go_wp2_with fail
  go_region_held3 (fun w' => w'.cell? ⟨w3.heap.size, 0, none⟩ = some (.int .i64 p) ∧ w'.cell? ⟨w3.heap.size, 1, none⟩ = some (.pointer (some ⟨g, 0, none⟩)) ∧ w'.cell? ⟨w3.heap.size, 2, none⟩ = some (.string z)) (first | assumption | go_keep)
    (first
      | (go_at_call 88; refine (cW _ _).out.mono ?_; rintro e w5 ⟨g', m', rfl, hg5, hm5, -, hb5, hM5, b5⟩; obtain ⟨S5, H5⟩ := next.out w5 g' m' (bundrew b5) hg5 hm5 hb5 hM5; clear b5 hg5 hm5 hb5 hM5)
      | (go_at_call 87; refine (cU.out _ _ _ (by rw [updA_ne hpnn.out]; exact hA.out) H5.out.2.1).mono ?_; rintro e w6 ⟨rfl, hM6, hK6⟩; have q6 := (show Blk w6 w3.heap.size 147 [.int .i64 p, .pointer (some ⟨g, 0, none⟩), .string z, .bool d] from hK6.block _ _ H5.out.2.2.2 fun h => hm3.out h.1); have S6 : w6.cell? ⟨w3.heap.size, 0, none⟩ = some (.int .i64 p) ∧ w6.cell? ⟨w3.heap.size, 1, none⟩ = some (.pointer (some ⟨g, 0, none⟩)) ∧ w6.cell? ⟨w3.heap.size, 2, none⟩ = some (.string z) := ⟨q6.cell (j := 0) rfl, q6.cell (j := 1) rfl, q6.cell (j := 2) rfl⟩))
  all_goals
    have hA6 : updA A (n : Int) (some (g', m')) p = some (g, m) := by rw [updA_ne hpnn.out]; exact hA.out
    have hT6 := H5.out.2.1.turn hA6 (by rw [upd_ne hpnn.out]; exact hdp.out) (l' := put z (n : Int) dp.l) (by rw [nm_put, show pa (updA A (n : Int) (some (g', m'))) (n : Int) = some g' from by unfold pa; rw [updA_at]; rfl]; exact hM6) hK6
    have hfin := W_hid (show (∃ M', IN.PS base w6 sg mb M' I L B k (IN.upd S (n : Int) (some (IN.newNd 2)))) ∧ (∃ A', TM base w6 tg sg mb A' (mkD D p z (n : Int) 2)) ∧ Keeps base (FT A mb) w w6 from by
      obtain ⟨⟨M', h1⟩, h2, h3, h4⟩ := H5.out
      have hb := H.out.ge.2 p g m hA.out
      refine ⟨⟨M', h1.keeps hK6 (by simp [One]) (by simp [One]) (by simp [One, hb.2.2.symm]) (by simp [One])⟩, ⟨updA A (n : Int) (some (g', m')), ?_⟩, h3.trans (keeps_one hA.out hK6)⟩
      rw [← hDp.out w]
      exact hT6)
    clear hT6 q6 S6 hM6 hK6 H5 hA6
    go_wp2_with fail
    go_ret2
    exact ⟨rfl, hfin.out⟩
end
end NT
namespace NT
open IN (Keeps)
set_option maxRecDepth 100000 in
set_option maxHeartbeats 2000000 in
theorem empty_any (g m : Nat) (u : Int) (pu : Option Nat) (M : ByteArray → Option (Int × Option Nat)) (ss : List ByteArray) (w : World) (h : DB w g u pu m M) (hs : NS.Nums M ss) :
    Calls Tryz.prog 95 #[.pointer (some ⟨g, 0, none⟩)] w fun e w' => e = .returned (.bool (decide (ss.length = 0))) ∧ w' = w := by
  have c2 := h.1.cell (j := 2) rfl
  have hl := fun ty => h.2.count hs ty
  clear h hs
  go_enter Tryz.func95, Tryz.ntmps95
  by_cases h0 : ss.length = 0
  · rw [h0] at hl ⊢
    go_wp2_with fail
    go_ret
    exact ⟨rfl, rfl⟩
  · have hne : ((ss.length : Int) == 0) = false := beq_eq_false_iff_ne.2 (by omega)
    have hd : decide (ss.length = 0) = false := decide_eq_false h0
    rw [hd]
    generalize ss.length = N at hl hne
    go_wp2_with fail
    go_ret
    exact ⟨rfl, rfl⟩
def ulC (M : ByteArray → Option (Int × Option Nat)) (k : ByteArray) (d : Bool) : Int := if PM.name k = false then 14 else match M k with
  | none => 11
  | some x => if x.2 ≠ none then 14 else if d = true then 13 else 0
set_option maxRecDepth 100000 in
set_option maxHeartbeats 4000000 in
theorem unlink1_any (n : Int) (g m : Nat) (u : Int) (pu : Option Nat) (M : ByteArray → Option (Int × Option Nat)) (k : ByteArray) (d : Bool) (hk : NS.Sm k) (w : World) (h : DB w g u pu m M) :
    Calls Tryz.prog 91 #[.agg #[.int .i64 n, .pointer (some ⟨g, 0, none⟩), .string k, .bool d]] w fun e w' => e = .returned (.int .i64 (ulC M k d)) ∧ Below w.heap.size w w' := by
  have b0 : Below w.heap.size w (w.alloc (.cells #[.int .i64 n, .pointer (some ⟨g, 0, none⟩), .string k, .bool d] 147)) := (Below.refl _ w).alloc (Nat.le_refl _) _
  have cT := W_hid (target_any n g m u pu M k d hk _ (h.keep b0))
  have cN := fun w => IsName_any k w hk
  have hp : Blk (w.alloc (.cells #[.int .i64 n, .pointer (some ⟨g, 0, none⟩), .string k, .bool d] 147)) w.heap.size 147 [.int .i64 n, .pointer (some ⟨g, 0, none⟩), .string k, .bool d] := Blk.new _ _ _ rfl
  obtain ⟨r, hr⟩ : ∃ r, (M k).getD (0, none) = r := ⟨_, rfl⟩
  obtain ⟨b, hbb⟩ : ∃ b, (M k).isSome = b := ⟨_, rfl⟩
  obtain ⟨y, hy⟩ : ∃ y, PM.name k = y := ⟨_, rfl⟩
  have hv : ulC M k d = if y = false then 14 else if b = false then 11 else if r.2 ≠ none then 14 else if d = true then 13 else 0 := by
    unfold ulC
    rw [hy]
    cases e : M k with
    | none => rw [e] at hbb; subst hbb; simp
    | some x => rw [e] at hbb hr; subst hbb; subst hr; simp
  rw [hr, hbb] at cT
  rw [hy] at cN
  replace cN := fun w => W_hid (cN w)
  rw [hv]
  obtain ⟨r1, r2⟩ := r
  have cF := fun w => isFile_any r1 r2 w
  obtain ⟨pp, hpp⟩ := ptr_form r2
  simp only [NS.nv, hpp] at cT cF
  have fin : ∀ w1 : World, Below _ (w.alloc (.cells #[.int .i64 n, .pointer (some ⟨g, 0, none⟩), .string k, .bool d] 147)) w1 → Blk (w1.alloc (.cells #[.int .i64 r1, .pointer pp] 141)) w.heap.size 147 [.int .i64 n, .pointer (some ⟨g, 0, none⟩), .string k, .bool d] ∧ Blk (w1.alloc (.cells #[.int .i64 r1, .pointer pp] 141)) w1.heap.size 141 [.int .i64 r1, .pointer pp] ∧ Below w.heap.size w (w1.alloc (.cells #[.int .i64 r1, .pointer pp] 141)) := fun w1 b1 => by
    have b2 : Below w.heap.size w w1 := b0.trans (b1.mono b0.size)
    exact ⟨(hp.keep b1).alloc _, Blk.new _ _ _ rfl, b2.alloc b2.size _⟩
  replace fin := W_hid fin
  replace cF := fun w => W_hid (cF w)
  clear h hr hbb hpp hp b0 hy hv
  go_enter Tryz.func91, Tryz.ntmps91
  go_wp2_with fail
  refine cT.out.mono ?_
  rintro e w1 ⟨rfl, b1⟩
  obtain ⟨p1, q1, B1⟩ := fin.out w1 b1
  have c1 := p1.cell (j := 1) rfl
  have c2 := p1.cell (j := 2) rfl
  have c3 := p1.cell (j := 3) rfl
  have d0 := q1.cell (j := 0) rfl
  have d1 := q1.cell (j := 1) rfl
  have B1 := W_hid B1
  have p1 := W_hid p1
  clear b1 cT fin q1
  cases y with
  | false =>
    go_wp2_with fail
    refine (cN _).out.mono ?_
    rintro e w2 ⟨rfl, rfl⟩
    go_wp2_with fail
    go_ret
    exact ⟨by simp, B1.out⟩
  | true =>
    cases b with
    | false =>
      go_wp2_with fail
      refine (cN _).out.mono ?_
      rintro e w2 ⟨rfl, rfl⟩
      go_wp2_with fail
      go_ret
      exact ⟨by simp, B1.out⟩
    | true =>
      cases r2 with
      | some g2 =>
        go_wp2_with fail
        refine (cN _).out.mono ?_
        rintro e w2 ⟨rfl, rfl⟩
        go_wp2_with fail
        refine (cF _).out.mono ?_
        rintro e w3 ⟨rfl, b3⟩
        have B3 := W_hid (B1.out.trans (b3.mono B1.out.size))
        clear b3
        simp only [Option.isNone_some]
        go_wp2_with fail
        go_ret
        exact ⟨by simp, B3.out⟩
      | none =>
        cases d with
        | true =>
          go_wp2_with fail
          refine (cN _).out.mono ?_
          rintro e w2 ⟨rfl, rfl⟩
          go_wp2_with fail
          refine (cF _).out.mono ?_
          rintro e w3 ⟨rfl, b3⟩
          have c4 := (p1.out.keep b3).cell (j := 3) rfl
          have B3 := W_hid (B1.out.trans (b3.mono B1.out.size))
          clear b3
          simp only [Option.isNone_none]
          go_wp2_with fail
          go_ret
          exact ⟨by simp, B3.out⟩
        | false =>
          go_wp2_with fail
          refine (cN _).out.mono ?_
          rintro e w2 ⟨rfl, rfl⟩
          go_wp2_with fail
          refine (cF _).out.mono ?_
          rintro e w3 ⟨rfl, b3⟩
          have c4 := (p1.out.keep b3).cell (j := 3) rfl
          have B3 := W_hid (B1.out.trans (b3.mono B1.out.size))
          clear b3
          simp only [Option.isNone_none]
          go_wp2_with fail
          go_ret
          exact ⟨by simp, B3.out⟩
def rmC (M : ByteArray → Option (Int × Option Nat)) (k : ByteArray) (es : Bool) : Int := if k = PM.dot then 2 else if k = PM.dots then 15 else match M k with
  | none => 11
  | some x => if x.2 = none then 13 else if es = false then 15 else 0
set_option maxRecDepth 100000 in
set_option maxHeartbeats 8000000 in
theorem rmdir1_any (n : Int) (g m : Nat) (u : Int) (pu : Option Nat) (M : ByteArray → Option (Int × Option Nat)) (k : ByteArray) (d es : Bool) (hk : NS.Sm k) (w : World) (h : DB w g u pu m M)
    (hes : ∀ x g2, M k = some (x, some g2) → ∃ u2 pu2 m2 M2 ss2, DB w g2 u2 pu2 m2 M2 ∧ NS.Nums M2 ss2 ∧ es = decide (ss2.length = 0)) :
    Calls Tryz.prog 94 #[.agg #[.int .i64 n, .pointer (some ⟨g, 0, none⟩), .string k, .bool d]] w fun e w' => e = .returned (.int .i64 (rmC M k es)) ∧ Below w.heap.size w w' := by
  have b0 : Below w.heap.size w (w.alloc (.cells #[.int .i64 n, .pointer (some ⟨g, 0, none⟩), .string k, .bool d] 147)) := (Below.refl _ w).alloc (Nat.le_refl _) _
  have cT := W_hid (target_any n g m u pu M k d hk _ (h.keep b0))
  have hp : Blk (w.alloc (.cells #[.int .i64 n, .pointer (some ⟨g, 0, none⟩), .string k, .bool d] 147)) w.heap.size 147 [.int .i64 n, .pointer (some ⟨g, 0, none⟩), .string k, .bool d] := Blk.new _ _ _ rfl
  obtain ⟨r, hr⟩ : ∃ r, (M k).getD (0, none) = r := ⟨_, rfl⟩
  obtain ⟨b, hbb⟩ : ∃ b, (M k).isSome = b := ⟨_, rfl⟩
  have hv : rmC M k es = if k = PM.dot then 2 else if k = PM.dots then 15 else if b = false then 11 else if r.2 = none then 13 else if es = false then 15 else 0 := by
    unfold rmC
    cases e : M k with
    | none => rw [e] at hbb; subst hbb; simp
    | some x => rw [e] at hbb hr; subst hbb; subst hr; simp
  have hes' : ∀ g2, b = true → r.2 = some g2 → ∃ u2 pu2 m2 M2 ss2, DB w g2 u2 pu2 m2 M2 ∧ NS.Nums M2 ss2 ∧ es = decide (ss2.length = 0) := fun g2 hb1 hr2 => by
    cases e : M k with
    | none => rw [e] at hbb; subst hbb; cases hb1
    | some x =>
      rw [e] at hr
      subst hr
      obtain ⟨x1, x2⟩ := x
      simp only [Option.getD_some] at hr2
      subst hr2
      exact hes x1 g2 e
  rw [hr, hbb] at cT
  rw [hv]
  obtain ⟨r1, r2⟩ := r
  have cF := fun w => isFile_any r1 r2 w
  obtain ⟨pp, hpp⟩ := ptr_form r2
  simp only [NS.nv, hpp] at cT cF
  have fin : ∀ w1 : World, Below _ (w.alloc (.cells #[.int .i64 n, .pointer (some ⟨g, 0, none⟩), .string k, .bool d] 147)) w1 → Blk (w1.alloc (.cells #[.int .i64 r1, .pointer pp] 141)) w.heap.size 147 [.int .i64 n, .pointer (some ⟨g, 0, none⟩), .string k, .bool d] ∧ Blk (w1.alloc (.cells #[.int .i64 r1, .pointer pp] 141)) w1.heap.size 141 [.int .i64 r1, .pointer pp] ∧ Below w.heap.size w (w1.alloc (.cells #[.int .i64 r1, .pointer pp] 141)) := fun w1 b1 => by
    have b2 : Below w.heap.size w w1 := b0.trans (b1.mono b0.size)
    exact ⟨(hp.keep b1).alloc _, Blk.new _ _ _ rfl, b2.alloc b2.size _⟩
  replace fin := W_hid fin
  replace cF := fun w => W_hid (cF w)
  have hes2 := W_hid hes'
  have hpp := W_hid hpp
  have hk1 : Hid (k = PM.dot → k.toList = [46]) := W_hid fun h => dot_yes h
  have hk2 : Hid (¬ k = PM.dot → (k.toList = [46]) = False ∧ (k.toList == [46]) = false) := W_hid fun h => dot_no h
  have hk3 : Hid (k = PM.dots → k.toList = [46, 46]) := W_hid fun h => dots_yes h
  have hk4 : Hid (¬ k = PM.dots → (k.toList = [46, 46]) = False ∧ (k.toList == [46, 46]) = false) := W_hid fun h => dots_no h
  clear h hr hbb hp b0 hv hes hes'
  go_enter Tryz.func94, Tryz.ntmps94
  go_wp2_with fail
  refine cT.out.mono ?_
  rintro e w1 ⟨rfl, b1⟩
  obtain ⟨p1, q1, B1⟩ := fin.out w1 b1
  have c1 := p1.cell (j := 2) rfl
  have d0 := q1.cell (j := 0) rfl
  have d1 := q1.cell (j := 1) rfl
  have B1 := W_hid B1
  have q1 := W_hid q1
  clear b1 cT fin p1
  by_cases k1 : k = PM.dot
  · have e1 := hk1.out k1
    replace k1 := W_hid k1
    go_wp2_with fail
    go_ret
    exact ⟨by first | rfl | (rw [if_pos k1.out]; rfl), B1.out⟩
  · obtain ⟨e1, e2⟩ := hk2.out k1
    replace k1 := W_hid k1
    by_cases k2 : k = PM.dots
    · have e3 := hk3.out k2
      replace k2 := W_hid k2
      go_wp2_with fail
      go_ret
      exact ⟨by first | rfl | (rw [if_neg k1.out, if_pos k2.out]; rfl), B1.out⟩
    · obtain ⟨e3, e4⟩ := hk4.out k2
      replace k2 := W_hid k2
      cases b with
      | false =>
        go_wp2_with fail
        go_ret
        exact ⟨by first | rfl | (rw [if_neg k1.out, if_neg k2.out]; rfl), B1.out⟩
      | true =>
        cases r2 with
        | none =>
          go_wp2_with fail
          refine (cF _).out.mono ?_
          rintro e w3 ⟨rfl, b3⟩
          have B3 := W_hid (B1.out.trans (b3.mono B1.out.size))
          clear b3
          simp only [Option.isNone_none]
          go_wp2_with fail
          go_ret
          exact ⟨by first | rfl | (rw [if_neg k1.out, if_neg k2.out]; rfl), B3.out⟩
        | some g2 =>
          have hp2 : pp = some ⟨g2, 0, none⟩ := by have := hpp.out; simpa [IS.ptr] using this.symm
          subst hp2
          obtain ⟨u2, pu2, m2, M2, ss2, hD2, hN2, hes3⟩ := hes2.out g2 rfl rfl
          have cE := W_hid (fun w' (hb : Below w.heap.size w w') => empty_any g2 m2 u2 pu2 M2 ss2 w' (hD2.keep hb) hN2)
          clear hD2 hN2
          go_wp2_with fail
          refine (cF _).out.mono ?_
          rintro e w3 ⟨rfl, b3⟩
          have c4 := (q1.out.keep b3).cell (j := 1) rfl
          have b4 := B1.out.trans (b3.mono B1.out.size)
          have cE1 := cE.out w3 b4
          rw [← hes3] at cE1
          have B3 := W_hid b4
          have cE1 := W_hid cE1
          clear b3 b4 cE hes3
          simp only [Option.isNone_some]
          go_wp2_with fail
          refine cE1.out.mono ?_
          rintro e w5 ⟨rfl, rfl⟩
          cases es with
          | true =>
            go_wp2_with fail
            go_ret
            exact ⟨by first | rfl | (rw [if_neg k1.out, if_neg k2.out]; rfl), B3.out⟩
          | false =>
            go_wp2_with fail
            go_ret
            exact ⟨by first | rfl | (rw [if_neg k1.out, if_neg k2.out]; rfl), B3.out⟩
end NT
namespace NT
open IN (Keeps)
section
variable {base : Nat} {w w' : World} {tg sg mb : Nat} {A : Int → Option (Nat × Nat)} {D : Ds}
set_option maxRecDepth 100000 in
set_option maxHeartbeats 2000000 in
theorem cut_parse (s : ByteArray) (hs : s.size ≤ maxLen) (r : Int) (k : Fn) (fi lb : Array Value) (w : World) (h : TM base w tg sg mb A D) (he : PM.perr s ≠ 0) : Calls Tryz.prog 90 #[.pointer (some ⟨tg, 0, none⟩), .string s, .int .i64 r, .func k fi lb] w fun e w' => e = .returned (.int .i64 (PM.perr s)) ∧ Below w.heap.size w w' := by
  have cN := W_hid (none_some w h)
  have cP := fun w => W_hid (parsed (w := w) hs)
  generalize PM.perr s = pe at cP he ⊢
  have hne : (pe == 0) = false := by simpa using he
  clear h
  go_enter Tryz.func90, Tryz.ntmps90
  go_wp2_with fail
  refine cN.out.mono ?_
  rintro e w1 ⟨rfl, b1⟩
  have B1 := W_hid b1
  clear b1 cN
  go_wp2_with fail
  refine (cP _).out.mono ?_
  rintro e w2 ⟨ao, n, cap, rfl, hS, b2⟩
  have b2' : Below w.heap.size w w2 := B1.out.trans (b2.mono B1.out.size)
  have B3 := W_hid (b2'.alloc b2'.size (.cells #[.bool (PM.pA s), .slice ao n cap, .bool (PM.pD s)] 136))
  clear b2 b2' hS
  go_wp2_with fail
  go_ret
  exact ⟨rfl, B3.out⟩
def Chk (w : World) (A : Int → Option (Nat × Nat)) (D : Ds) (l : List ByteArray) (d : Bool) (r : Int) (k : Nat) (lb : Array Value) (c : Int → Int) : Prop :=
  (∀ args w, (callFunc k args).run Tryz.prog w = .ok (.enter k args) w) ∧ ∀ m, place D l r = .ok m → ∀ W, Below w.heap.size w W → Calls Tryz.prog k (#[plv m (pa A m) (last l) d] ++ lb) W fun e W' => e = .returned (.int .i64 (c m)) ∧ Below W.heap.size W W'
theorem Chk.keep {l : List ByteArray} {d : Bool} {r : Int} {k : Nat} {lb : Array Value} {c : Int → Int} (h : Chk w A D l d r k lb c) (hb : Below w.heap.size w w') : Chk w' A D l d r k lb c :=
  ⟨h.1, fun m hp W hW => h.2 m hp W (hb.trans (hW.mono hb.size))⟩
set_option maxRecDepth 100000 in
set_option maxHeartbeats 4000000 in
theorem cut_no (s : ByteArray) (hs : s.size ≤ maxLen) (r : Int) (k : Nat) (lb : Array Value) (c : Int → Int) (w : World) (h : TM base w tg sg mb A D) (hp : PM.perr s = 0) (hC : Chk w A D (PM.pN s) (PM.pD s) r k lb c) (e0 : Int) (hv : placeC D (PM.pN s) r c = .error e0) (he : e0 ≠ 0) :
    Calls Tryz.prog 90 #[.pointer (some ⟨tg, 0, none⟩), .string s, .int .i64 r, .func (.func k) #[] lb] w fun e w' => e = .returned (.int .i64 e0) ∧ Below w.heap.size w w' := by
  have cN := W_hid (none_some w h)
  have cP := fun w => W_hid (parsed (w := w) hs)
  rw [hp] at cP
  have cV := fun (ao : Option Addr) (n cap : Nat) (w' : World) (hb : Below w.heap.size w w') (hl : SS w' ao n cap (PM.pN s)) => place_all (PM.pA s) (PM.pD s) r (PM.pN s) ao n cap k lb w' (h.keep hb) hl (pN_sm s) hC.1 c (hC.keep hb).2
  rw [hv] at cV
  simp only [pv, er] at cV
  have hne : (e0 == 0) = false := by simpa using he
  clear hC hv
  generalize PM.pN s = l at cP cV
  generalize PM.pD s = d at cP cV
  generalize PM.pA s = a at cP cV
  replace cV := W_hid cV
  clear h hp he
  go_enter Tryz.func90, Tryz.ntmps90
  go_wp2_with fail
  refine cN.out.mono ?_
  rintro e w1 ⟨rfl, b1⟩
  have B1 := W_hid b1
  clear b1 cN
  go_wp2_with fail
  refine (cP _).out.mono ?_
  rintro e w2 ⟨ao, n, cap, rfl, hS, b2⟩
  have b2' : Below w.heap.size w w2 := B1.out.trans (b2.mono B1.out.size)
  have b3 := b2'.alloc b2'.size (.cells #[.bool a, .slice ao n cap, .bool d] 136)
  have p2 : Blk (w2.alloc (.cells #[.bool a, .slice ao n cap, .bool d] 136)) w2.heap.size 136 [.bool a, .slice ao n cap, .bool d] := Blk.new _ _ _ rfl
  have c0 := p2.cell (j := 0) rfl
  have c1 := p2.cell (j := 1) rfl
  have c2 := p2.cell (j := 2) rfl
  have cV1 := W_hid (cV.out ao n cap _ b3 (hS.alloc _))
  have B3 := W_hid b3
  clear b2 b2' hS b3 p2 cV
  go_wp2_with fail
  refine cV1.out.mono ?_
  rintro e w3 ⟨rfl, b4⟩
  have b4' := B3.out.trans (b4.mono B3.out.size)
  have B4 := W_hid (b4'.alloc b4'.size (.cells #[.int .i64 0, .pointer none, .string ⟨#[]⟩, .bool false] 147))
  clear b4 b4' cV1
  go_wp2_with fail
  go_ret
  exact ⟨rfl, B4.out⟩
set_option maxRecDepth 100000 in
set_option maxHeartbeats 8000000 in
theorem cut_yes (I L B q : Nat) (M : Int → Option Nat) (S : Int → Option IN.Nd) (s : ByteArray) (hs : s.size ≤ maxLen) (r : Int) (k : Nat) (lb : Array Value) (c : Int → Int) (w : World) (h : TM base w tg sg mb A D) (hS0 : IN.PS base w sg mb M I L B q S) (hq : q < 1000000) (hp : PM.perr s = 0) (hC : Chk w A D (PM.pN s) (PM.pD s) r k lb c) (p : Int) (hv : placeC D (PM.pN s) r c = .ok p) (dp : Dr) (hdp : D p = some dp)
    (j : Int) (hj : look (last (PM.pN s)) dp.l = some j) (hj64 : IS.I64 j) :
    Calls Tryz.prog 90 #[.pointer (some ⟨tg, 0, none⟩), .string s, .int .i64 r, .func (.func k) #[] lb] w fun e w' => e = .returned (.int .i64 0) ∧ (∃ M', IN.PS base w' sg mb M' I L B q (IN.ulS S j)) ∧ TM base w' tg sg mb A (upd D p (some { dp with l := del (last (PM.pN s)) dp.l })) ∧ Keeps base (FT A mb) w w' := by
  have cN := W_hid (none_some w h)
  have cP := fun w => W_hid (parsed (w := w) hs)
  rw [hp] at cP
  have cV := fun (ao : Option Addr) (n cap : Nat) (w' : World) (hb : Below w.heap.size w w') (hl : SS w' ao n cap (PM.pN s)) => place_all (PM.pA s) (PM.pD s) r (PM.pN s) ao n cap k lb w' (h.keep hb) hl (pN_sm s) hC.1 c (hC.keep hb).2
  rw [hv] at cV
  have hz := last_sm (pN_sm s)
  simp only [pv, er, plv] at cV
  clear hC hv
  generalize PM.pN s = l at cP cV hz hj ⊢
  generalize PM.pD s = d at cP cV
  generalize PM.pA s = a at cP cV
  generalize last l = z at cV hz hj ⊢
  obtain ⟨g, m, hA, hpa, hdb⟩ := h.db hdp
  rw [hpa] at cV
  simp only [IS.ptr] at cV
  replace cV := W_hid cV
  have hnm : nm A dp.l z = some (j, pa A j) := by unfold nm; rw [hj]; rfl
  have cT := fun (w' : World) (hb : Below w.heap.size w w') => target_any p g m dp.up (pa A dp.up) (nm A dp.l) z d hz w' (hdb.keep hb)
  rw [hnm] at cT
  obtain ⟨pp, hpp⟩ := ptr_form (pa A j)
  simp only [Option.getD_some, Option.isSome_some, NS.nv, hpp] at cT
  replace cT := W_hid cT
  have cR := W_hid (fun (w' : World) (hb : Below w.heap.size w w') => remove_any base g m dp.up (pa A dp.up) (nm A dp.l) z hz w' (hdb.keep hb) (h.ge.2 p g m hA).2.1)
  have cU := W_hid (fun (w' : World) (hP : ∃ M', IN.PS base w' sg mb M' I L B q S) => show Calls Tryz.prog 148 #[.pointer (some ⟨sg, 0, none⟩), .int .i64 j] w' (IN.Out base sg mb I L B q w' (IN.ulR S j) (IN.ulS S j)) from by
    obtain ⟨M', hP⟩ := hP
    exact IN.Unlink_any j w' hP hj64 hq)
  have hm3 : m < w.heap.size := hdb.2.lt
  have H := W_hid h
  have hPS := W_hid hS0
  have hA := W_hid hA
  have hdp := W_hid hdp
  clear h hp hS0 hpa hdb hnm hpp
  go_enter Tryz.func90, Tryz.ntmps90
  go_wp2_with fail
  refine cN.out.mono ?_
  rintro e w1 ⟨rfl, b1⟩
  have B1 := W_hid b1
  clear b1 cN
  go_wp2_with fail
  refine (cP _).out.mono ?_
  rintro e w2 ⟨ao, n0, cap, rfl, hS, b2⟩
  have b2' : Below w.heap.size w w2 := B1.out.trans (b2.mono B1.out.size)
  have b3 := b2'.alloc b2'.size (.cells #[.bool a, .slice ao n0 cap, .bool d] 136)
  have p2 : Blk (w2.alloc (.cells #[.bool a, .slice ao n0 cap, .bool d] 136)) w2.heap.size 136 [.bool a, .slice ao n0 cap, .bool d] := Blk.new _ _ _ rfl
  have c0 := p2.cell (j := 0) rfl
  have c1 := p2.cell (j := 1) rfl
  have c2 := p2.cell (j := 2) rfl
  have cV1 := W_hid (cV.out ao n0 cap _ b3 (hS.alloc _))
  have B3 := W_hid b3
  clear b2 b2' hS b3 p2 cV
  go_wp2_with fail
  refine cV1.out.mono ?_
  rintro e w3 ⟨rfl, b4⟩
  have b4' := B3.out.trans (b4.mono B3.out.size)
  have b5 := b4'.alloc b4'.size (.cells #[.int .i64 p, .pointer (some ⟨g, 0, none⟩), .string z, .bool d] 147)
  have q3 : Blk (w3.alloc (.cells #[.int .i64 p, .pointer (some ⟨g, 0, none⟩), .string z, .bool d] 147)) w3.heap.size 147 [.int .i64 p, .pointer (some ⟨g, 0, none⟩), .string z, .bool d] := Blk.new _ _ _ rfl
  have cT1 := W_hid (cT.out _ b5)
  have d0 := q3.cell (j := 0) rfl
  have d1 := q3.cell (j := 1) rfl
  have d2 := q3.cell (j := 2) rfl
  have d3 := q3.cell (j := 3) rfl
  have q3 := W_hid q3
  have B4 := W_hid b5
  have hw3 := W_hid b4'.size
  clear b4 b4' b5 cV1 cT
  go_wp2_with fail
  refine cT1.out.mono ?_
  rintro e w4 ⟨rfl, b6⟩
  have q4 := (q3.out.keep b6).alloc (.cells #[.int .i64 j, .pointer pp] 141)
  have r4 : Blk (w4.alloc (.cells #[.int .i64 j, .pointer pp] 141)) w4.heap.size 141 [.int .i64 j, .pointer pp] := Blk.new _ _ _ rfl
  have b6' := B4.out.trans (b6.mono B4.out.size)
  have b7 := b6'.alloc b6'.size (.cells #[.int .i64 j, .pointer pp] 141)
  have cR1 := W_hid (cR.out _ b7)
  have f1 := q4.cell (j := 1) rfl
  have f2 := q4.cell (j := 2) rfl
  have B5 := W_hid b7
  have r4 := W_hid r4
  have hw4 := W_hid b6'.size
  clear b6 b6' b7 cT1 cR q4 q3
  go_wp2_with fail
  refine cR1.out.mono ?_
  rintro e w5 ⟨rfl, hM5, hK5⟩
  have hT5 := ((H.out.keep B5.out).turn hA.out hdp.out (l' := del z dp.l) (by rw [nm_del]; exact hM5) hK5)
  have hKK : Keeps base (FT A mb) w w5 := (Keeps.new B5.out H.out.low).trans (keeps_one hA.out hK5)
  have hb := H.out.ge.2 p g m hA.out
  have hP5 : ∃ M', IN.PS base w5 sg mb M' I L B q S := ⟨M, (hPS.out.keep B5.out).keeps hK5 (by simp [One]) (by simp [One]) (by simp [One, hb.2.2.symm]) (by simp [One])⟩
  have r5 : Blk w5 w4.heap.size 141 [.int .i64 j, .pointer pp] := hK5.block _ _ r4.out fun h => by have := h.1; have := hw4.out; omega
  have x0 := r5.cell (j := 0) rfl
  have t0 := hT5.box.cell (j := 0) rfl
  have cU1 := W_hid (cU.out w5.drew (by obtain ⟨M', h1⟩ := hP5; exact ⟨M', h1.pm.drew1, h1.fn, h1.lim⟩))
  have r5h := W_hid r5
  have hKK := W_hid hKK
  have hT5 := W_hid hT5
  clear hM5 hK5 cR1 r5 hP5 cU
  go_wp2_with fail
  go_region_held3 (fun w' => w'.cell? ⟨tg, 0, none⟩ = some (.pointer (some ⟨sg, 0, none⟩)) ∧ w'.cell? ⟨w4.heap.size, 0, none⟩ = some (.int .i64 j)) (first | assumption | go_keep)
    (first
      | (go_at_call 148; refine cU1.out.mono ?_; rintro e w6 ⟨rfl, hP6, hK6⟩; have hT6 := hT5.out.store (w' := w6) hK6.undrew; have S6 : w6.cell? ⟨tg, 0, none⟩ = some (.pointer (some ⟨sg, 0, none⟩)) ∧ w6.cell? ⟨w4.heap.size, 0, none⟩ = some (.int .i64 j) := ⟨hT6.box.cell (j := 0) rfl, (show Blk w6 w4.heap.size 141 [.int .i64 j, .pointer pp] from hK6.undrew.block _ _ r5h.out (by simp [IN.PT])).cell (j := 0) rfl⟩))
  all_goals
    have hfin := W_hid (show (∃ M', IN.PS base w6 sg mb M' I L B q (IN.ulS S j)) ∧ TM base w6 tg sg mb A (upd D p (some { dp with l := del z dp.l })) ∧ Keeps base (FT A mb) w w6 from ⟨hP6, hT6, hKK.out.trans (keeps_store hK6.undrew)⟩)
    clear hT6 S6 hP6 hK6
    go_wp2_with fail
    go_ret
    exact ⟨rfl, hfin.out⟩
end
end NT
end Go.Proofs.YtmnmheocmcmpmaaGreat

/- Contracts of package names' yields and within. -/
import Derived.Test.YtfhidjkhmjdioaaGreatZT03
import Derived.Maps.AppendAt
import Derived.Deep.RegionLaw
import Derived.RegionTactic
import Derived.Deep.DeepAppendWide
import Derived.WalkSmall
import Derived.Test.YtfhidjkhmjdioaaGreatZT01
import Derived.Lib.UnsafeStr
import Derived.Lib.BufferWrite
import Derived.Laws.MakeOwn
import Derived.Test.YtfhidjkhmjdioaaGreatZT02
import Derived.Deep.RegionHeld3

namespace Go.Proofs.YtfhidjkhmjdioaaGreat
open Go.ChangeShapes Go.WideShapes Go.ChangeAt Go.RowKit Go.Maps
set_option linter.unusedVariables false
set_option linter.unusedSimpArgs false
namespace NT
open IN (Keeps)
def boxed (w : World) (n : Int) (x : Option Nat) : World := w.alloc (.cells #[.int .i64 n, IS.ptr x] 90)
set_option maxRecDepth 100000 in
set_option maxHeartbeats 1000000 in
theorem isFile_any (n : Int) (x : Option Nat) (w : World) : Calls Tryz.prog 78 #[.agg #[.int .i64 n, IS.ptr x]] w fun e w' => e = .returned (.bool x.isNone) ∧ Below w.heap.size w w' := by
  have hb := (Below.refl w.heap.size w).alloc (Nat.le_refl _) (.cells #[.int .i64 n, IS.ptr x] 90)
  cases x with
  | none =>
    simp only [IS.ptr] at hb ⊢
    go_enter Tryz.func78, Tryz.ntmps78
    go_wp2_with fail
    go_ret
    exact ⟨rfl, hb⟩
  | some g =>
    simp only [IS.ptr] at hb ⊢
    go_enter Tryz.func78, Tryz.ntmps78
    go_wp2_with fail
    go_ret
    exact ⟨rfl, hb⟩
theorem res_node {fn : Func} {r t : Tmp} (hres : fn.results = #[.cell r 90, .tmp t]) (tmps : Array Value) (w : World) {g : Nat} {n p : Value} (hr : tmps.getD r undef = .pointer (some ⟨g, 0, none⟩)) (h : Blk w g 90 [n, p]) :
    (results fn tmps).run Tryz.prog w = .ok (.tuple #[.agg #[n, p], tmps.getD t undef]) w := by
  have h0 := h.cell (j := 0) rfl
  have h1 := h.cell (j := 1) rfl
  rw [Array.getD_eq_getD_getElem?] at hr
  simp [results, hres, go_sem, hr, h0, h1]
theorem new2 (w : World) (a b : Obj) : Below w.heap.size w ((w.alloc a).alloc b) := ((Below.refl _ w).alloc (Nat.le_refl _) a).alloc (by simp) b
theorem new3 (w : World) (a b c : Obj) : Below w.heap.size w (((w.alloc a).alloc b).alloc c) := (new2 w a b).alloc (by simp; omega) c
def DB (w : World) (g : Nat) (u : Int) (pu : Option Nat) (m : Nat) (M : ByteArray → Option (Int × Option Nat)) : Prop := Blk w g 94 [.int .i64 u, IS.ptr pu, .map (some m)] ∧ NS.MB w m M
theorem DB.keep {w w' : World} {g m : Nat} {u : Int} {pu : Option Nat} {M : ByteArray → Option (Int × Option Nat)} (h : DB w g u pu m M) (hb : Below w.heap.size w w') : DB w' g u pu m M := ⟨h.1.keep hb, h.2.keep hb⟩
set_option maxRecDepth 100000 in
set_option maxHeartbeats 2000000 in
theorem get_any (g m : Nat) (u : Int) (pu : Option Nat) (M : ByteArray → Option (Int × Option Nat)) (k : ByteArray) (hk : NS.Sm k) (w : World) (h : DB w g u pu m M) :
    Calls Tryz.prog 125 #[.pointer (some ⟨g, 0, none⟩), .string k] w fun e w' => e = .returned (.tuple #[NS.nv ((M k).getD (0, none)), .bool (M k).isSome]) ∧ Below w.heap.size w w' := by
  have c2 := fun o => (h.1.alloc o).cell (j := 2) rfl
  obtain ⟨r, hr⟩ : ∃ r, (M k).getD (0, none) = r := ⟨_, rfl⟩
  obtain ⟨b, hbb⟩ : ∃ b, (M k).isSome = b := ⟨_, rfl⟩
  rw [hr, hbb]
  have hl := fun o => (h.2.alloc o).look k hk
  simp only [hr, hbb] at hl
  clear hr hbb
  replace h := W_hid h
  obtain ⟨n, x⟩ := r
  unfold NS.nv at hl ⊢
  cases x with
  | none =>
    simp only [IS.ptr] at hl ⊢
    go_enter Tryz.func125, Tryz.ntmps125
    go_wp2_with fail
    exact bodyPost_ret (res_node Tryz.results125 _ _ rfl ((Blk.new _ _ _ rfl).alloc _)) rfl ⟨rfl, new2 _ _ _⟩
  | some g' =>
    simp only [IS.ptr] at hl ⊢
    go_enter Tryz.func125, Tryz.ntmps125
    go_wp2_with fail
    exact bodyPost_ret (res_node Tryz.results125 _ _ rfl ((Blk.new _ _ _ rfl).alloc _)) rfl ⟨rfl, new2 _ _ _⟩
set_option maxRecDepth 100000 in
set_option maxHeartbeats 2000000 in
theorem step_file (n : Int) (k : ByteArray) (w : World) :
    Calls Tryz.prog 168 #[.agg #[.int .i64 n, .pointer none], .string k] w fun e w' => e = .returned (.tuple #[.agg #[.int .i64 0, .pointer none], .int .i64 13]) ∧ Below w.heap.size w w' := by
  have cF := fun w => W_hid (isFile_any n none w)
  simp only [IS.ptr, Option.isNone_none] at cF
  go_enter Tryz.func168, Tryz.ntmps168
  go_wp2_with fail
  refine (cF _).out.mono ?_
  rintro e w1 ⟨rfl, b1⟩
  have n1 : Blk w1 (w.heap.size + 1) 90 [.int .i64 0, .pointer none] := (Blk.new _ _ _ (by simp)).keep b1
  have c0 := n1.cell (j := 0) rfl
  have c1 := n1.cell (j := 1) rfl
  have f1 := n1.fz
  have N1 := W_hid ((n1.set 0 (.int .i64 0)).set 1 (.pointer none))
  have BB := W_hid ((((new2 w _ _).trans (b1.mono (by simp; omega))).setCell (p := ⟨w.heap.size + 1, 0, none⟩) (by simp) (.int .i64 0)).setCell (p := ⟨w.heap.size + 1, 1, none⟩) (by simp) (.pointer none))
  clear b1 n1
  go_wp2_with fail
  refine bodyPost_ret (res_node Tryz.results168 _ _ rfl N1.out) rfl ?_
  exact ⟨rfl, BB.out⟩
theorem ptr_form (x : Option Nat) : ∃ pp : Option Addr, IS.ptr x = .pointer pp := by cases x <;> exact ⟨_, rfl⟩
def stv (n : Int) (g : Nat) (u : Int) (pu : Option Nat) (M : ByteArray → Option (Int × Option Nat)) (k : ByteArray) : Int × Option Nat := if k = PM.dot then (n, some g) else if k = PM.dots then (u, pu) else (M k).getD (0, none)
def ste (M : ByteArray → Option (Int × Option Nat)) (k : ByteArray) : Int := if k = PM.dot then 0 else if k = PM.dots then 0 else if (M k).isSome = true then 0 else 11
set_option maxRecDepth 100000 in
set_option maxHeartbeats 4000000 in
theorem step_dot (n : Int) (g : Nat) (w : World) :
    Calls Tryz.prog 168 #[.agg #[.int .i64 n, .pointer (some ⟨g, 0, none⟩)], .string PM.dot] w fun e w' => e = .returned (.tuple #[.agg #[.int .i64 n, .pointer (some ⟨g, 0, none⟩)], .int .i64 0]) ∧ Below w.heap.size w w' := by
  have cF := fun w => W_hid (isFile_any n (some g) w)
  simp only [IS.ptr, Option.isNone_some] at cF
  obtain ⟨k, hk⟩ : ∃ k, PM.dot = k := ⟨_, rfl⟩
  rw [hk]
  have e1 := dot_yes hk.symm
  clear hk
  go_enter Tryz.func168, Tryz.ntmps168
  go_wp2_with fail
  refine (cF _).out.mono ?_
  rintro e w1 ⟨rfl, b1⟩
  have n0 : Blk w1 w.heap.size 90 [.int .i64 n, .pointer (some ⟨g, 0, none⟩)] := ((Blk.new _ _ _ rfl).alloc _).keep b1
  have n1 : Blk w1 (w.heap.size + 1) 90 [.int .i64 0, .pointer none] := (Blk.new _ _ _ (by simp)).keep b1
  have c0 := n1.cell (j := 0) rfl
  have c1 := n1.cell (j := 1) rfl
  have d0 := n0.cell (j := 0) rfl
  have d1 := n0.cell (j := 1) rfl
  have f1 := n1.fz
  have N1 := W_hid ((n1.set 0 (.int .i64 n)).set 1 (.pointer (some ⟨g, 0, none⟩)))
  have BB := W_hid ((((new2 w _ _).trans (b1.mono (by simp; omega))).setCell (p := ⟨w.heap.size + 1, 0, none⟩) (by simp) (.int .i64 n)).setCell (p := ⟨w.heap.size + 1, 1, none⟩) (by simp) (.pointer (some ⟨g, 0, none⟩)))
  clear b1 n1 n0
  go_wp2_with fail
  refine bodyPost_ret (res_node Tryz.results168 _ _ rfl N1.out) rfl ?_
  exact ⟨rfl, BB.out⟩
set_option maxRecDepth 100000 in
set_option maxHeartbeats 4000000 in
theorem step_up (n : Int) (g m : Nat) (u : Int) (pu : Option Nat) (M : ByteArray → Option (Int × Option Nat)) (w : World) (h : DB w g u pu m M) :
    Calls Tryz.prog 168 #[.agg #[.int .i64 n, .pointer (some ⟨g, 0, none⟩)], .string PM.dots] w fun e w' => e = .returned (.tuple #[NS.nv (u, pu), .int .i64 0]) ∧ Below w.heap.size w w' := by
  have cF := fun w => W_hid (isFile_any n (some g) w)
  simp only [IS.ptr, Option.isNone_some] at cF
  have h1 := h.1
  clear h
  unfold NS.nv
  obtain ⟨pp, hpp⟩ := ptr_form pu
  rw [hpp] at h1 ⊢
  clear hpp
  obtain ⟨k, hk⟩ : ∃ k, PM.dots = k := ⟨_, rfl⟩
  rw [hk]
  have e1 := dots_yes hk.symm
  clear hk
  go_enter Tryz.func168, Tryz.ntmps168
  go_wp2_with fail
  refine (cF _).out.mono ?_
  rintro e w1 ⟨rfl, b1⟩
  have n0 : Blk w1 w.heap.size 90 [.int .i64 n, .pointer (some ⟨g, 0, none⟩)] := ((Blk.new _ _ _ rfl).alloc _).keep b1
  have n1 : Blk w1 (w.heap.size + 1) 90 [.int .i64 0, .pointer none] := (Blk.new _ _ _ (by simp)).keep b1
  have hd := ((h1.alloc _).alloc _).keep b1
  have c0 := n1.cell (j := 0) rfl
  have c1 := n1.cell (j := 1) rfl
  have d0 := n0.cell (j := 0) rfl
  have d1 := n0.cell (j := 1) rfl
  have g0 := hd.cell (j := 0) rfl
  have g1 := hd.cell (j := 1) rfl
  have f1 := n1.fz
  have N1 := W_hid ((n1.set 0 (.int .i64 u)).set 1 (.pointer pp))
  have BB := W_hid ((((new2 w _ _).trans (b1.mono (by simp; omega))).setCell (p := ⟨w.heap.size + 1, 0, none⟩) (by simp) (.int .i64 u)).setCell (p := ⟨w.heap.size + 1, 1, none⟩) (by simp) (.pointer pp))
  clear b1 n1 n0 hd h1
  go_wp2_with fail
  refine bodyPost_ret (res_node Tryz.results168 _ _ rfl N1.out) rfl ?_
  exact ⟨rfl, BB.out⟩
set_option maxRecDepth 100000 in
set_option maxHeartbeats 4000000 in
theorem step_name (n : Int) (g m : Nat) (u : Int) (pu : Option Nat) (M : ByteArray → Option (Int × Option Nat)) (k : ByteArray) (hs : NS.Sm k) (k1 : k ≠ PM.dot) (k2 : k ≠ PM.dots) (w : World) (h : DB w g u pu m M) :
    Calls Tryz.prog 168 #[.agg #[.int .i64 n, .pointer (some ⟨g, 0, none⟩)], .string k] w fun e w' => e = .returned (.tuple #[NS.nv ((M k).getD (0, none)), .int .i64 (if (M k).isSome = true then 0 else 11)]) ∧ Below w.heap.size w w' := by
  have cF := fun w => W_hid (isFile_any n (some g) w)
  simp only [IS.ptr, Option.isNone_some] at cF
  have cG := fun w h => W_hid (get_any g m u pu M k hs w h)
  have h := W_hid h
  obtain ⟨e1, e2⟩ := dot_no k1
  obtain ⟨e3, e4⟩ := dots_no k2
  clear k1 k2
  cases hM : M k with
  | none =>
    rw [hM] at cG
    simp only [Option.getD_none, Option.isSome_none, NS.nv, IS.ptr] at cG ⊢
    go_enter Tryz.func168, Tryz.ntmps168
    go_wp2_with fail
    refine (cF _).out.mono ?_
    rintro e w1 ⟨rfl, b1⟩
    have n0 : Blk w1 w.heap.size 90 [.int .i64 n, .pointer (some ⟨g, 0, none⟩)] := ((Blk.new _ _ _ rfl).alloc _).keep b1
    have n1 : Blk w1 (w.heap.size + 1) 90 [.int .i64 0, .pointer none] := (Blk.new _ _ _ (by simp)).keep b1
    have hd := (h.out.keep (new2 w _ _)).keep b1
    have d0 := n0.cell (j := 0) rfl
    have d1 := n0.cell (j := 1) rfl
    have BB := W_hid ((new2 w _ _).trans (b1.mono (by simp; omega)))
    have n1 := W_hid n1
    have cG1 := cG _ hd
    clear b1 n0 hd cG
    go_wp2_with fail
    refine cG1.out.mono ?_
    rintro e w2 ⟨rfl, b2⟩
    have n2 := ((n1.out.keep b2)).alloc (.cells #[.int .i64 0, .pointer none] 90)
    have c0 := n2.cell (j := 0) rfl
    have c1 := n2.cell (j := 1) rfl
    have f1 := n2.fz
    have N1 := W_hid ((n2.set 0 (.int .i64 0)).set 1 (.pointer none))
    have b2' : Below w.heap.size w w2 := BB.out.trans (b2.mono BB.out.size)
    have B2 := W_hid (((b2'.alloc b2'.size (.cells #[.int .i64 0, .pointer none] 90)).setCell (p := ⟨w.heap.size + 1, 0, none⟩) (by simp) (.int .i64 0)).setCell (p := ⟨w.heap.size + 1, 1, none⟩) (by simp) (.pointer none))
    clear b2 n2 b2' n1 BB cG1
    go_wp2_with fail
    refine bodyPost_ret (res_node Tryz.results168 _ _ rfl N1.out) rfl ?_
    exact ⟨rfl, B2.out⟩
  | some r =>
    rw [hM] at cG
    obtain ⟨r1, r2⟩ := r
    obtain ⟨pp, hpp⟩ := ptr_form r2
    simp only [Option.getD_some, Option.isSome_some, NS.nv, hpp] at cG ⊢
    clear hpp
    go_enter Tryz.func168, Tryz.ntmps168
    go_wp2_with fail
    refine (cF _).out.mono ?_
    rintro e w1 ⟨rfl, b1⟩
    have n0 : Blk w1 w.heap.size 90 [.int .i64 n, .pointer (some ⟨g, 0, none⟩)] := ((Blk.new _ _ _ rfl).alloc _).keep b1
    have n1 : Blk w1 (w.heap.size + 1) 90 [.int .i64 0, .pointer none] := (Blk.new _ _ _ (by simp)).keep b1
    have hd := (h.out.keep (new2 w _ _)).keep b1
    have d0 := n0.cell (j := 0) rfl
    have d1 := n0.cell (j := 1) rfl
    have BB := W_hid ((new2 w _ _).trans (b1.mono (by simp; omega)))
    have n1 := W_hid n1
    have cG1 := cG _ hd
    clear b1 n0 hd cG
    go_wp2_with fail
    refine cG1.out.mono ?_
    rintro e w2 ⟨rfl, b2⟩
    have n2 := ((n1.out.keep b2)).alloc (.cells #[.int .i64 r1, .pointer pp] 90)
    have c0 := n2.cell (j := 0) rfl
    have c1 := n2.cell (j := 1) rfl
    have f1 := n2.fz
    have N1 := W_hid ((n2.set 0 (.int .i64 r1)).set 1 (.pointer pp))
    have b2' : Below w.heap.size w w2 := BB.out.trans (b2.mono BB.out.size)
    have B2 := W_hid (((b2'.alloc b2'.size (.cells #[.int .i64 r1, .pointer pp] 90)).setCell (p := ⟨w.heap.size + 1, 0, none⟩) (by simp) (.int .i64 r1)).setCell (p := ⟨w.heap.size + 1, 1, none⟩) (by simp) (.pointer pp))
    clear b2 n2 b2' n1 BB cG1
    go_wp2_with fail
    refine bodyPost_ret (res_node Tryz.results168 _ _ rfl N1.out) rfl ?_
    exact ⟨rfl, B2.out⟩
def rv (A : Int → Option (Nat × Nat)) : Except Int Int → Value
  | .ok m => NS.nv (m, pa A m)
  | .error _ => NS.nv (0, none)
section
variable {base : Nat} {w w' : World} {tg sg mb : Nat} {A : Int → Option (Nat × Nat)} {D : Ds}
theorem step_any (n : Int) (k : ByteArray) (hs : NS.Sm k) (w : World) (h : TM base w tg sg mb A D) :
    Calls Tryz.prog 168 #[NS.nv (n, pa A n), .string k] w fun e w' => e = .returned (.tuple #[rv A (step D n k), .int .i64 (er (step D n k))]) ∧ Below w.heap.size w w' := by
  cases hD : D n with
  | none =>
    have hA := (h.dom n).2 hD
    have e1 : pa A n = none := by unfold pa; rw [hA]; rfl
    have e2 : step D n k = .error 13 := by unfold step; rw [hD]
    rw [e1, e2]
    exact step_file n k w
  | some d =>
    obtain ⟨g, m, hA, hb, hm⟩ := h.has hD
    have e1 : pa A n = some g := by unfold pa; rw [hA]; rfl
    have hB : DB w g d.up (pa A d.up) m (nm A d.l) := ⟨hb, hm⟩
    rw [e1]
    by_cases k1 : k = PM.dot
    · have e2 : step D n k = .ok n := by unfold step; rw [hD]; simp [k1]
      have e3 : rv A (.ok n) = NS.nv (n, some g) := by simp [rv, e1]
      rw [e2, k1, e3]
      exact step_dot n g w
    · by_cases k2 : k = PM.dots
      · have e2 : step D n k = .ok d.up := by unfold step; rw [hD]; simp [k1, k2, PM.dot_ne.symm]
        rw [e2, k2]
        exact step_up n g m d.up _ _ w hB
      · have c := step_name n g m d.up _ _ k hs k1 k2 w hB
        cases hl : look k d.l with
        | none =>
          have e2 : step D n k = .error 11 := by unfold step; rw [hD]; simp [k1, k2, hl]
          have e3 : nm A d.l k = none := by simp [nm, hl]
          rw [e2]
          rw [e3] at c
          exact c
        | some j =>
          have e2 : step D n k = .ok j := by unfold step; rw [hD]; simp [k1, k2, hl]
          have e3 : nm A d.l k = some (j, pa A j) := by simp [nm, hl]
          rw [e2]
          rw [e3] at c
          exact c
end
end NT
end Go.Proofs.YtfhidjkhmjdioaaGreat

namespace Go.Proofs.YtfhidjkhmjdioaaGreat
open Go.ChangeShapes Go.WideShapes Go.ChangeAt Go.RowKit
set_option linter.unusedVariables false
set_option linter.unusedSimpArgs false
theorem info_str : (Tryz.prog.info? 9).map (fun i => (i.zero, i.size, i.bytes)) = some (some (.string ByteArray.empty), 1, 16) := by kernel_rfl
def scl (l : List ByteArray) : List Value := l.map Value.string
theorem scl_length (l : List ByteArray) : (scl l).length = l.length := by simp [scl]
theorem scl_append (a b : List ByteArray) : scl (a ++ b) = scl a ++ scl b := by simp [scl]
theorem scl_get (l : List ByteArray) (j : Nat) : (scl l)[j]? = (l[j]?).map Value.string := by simp [scl]
def PB (w : World) (g : Nat) (a : Bool) (v : Value) (d : Bool) : Prop := w.heap[g]? = some (.cells #[.bool a, v, .bool d] 158 (0, 0))
section
variable {w w' : World} {g : Nat} {a d : Bool} {v : Value}
theorem PB.c0 (h : PB w g a v d) : w.cell? ⟨g, 0, none⟩ = some (.bool a) := by rw [cell_of_row w g 0 _ _ _ h]; rfl
theorem PB.c1 (h : PB w g a v d) : w.cell? ⟨g, 1, none⟩ = some v := by rw [cell_of_row w g 1 _ _ _ h]; rfl
theorem PB.c2 (h : PB w g a v d) : w.cell? ⟨g, 2, none⟩ = some (.bool d) := by rw [cell_of_row w g 2 _ _ _ h]; rfl
theorem PB.fz (h : PB w g a v d) (i : Nat) : w.frozen? ⟨g, i, none⟩ = false := by unfold PB at h; simp [World.frozen?, h]
theorem PB.lt (h : PB w g a v d) : g < w.heap.size := by
  rcases Nat.lt_or_ge g w.heap.size with hlt | hge
  · exact hlt
  · unfold PB at h; rw [Array.getElem?_eq_none hge] at h; cases h
theorem PB.below {B : Nat} (h : PB w g a v d) (hb : Below B w w') (hg : g < B) : PB w' g a v d := (hb.block g hg).trans h
theorem PB.alloc (h : PB w g a v d) (o : Obj) : PB (w.alloc o) g a v d := (Below.heap_alloc w o g h.lt).trans h
theorem PB.grown {row : Option Nat} (h : PB w g a v d) (hb : w.grownBy w' row) (hg : some g ≠ row) : PB w' g a v d := (hb.block g h.lt hg).trans h
theorem PB.far (h : PB w g a v d) {p : Addr} (hp : g ≠ p.block) (u : Value) : PB (w.setCell p u) g a v d := (Below.heap_setCell w p u g hp).trans h
theorem PB.new {x : Nat} (w : World) (a : Bool) (v : Value) (d : Bool) (hx : x = w.heap.size) : PB (w.alloc (.cells #[.bool a, v, .bool d] 158)) x a v d := by subst hx; exact heap_alloc_new w _
theorem PB.set1 (h : PB w g a v d) (u : Value) : PB (w.setCell ⟨g, 1, none⟩ u) g a u d := by
  unfold PB at h ⊢
  simp [World.setCell, Array.getElem?_modify, h]
theorem PB.set0 (h : PB w g a v d) (b : Bool) : PB (w.setCell ⟨g, 0, none⟩ (.bool b)) g b v d := by
  unfold PB at h ⊢
  simp [World.setCell, Array.getElem?_modify, h]
theorem PB.set2 (h : PB w g a v d) (b : Bool) : PB (w.setCell ⟨g, 2, none⟩ (.bool b)) g a v b := by
  unfold PB at h ⊢
  simp [World.setCell, Array.getElem?_modify, h]
end
theorem res_path {fn : Func} {r t : Tmp} (hres : fn.results = #[.cell r 158, .tmp t]) (tmps : Array Value) (w : World) {g : Nat} {a d : Bool} {v : Value} (hr : tmps.getD r undef = .pointer (some ⟨g, 0, none⟩)) (hp : PB w g a v d) :
    (results fn tmps).run Tryz.prog w = .ok (.tuple #[.agg #[.bool a, v, .bool d], tmps.getD t undef]) w := by
  have c0 := hp.c0
  have c1 := hp.c1
  have c2 := hp.c2
  rw [Array.getD_eq_getD_getElem?] at hr
  simp [results, hres, go_sem, hr, c0, c1, c2]
theorem own_form {w : World} {base e n : Nat} {v : Value} {xs : List Value} (h : w.ownsRow base e 1 v n xs) : ∃ ao cap, v = .slice ao n cap := by
  rcases h.2 with ⟨rfl, rfl⟩ | ⟨g, cap, cur, rfl, _⟩
  · have := h.1; simp at this; subst this; exact ⟨_, _, rfl⟩
  · exact ⟨_, _, rfl⟩
theorem own_set {w : World} {base e size n : Nat} {v : Value} {xs : List Value} (h : w.ownsRow base e size v n xs) {p : Addr} (hp : p.block < base) (u : Value) : (w.setCell p u).ownsRow base e size v n xs := by
  rcases h.2 with h0 | ⟨g, cap, cur, h1, h2, h3, h4⟩
  · exact ⟨h.1, .inl h0⟩
  · exact ⟨h.1, .inr ⟨g, cap, cur, h1, h2, (Below.heap_setCell w p u g (by omega)).trans h3, h4⟩⟩
theorem append_keeps {w wr w2 : World} {o : Obj} {a d : Bool} {v v2 : Value} {n n2 : Nat} {xs xs2 : List Value} {a0 d0 : Bool} {v0 : Value} {e : TypeId}
    (hp0 : PB wr w.heap.size a0 v0 d0) (hp1 : PB wr (w.heap.size + 1) a v d) (hown : wr.ownsRow (w.heap.size + 2) e 1 v n xs) (bel : Below w.heap.size w wr)
    (hown2 : w2.ownsRow (w.heap.size + 2) e 1 v2 n2 xs2) (hg : (wr.alloc o).grownBy w2 v.ownBlock) :
    PB w2 w.heap.size a0 v0 d0 ∧ PB w2 (w.heap.size + 1) a v d ∧ w2.ownsRow (w.heap.size + 2) e 1 v2 n2 xs2 ∧ Below w.heap.size w w2 ∧ wr.heap.size ≤ w2.heap.size := by
  refine ⟨(hp0.alloc _).grown hg ?_, (hp1.alloc _).grown hg ?_, hown2, (bel.alloc bel.size _).grown hg (by simp; have := bel.size; omega) (fun g h => by have := own_ge hown g h; omega), Nat.le_trans (by simp) hg.size⟩
  · intro h; have := own_ge hown _ h.symm; omega
  · intro h; have := own_ge hown _ h.symm; omega
theorem first_eq (s : ByteArray) (h : 0 < s.size) : PM.first s = ((s[0].toNat : Int) == 47) := by
  have := byte_get s 0 h
  unfold PM.first
  rw [← List.drop_zero (l := s.data.toList), this]
  simp only [List.head?_cons, Option.any_some]
  rw [Bool.eq_iff_iff, beq_iff_eq, beq_iff_eq]; omega
theorem last_eq (s : ByteArray) (h : 0 < s.size) : PM.last s = ((s[s.size - 1].toNat : Int) == 47) := by
  unfold PM.last
  rw [List.getLast?_eq_getElem?, PM.list_size, List.getElem?_eq_getElem (by rw [PM.list_size]; omega)]
  simp only [Option.any_some]
  have e : s.data.toList[s.size - 1]'(by rw [PM.list_size]; omega) = s[s.size - 1] := rfl
  rw [e, Bool.eq_iff_iff, beq_iff_eq, beq_iff_eq]
  omega
theorem extract_list (s : ByteArray) (a b : Nat) : (s.extract a b).data.toList = (s.data.toList.take b).drop a := by
  rw [ByteArray.data_extract, Array.toList_extract, List.extract_eq_take_drop, List.drop_take]
theorem cut_size (s : ByteArray) (a b : Nat) (h1 : a ≤ b) (h2 : b ≤ s.size) : (s.extract a b).size = b - a := by
  rw [← PM.list_size, extract_list, List.length_drop, List.length_take, PM.list_size]; omega
def part (s : ByteArray) (a b : Nat) : List UInt8 := (s.extract a b).data.toList
theorem part_length (s : ByteArray) (a b : Nat) (h1 : a ≤ b) (h2 : b ≤ s.size) : (part s a b).length = b - a := by
  unfold part; rw [PM.list_size, cut_size s a b h1 h2]
theorem part_nil (s : ByteArray) (a : Nat) : part s a a = [] := by
  unfold part; rw [extract_list]
  exact List.drop_eq_nil_of_le (by simp; omega)
theorem part_snoc (s : ByteArray) (a b : Nat) (h1 : a ≤ b) (h2 : b < s.size) : part s a (b + 1) = part s a b ++ [s[b]] := by
  unfold part
  rw [extract_list, extract_list, List.take_succ_eq_append_getElem (by rw [PM.list_size]; exact h2), List.drop_append]
  have e : a - (List.take b s.data.toList).length = 0 := by rw [List.length_take, PM.list_size]; omega
  rw [e]; rfl
theorem str_part (s : ByteArray) (a b : Nat) : PM.str (part s a b) = s.extract a b := PM.str_of _
def At (s : ByteArray) (k a : Nat) (l : List ByteArray) : Prop :=
  (k ≤ s.size ∧ a ≤ k ∧ PM.split (part s a k) l (s.data.toList.drop k) = PM.split [] [] s.data.toList) ∨ (k = s.size + 1 ∧ PM.split [] [] s.data.toList = some l)
theorem At.start (s : ByteArray) : At s 0 0 [] := .inl ⟨Nat.zero_le _, Nat.le_refl _, by rw [part_nil]; rfl⟩
theorem At.go {s : ByteArray} {k a : Nat} {l : List ByteArray} (h : At s k a l) (hk : k < s.size) (hc : ¬ (s[k].toNat : Int) = 47) : At s (k + 1) a l := by
  rcases h with ⟨h1, h2, h3⟩ | ⟨h1, -⟩
  · refine .inl ⟨by omega, by omega, ?_⟩
    rw [← h3, byte_get s k hk, PM.split, if_neg (by omega), part_snoc s a k h2 hk]
  · omega
theorem At.stop {s : ByteArray} {k a : Nat} {l : List ByteArray} (h : At s k a l) (hk : k ≤ s.size) (hc : ∀ h : k < s.size, (s[k].toNat : Int) = 47) (h32 : 32 < k - a) : PM.split [] [] s.data.toList = none := by
  rcases h with ⟨h1, h2, h3⟩ | ⟨h1, -⟩
  · have hl := part_length s a k h2 h1
    rw [← h3]
    by_cases hlt : k < s.size
    · rw [byte_get s k hlt, PM.split, if_pos (by have := hc hlt; omega), if_pos (by omega)]
    · rw [List.drop_eq_nil_of_le (by rw [PM.list_size]; omega), PM.split, if_pos (by omega)]
  · omega
theorem At.next {s : ByteArray} {k a : Nat} {l : List ByteArray} (h : At s k a l) (hk : k ≤ s.size) (hc : ∀ h : k < s.size, (s[k].toNat : Int) = 47) (h32 : ¬ 32 < k - a) : At s (k + 1) (k + 1) (if k = a then l else l ++ [s.extract a k]) := by
  rcases h with ⟨h1, h2, h3⟩ | ⟨h1, -⟩
  · have hl := part_length s a k h2 h1
    have he : PM.emit (part s a k) l = if k = a then l else l ++ [s.extract a k] := by
      unfold PM.emit
      by_cases e : k = a
      · rw [if_pos e, if_pos (by rw [e]; exact part_nil s a)]
      · rw [if_neg e, if_neg (fun h => by rw [h] at hl; simp at hl; omega), str_part]
    rw [← he]
    by_cases hlt : k < s.size
    · refine .inl ⟨by omega, Nat.le_refl _, ?_⟩
      rw [← h3, byte_get s k hlt, PM.split, if_pos (by have := hc hlt; omega), if_neg (by omega), part_nil]
    · refine .inr ⟨by omega, ?_⟩
      rw [← h3, List.drop_eq_nil_of_le (by rw [PM.list_size]; omega), PM.split, if_neg (by omega)]
  · omega
theorem At.le {s : ByteArray} {k a : Nat} {l : List ByteArray} (h : At s k a l) (hk : k ≤ s.size) : a ≤ k := by
  rcases h with ⟨_, h2, _⟩ | ⟨h1, -⟩ <;> omega
theorem perr_none {s : ByteArray} (h1 : 0 < s.size) (h2 : s.size ≤ 256) (h0 : PM.has s 0 = false) (h : PM.split [] [] s.data.toList = none) : PM.perr s = 17 ∧ PM.pA s = false ∧ PM.pD s = false ∧ PM.pN s = [] := by
  have he : PM.perr s = 17 := by unfold PM.perr; rw [if_neg (by omega), if_neg (by omega), h0, h]; simp
  refine ⟨he, ?_, ?_, ?_⟩
  · unfold PM.pA; rw [he]; rfl
  · unfold PM.pD; rw [he]; rfl
  · unfold PM.pN; rw [he]; rfl
theorem perr_some {s : ByteArray} {l : List ByteArray} (h1 : 0 < s.size) (h2 : s.size ≤ 256) (h0 : PM.has s 0 = false) (h : PM.split [] [] s.data.toList = some l) : PM.perr s = 0 ∧ PM.pA s = PM.first s ∧ PM.pD s = PM.last s ∧ PM.pN s = l := by
  have he : PM.perr s = 0 := by unfold PM.perr; rw [if_neg (by omega), if_neg (by omega), h0, h]; simp
  refine ⟨he, ?_, ?_, ?_⟩
  · unfold PM.pA; rw [he]; rfl
  · unfold PM.pD; rw [he]; rfl
  · unfold PM.pN PM.names; rw [he, h]; rfl
set_option maxRecDepth 100000 in
set_option maxHeartbeats 1000000 in
theorem Parse_any (s : ByteArray) (w : World) (h1 : 0 < s.size) (h2 : s.size ≤ 256) (h0 : PM.has s 0 = false) :
    Calls Tryz.prog 86 #[.string s] w fun e w' => ∃ v, e = .returned (.tuple #[.agg #[.bool (PM.pA s), v, .bool (PM.pD s)], .int .i64 (PM.perr s)]) ∧
      w'.ownsRow w.heap.size 9 1 v (PM.pN s).length (scl (PM.pN s)) ∧ Below w.heap.size w w' := by
  obtain ⟨i0, hi, hz0, hz1, hz2⟩ := info_parts info_str
  obtain ⟨e1, e2⟩ := full_facts (s := s) (by omega)
  have H0 : Hid (∀ w, Calls Tryz.prog 130 #[.string s, .int .u8 0] w fun e w' => e = .returned (.bool false) ∧ w = w') := by
    intro w
    have := contains_any s 0 0 rfl w (by unfold maxLen; omega)
    rwa [h0] at this
  have hno := W_hid (@perr_none s h1 h2 h0)
  have hyes := W_hid (fun l => @perr_some s l h1 h2 h0)
  have i1 : 1 ≤ (s.size : Int) := by omega
  have i2 : (s.size : Int) - 1 < s.size := by omega
  have i3 : ((s.size : Int) - 1).toNat = s.size - 1 := by omega
  have i4 : decide (256 < (s.size : Int)) = false := by simp; omega
  have iA := (first_eq s h1).symm
  have iD := (last_eq s h1).symm
  clear h0
  go_enter Tryz.func86, Tryz.ntmps86
  go_wp2_with fail
  refine (H0.out _).mono ?_
  rintro e w' ⟨rfl, rfl⟩
  go_wp2_with fail
  go_region
  go_wp2
  clear i4 iA iD
  go_loopw [5, 34] (fun f i wr => ∃ (k a : Nat) (v : Value) (l : List ByteArray), k ≤ s.size + 1 ∧ a ≤ s.size + 1 ∧ l.length ≤ k ∧ i = .int .i64 k ∧ f = .int .i64 a ∧ Hid (At s k a l) ∧ PB wr w.heap.size false (.slice none 0 0) false ∧ PB wr (w.heap.size + 1) (PM.first s) v (PM.last s) ∧
    wr.ownsRow (w.heap.size + 2) 9 1 v l.length (scl l) ∧ Below w.heap.size w wr) (fun _ i _ => s.size + 1 - (intOf i).toNat)
  case atStart => exact ⟨0, 0, .slice none 0 0, [], by omega, by omega, Nat.le_refl _, rfl, rfl, At.start s, (PB.new w _ _ _ rfl).alloc _, PB.new (w.alloc _) _ _ _ (by simp), World.ownsRow_nil _ _ _ _, (((Below.refl _ _).alloc (Nat.le_refl _) _).alloc (by simp) _).drew⟩
  case round =>
    obtain ⟨k, a, v, l, hk, ha, hl, rfl, rfl, hat, hp0, hp1, hown, bel⟩ := hrel
    obtain ⟨ao, cap, rfl⟩ := own_form hown
    have c00 := hp0.c0
    have c01 := hp0.c1
    have c02 := hp0.c2
    have f0 := hp0.fz
    have c10 := hp1.c0
    have c11 := hp1.c1
    have c12 := hp1.c2
    have f1 := hp1.fz
    by_cases hcont : ∃ h : k < s.size, ¬ (s[k].toNat : Int) = 47
    · obtain ⟨hlt, hc⟩ := hcont
      have hb : ((s[k].toNat : Int) == 47) = false := by simpa using hc
      have hat' := W_hid (hat.out.go hlt hc)
      clear hc hat
      go_wp2
      go_roundw
      case rel => exact ⟨k + 1, a, _, l, by omega, ha, by omega, by go_num, rfl, hat', hp0, hp1, hown, bel⟩
      case measure => simp [intOf]; omega
    · have hc : ∀ h : k < s.size, (s[k].toNat : Int) = 47 := fun h => Classical.byContradiction fun hn => hcont ⟨h, hn⟩
      clear hcont
      by_cases hks : k ≤ s.size
      · have hak := hat.out.le hks
        obtain ⟨p, hp⟩ : ∃ p, p = s.extract a k := ⟨_, rfl⟩
        have hsl : ∀ w, (Instr.slice 9 (.string s) (some (.int .i64 (a : Int))) (some (.int .i64 (k : Int))) none).run Tryz.prog w = .ok (.string p) w := fun w => by
          rw [run_slice_string w _ s _ _ _ _ Tryz.underlying9 (by omega) (by omega) (by omega), hp]; rfl
        have hpz := cut_size s a k hak hks
        rw [← hp] at hpz
        have HP := W_hid hp
        clear hp
        by_cases h32 : 32 < k - a
        · have hn := W_hid (hat.out.stop hks hc h32)
          have h32' : 32 < p.size := by omega
          clear hat hpz
          have hb : k < s.size → (∀ h : k < s.size, ((s[k].toNat : Int) == 47) = true) := fun _ h => by simpa using hc h
          have hb := W_hid hb
          clear hc
          by_cases hlt : k < s.size
          · have hb' := hb.out hlt hlt
            go_wp2
            have hq := ((hp0.set0 false).set1 (.slice none 0 0)).set2 false
            have bel' := ((bel.setCell (p := ⟨w.heap.size, 0, none⟩) (Nat.le_refl _) (.bool false)).setCell (p := ⟨w.heap.size, 1, none⟩) (Nat.le_refl _) (.slice none 0 0)).setCell (p := ⟨w.heap.size, 2, none⟩) (Nat.le_refl _) (.bool false)
            refine bodyPost_ret (res_path Tryz.results86 _ _ rfl hq) rfl ?_
            obtain ⟨r1, r2, r3, r4⟩ := hno.out hn.out
            rw [r1, r2, r3, r4]
            exact ⟨_, rfl, World.ownsRow_nil _ _ _ _, bel'⟩
          · go_wp2
            have hq := ((hp0.set0 false).set1 (.slice none 0 0)).set2 false
            have bel' := ((bel.setCell (p := ⟨w.heap.size, 0, none⟩) (Nat.le_refl _) (.bool false)).setCell (p := ⟨w.heap.size, 1, none⟩) (Nat.le_refl _) (.slice none 0 0)).setCell (p := ⟨w.heap.size, 2, none⟩) (Nat.le_refl _) (.bool false)
            refine bodyPost_ret (res_path Tryz.results86 _ _ rfl hq) rfl ?_
            obtain ⟨r1, r2, r3, r4⟩ := hno.out hn.out
            rw [r1, r2, r3, r4]
            exact ⟨_, rfl, World.ownsRow_nil _ _ _ _, bel'⟩
        · have hat' := W_hid (hat.out.next hks hc h32)
          have h32' : p.size ≤ 32 := by omega
          have hb : k < s.size → (∀ h : k < s.size, ((s[k].toNat : Int) == 47) = true) := fun _ h => by simpa using hc h
          have hb := W_hid hb
          clear hc
          by_cases hka : k = a
          · subst hka
            obtain ⟨p1, p2⟩ := empty_facts (s := p) (by omega)
            have hat2 : Hid (At s (k + 1) (k + 1) l) := by have := hat'.out; rw [if_pos rfl] at this; exact this
            clear hat hpz hat'
            by_cases hlt : k < s.size
            · have hb' := hb.out hlt hlt
              go_wp2
              go_roundw
              case rel => exact ⟨k + 1, k + 1, _, l, by omega, by omega, by omega, by go_num, by go_num, hat2, hp0, hp1, hown, bel⟩
              case measure => simp [intOf]; omega
            · go_wp2
              go_roundw
              case rel => exact ⟨k + 1, k + 1, _, l, by omega, by omega, by omega, by go_num, by go_num, hat2, hp0, hp1, hown, bel⟩
              case measure => simp [intOf]; omega
          · obtain ⟨p1, p2⟩ := full_facts (s := p) (by omega)
            have hat2 : Hid (At s (k + 1) (k + 1) (l ++ [p])) := by have := hat'.out; rw [if_neg hka, ← HP.out] at this; exact this
            clear hat hpz hat'
            by_cases hlt : k < s.size
            · have hb' := hb.out hlt hlt
              go_wp2_with (at_builtin; apply Hid.out)
              refine W_hid ?_
              refine wpList_append_own_wide _ rfl (.tmp 58) (.tmp 60) 156 rfl (w.heap.size + 2) 9 i0 (.string ByteArray.empty) 1 16 Tryz.underlying156 hi hz0 hz1 hz2 rfl (by decide) _ l.length (scl l) rfl (hown.alloc _) ⟨wr.heap.size, 0, none⟩ 1 1 [.string p] rfl rfl (cell_one_new _ _ _) (by intro u hu; simp at hu; subst hu; rfl) (by unfold maxLen; omega) (by omega) (by simp; have := hp1.lt; omega) ?_
              intro v2 w2 hown2 hgrow2 hnn
              obtain ⟨ao2, cap2, rfl⟩ := own_form hown2
              obtain ⟨q0, q1, q2, q3, q4⟩ := append_keeps hp0 hp1 hown bel hown2 hgrow2
              clear hown2 hgrow2 hnn hown bel c00 c01 c02 f0 c10 c11 c12 f1 hp0 hp1
              have c1 := q1.c1
              have f1 := q1.fz
              go_wp2
              have q1' := q1.set1 (.slice ao2 (l.length + 1) cap2)
              have q0' := q0.far (p := ⟨w.heap.size + 1, 1, none⟩) (by simp) (.slice ao2 (l.length + 1) cap2)
              have q2' := own_set q2 (by simp) (.slice ao2 (l.length + 1) cap2) (p := ⟨w.heap.size + 1, 1, none⟩)
              have q3' := q3.setCell (p := ⟨w.heap.size + 1, 1, none⟩) (by simp) (.slice ao2 (l.length + 1) cap2)
              go_roundw
              case rel => exact ⟨k + 1, k + 1, _, l ++ [p], by omega, by omega, by simp; omega, by go_num, by go_num, hat2, q0', q1', (by rw [scl_append, List.length_append]; exact q2'), q3'⟩
              case measure => simp [intOf]; omega
            · go_wp2_with (at_builtin; apply Hid.out)
              refine W_hid ?_
              refine wpList_append_own_wide _ rfl (.tmp 58) (.tmp 60) 156 rfl (w.heap.size + 2) 9 i0 (.string ByteArray.empty) 1 16 Tryz.underlying156 hi hz0 hz1 hz2 rfl (by decide) _ l.length (scl l) rfl (hown.alloc _) ⟨wr.heap.size, 0, none⟩ 1 1 [.string p] rfl rfl (cell_one_new _ _ _) (by intro u hu; simp at hu; subst hu; rfl) (by unfold maxLen; omega) (by omega) (by simp; have := hp1.lt; omega) ?_
              intro v2 w2 hown2 hgrow2 hnn
              obtain ⟨ao2, cap2, rfl⟩ := own_form hown2
              obtain ⟨q0, q1, q2, q3, q4⟩ := append_keeps hp0 hp1 hown bel hown2 hgrow2
              clear hown2 hgrow2 hnn hown bel c00 c01 c02 f0 c10 c11 c12 f1 hp0 hp1
              have c1 := q1.c1
              have f1 := q1.fz
              go_wp2
              have q1' := q1.set1 (.slice ao2 (l.length + 1) cap2)
              have q0' := q0.far (p := ⟨w.heap.size + 1, 1, none⟩) (by simp) (.slice ao2 (l.length + 1) cap2)
              have q2' := own_set q2 (by simp) (.slice ao2 (l.length + 1) cap2) (p := ⟨w.heap.size + 1, 1, none⟩)
              have q3' := q3.setCell (p := ⟨w.heap.size + 1, 1, none⟩) (by simp) (.slice ao2 (l.length + 1) cap2)
              go_roundw
              case rel => exact ⟨k + 1, k + 1, _, l ++ [p], by omega, by omega, by simp; omega, by go_num, by go_num, hat2, q0', q1', (by rw [scl_append, List.length_append]; exact q2'), q3'⟩
              case measure => simp [intOf]; omega
      · obtain rfl : k = s.size + 1 := by omega
        have hsome : Hid (PM.split [] [] s.data.toList = some l) := by
          rcases hat.out with ⟨h, -⟩ | ⟨-, h⟩
          · omega
          · exact h
        clear hat hc
        go_wp2
        have hq := ((hp0.set0 (PM.first s)).set1 (.slice ao l.length cap)).set2 (PM.last s)
        have bel' := ((bel.setCell (p := ⟨w.heap.size, 0, none⟩) (Nat.le_refl _) (.bool (PM.first s))).setCell (p := ⟨w.heap.size, 1, none⟩) (Nat.le_refl _) (.slice ao l.length cap)).setCell (p := ⟨w.heap.size, 2, none⟩) (Nat.le_refl _) (.bool (PM.last s))
        have hown' := own_set (p := ⟨w.heap.size, 2, none⟩) (own_set (p := ⟨w.heap.size, 1, none⟩) (own_set (p := ⟨w.heap.size, 0, none⟩) hown (by simp) (.bool (PM.first s))) (by simp) (.slice ao l.length cap)) (by simp) (.bool (PM.last s))
        refine bodyPost_ret (res_path Tryz.results86 _ _ rfl hq) rfl ?_
        obtain ⟨r1, r2, r3, r4⟩ := hyes.out _ hsome.out
        rw [r1, r2, r3, r4]
        exact ⟨_, rfl, own_base (by omega) hown', bel'⟩
theorem perr_facts {s : ByteArray} {n : Int} (h : PM.perr s = n) (hn : n ≠ 0) : PM.perr s = n ∧ PM.pA s = false ∧ PM.pD s = false ∧ PM.pN s = [] := by
  refine ⟨h, ?_, ?_, ?_⟩
  · unfold PM.pA; rw [h, if_neg hn]
  · unfold PM.pD; rw [h, if_neg hn]
  · unfold PM.pN; rw [h, if_neg hn]
def Parsed (s : ByteArray) (w : World) (e : Ending) (w' : World) : Prop := ∃ v, e = .returned (.tuple #[.agg #[.bool (PM.pA s), v, .bool (PM.pD s)], .int .i64 (PM.perr s)]) ∧
      w'.ownsRow w.heap.size 9 1 v (PM.pN s).length (scl (PM.pN s)) ∧ Below w.heap.size w w'
theorem parsed_no {s : ByteArray} {w w' : World} {n : Int} (h : PM.perr s = n) (hn : n ≠ 0) (hb : Below w.heap.size w w') : Parsed s w (.returned (.tuple #[.agg #[.bool false, .slice none 0 0, .bool false], .int .i64 n])) w' := by
  obtain ⟨r1, r2, r3, r4⟩ := perr_facts h hn
  unfold Parsed
  rw [r1, r2, r3, r4]
  exact ⟨_, rfl, World.ownsRow_nil _ _ _ _, hb⟩
set_option maxRecDepth 100000 in
set_option maxHeartbeats 1000000 in
theorem Parse_all (s : ByteArray) (w : World) (hs : s.size ≤ maxLen) : Calls Tryz.prog 86 #[.string s] w (Parsed s w) := by
  by_cases h1 : s.size = 0
  · have he : PM.perr s = 11 := by unfold PM.perr; rw [if_pos h1]
    have HE := W_hid (fun w' => @parsed_no s w w' 11 he (by decide))
    obtain ⟨e1, e2⟩ := empty_facts h1
    clear h1 he
    go_enter Tryz.func86, Tryz.ntmps86
    go_wp2_with fail
    exact bodyPost_ret (res_path Tryz.results86 _ _ rfl (PB.new w _ _ _ rfl)) rfl (HE.out _ ((Below.refl _ _).alloc (Nat.le_refl _) _))
  by_cases h2 : 256 < s.size
  · have he : PM.perr s = 17 := by unfold PM.perr; rw [if_neg h1, if_pos h2]
    have HE := W_hid (fun w' => @parsed_no s w w' 17 he (by decide))
    obtain ⟨e1, e2⟩ := full_facts h1
    have i4 : decide (256 < (s.size : Int)) = true := by simp; omega
    unfold maxLen at hs
    clear h1 he
    go_enter Tryz.func86, Tryz.ntmps86
    go_wp2_with fail
    exact bodyPost_ret (res_path Tryz.results86 _ _ rfl (PB.new w _ _ _ rfl)) rfl (HE.out _ ((Below.refl _ _).alloc (Nat.le_refl _) _))
  by_cases h0 : PM.has s 0 = true
  · have he : PM.perr s = 2 := by unfold PM.perr; rw [if_neg h1, if_neg h2, h0]; rfl
    have HE := W_hid (fun w' => @parsed_no s w w' 2 he (by decide))
    obtain ⟨e1, e2⟩ := full_facts h1
    have i4 : decide (256 < (s.size : Int)) = false := by simp; omega
    have H0 : Hid (∀ w, Calls Tryz.prog 130 #[.string s, .int .u8 0] w fun e w' => e = .returned (.bool true) ∧ w = w') := by
      intro w
      have := contains_any s 0 0 rfl w hs
      rwa [h0] at this
    unfold maxLen at hs
    clear h1 he h0
    go_enter Tryz.func86, Tryz.ntmps86
    go_wp2_with fail
    refine (H0.out _).mono ?_
    rintro e w' ⟨rfl, rfl⟩
    go_wp2_with fail
    exact bodyPost_ret (res_path Tryz.results86 _ _ rfl (PB.new w _ _ _ rfl)) rfl (HE.out _ ((Below.refl _ _).alloc (Nat.le_refl _) _))
  · exact Parse_any s w (by omega) (by omega) (by simpa using h0)
def SS (w : World) (ao : Option Addr) (n cap : Nat) (l : List ByteArray) : Prop :=
  l.length = n ∧ n ≤ cap ∧ cap ≤ maxLen ∧ (ao = none → cap = 0) ∧ ∀ a, ao = some a → ∀ j u, (scl l)[j]? = some u → w.cell? (a.add j) = some u
theorem SS.below {w w' : World} {ao : Option Addr} {n cap : Nat} {l : List ByteArray} (h : SS w ao n cap l) {B : Nat} (hb : Below B w w') (hB : w.heap.size ≤ B) : SS w' ao n cap l := by
  refine ⟨h.1, h.2.1, h.2.2.1, h.2.2.2.1, fun a ha j u hu => ?_⟩
  have hc := h.2.2.2.2 a ha j u hu
  rw [hb.cell (Nat.lt_of_lt_of_le (World.block_lt_of_cell? w _ hc) hB)]
  exact hc
theorem SS.nil (w : World) : SS w none 0 0 [] := ⟨rfl, Nat.le_refl _, Nat.zero_le _, fun _ => rfl, fun _ h => by cases h⟩
theorem SS.alloc {w : World} {ao : Option Addr} {n cap : Nat} {l : List ByteArray} (h : SS w ao n cap l) (o : Obj) : SS (w.alloc o) ao n cap l := h.below (Below.alloc (Below.refl _ _) (Nat.le_refl _) o) (Nat.le_refl _)
theorem SS_own {w : World} {base e : Nat} {n cap : Nat} {ao : Option Addr} {l : List ByteArray} (h : w.ownsRow base e 1 (.slice ao n cap) n (scl l)) : SS w ao n cap l := by
  have hl : l.length = n := by have := h.1; rw [scl_length] at this; omega
  rcases h.2 with ⟨h', h''⟩ | ⟨g', cap', cur, h', hb, hg, hnc, hcm, _⟩
  · simp only [Value.slice.injEq] at h'
    obtain ⟨rfl, rfl, rfl⟩ := h'
    obtain rfl := List.eq_nil_of_length_eq_zero hl
    exact SS.nil w
  · simp only [Value.slice.injEq, true_and] at h'
    obtain ⟨rfl, rfl⟩ := h'
    refine ⟨hl, hnc, hcm, (fun h => by cases h), fun a ha j u hu => ?_⟩
    obtain rfl := Option.some.inj ha
    exact h.cells (g := g') rfl j u hu
theorem SS.at_ {w : World} {ao : Option Addr} {n cap : Nat} {l : List ByteArray} (h : SS w ao n cap l) (hn : 0 < n) : ∃ blk off, ao = some ⟨blk, off, none⟩ ∧ ∀ j, (hj : j < n) → w.cell? ⟨blk, off + j, none⟩ = some (.string (l[j]'(by rw [h.1]; exact hj))) := by
  obtain ⟨hl, h1, h2, h3, h4⟩ := h
  cases ao with
  | none => have := h3 rfl; omega
  | some a =>
    have hcell : ∀ j, (hj : j < n) → w.cell? (a.add j) = some (.string (l[j]'(by rw [hl]; exact hj))) := fun j hj => by
      refine h4 a rfl j _ ?_
      rw [scl_get, List.getElem?_eq_getElem (by rw [hl]; exact hj)]; rfl
    obtain ⟨b, off, spot⟩ := a
    have h0 := hcell 0 hn
    have hs : spot = none := by simpa [Addr.add] using World.cell?_spot h0
    subst hs
    exact ⟨b, off, rfl, fun j hj => by have := hcell j hj; rwa [Addr.add_lit] at this⟩
def pathv (a : Bool) (v : Value) (d : Bool) : Value := .agg #[.bool a, v, .bool d]
def same (a1 : Bool) (l1 : List ByteArray) (d1 a2 : Bool) (l2 : List ByteArray) (d2 : Bool) : Bool := decide (a1 = a2) && decide (d1 = d2) && decide (l1 = l2)
end Go.Proofs.YtfhidjkhmjdioaaGreat

namespace Go.Proofs.YtfhidjkhmjdioaaGreat
open Go.ChangeShapes Go.WideShapes Go.ChangeAt Go.RowKit Go.Maps
set_option linter.unusedVariables false
set_option linter.unusedSimpArgs false
namespace NT
open IN (Keeps)
section
variable {base : Nat} {w w' : World} {tg sg mb : Nat} {A : Int → Option (Nat × Nat)} {D : Ds}
theorem goes_take (D : Ds) (n : Int) (l : List ByteArray) (k : Nat) (hk : k < l.length) {m : Int} (h : goes D n (l.take k) = .ok m) : goes D n (l.take (k + 1)) = step D m l[k] := by
  rw [PM.take_snoc l k hk, goes_snoc, h]
theorem goes_stop (D : Ds) (x : ByteArray) (xs : List ByteArray) : ∀ (ys : List ByteArray) (n : Int) (e : Int), goes D n ys = .error e → goes D n (ys ++ xs) = .error e
  | [], n, e, h => by cases h
  | y :: ys, n, e, h => by
    simp only [List.cons_append, goes] at h ⊢
    cases hs : step D n y with
    | error e' => rw [hs] at h; exact h
    | ok m => rw [hs] at h; exact goes_stop D x xs ys m e h
set_option maxRecDepth 100000 in
set_option maxHeartbeats 4000000 in
theorem resolve_any (l : List ByteArray) (ao : Option Addr) (n cap : Nat) (w : World) (h : TM base w tg sg mb A D) (hl : SS w ao n cap l) (hs : ∀ k ∈ l, NS.Sm k) :
    Calls Tryz.prog 131 #[.pointer (some ⟨tg, 0, none⟩), .slice ao n cap] w fun e w' => e = .returned (.tuple #[rv A (goes D 1 l), .int .i64 (er (goes D 1 l))]) ∧ Below w.heap.size w w' := by
  obtain ⟨pp, hpp⟩ := ptr_form (pa A 1)
  have hb := h.box
  rw [hpp] at hb
  have hln : l.length = n := hl.1
  have hlim : n ≤ 9223372036854775807 := by have := hl.2.1; have := hl.2.2.1; unfold maxLen at *; omega
  have t1 := fun o => (hb.alloc o).cell (j := 1) rfl
  have t2 := fun o => (hb.alloc o).cell (j := 2) rfl
  have H := W_hid h
  have HL := W_hid hl
  have hpp := W_hid hpp
  clear h hb hl
  go_enter Tryz.func131, Tryz.ntmps131
  go_wp2_with fail
  go_loopw [17] (fun v wr => ∃ (i : Nat) (m : Int) (pm : Option Addr), v = .int .i64 (i : Int) ∧ i ≤ n ∧ Hid (goes D 1 (l.take i) = .ok m) ∧ Hid (IS.ptr (pa A m) = .pointer pm) ∧ Hid (Blk wr w.heap.size 90 [.int .i64 0, .pointer none]) ∧ Hid (Blk wr (w.heap.size + 1) 90 [.int .i64 m, .pointer pm]) ∧ Hid (Below w.heap.size w wr)) (fun v _ => n - (intOf v).toNat)
  case atStart => exact ⟨0, 1, pp, rfl, Nat.zero_le _, W_hid rfl, hpp, W_hid ((Blk.new _ _ _ rfl).alloc _), W_hid (Blk.new _ _ _ (by simp)), W_hid (new2 _ _ _)⟩
  case round =>
    obtain ⟨i, m, pm, rfl, hin, hg, hpm, hR, hN, hB⟩ := hrel
    by_cases hi : i < n
    · obtain ⟨blk, off, rfl, hcell⟩ := HL.out.at_ (by omega)
      have hi' : i < l.length := by omega
      have ce : wr.cell? ⟨blk, off + i, none⟩ = some (.string l[i]) := by
        have := hcell i hi
        rw [hB.out.cell (World.block_lt_of_cell? w _ this)]
        exact this
      have cS := step_any m l[i] (hs _ (List.getElem_mem _)) wr (H.out.keep hB.out)
      unfold NS.nv at cS
      simp only [hpm.out] at cS
      have hnext := goes_take D 1 l i hi' hg.out
      obtain ⟨x, hx⟩ : ∃ x, l[i] = x := ⟨_, rfl⟩
      rw [hx] at ce cS hnext
      have n0 := hN.out.cell (j := 0) rfl
      have n1 := hN.out.cell (j := 1) rfl
      cases hst : step D m x with
      | error e =>
        rw [hst] at hnext cS
        have hall : goes D 1 l = .error e := by
          have := goes_stop D x (l.drop (i + 1)) (l.take (i + 1)) 1 e hnext
          rwa [List.take_append_drop] at this
        have he := W_hid (step_er hst)
        simp only [rv, er, NS.nv, IS.ptr] at cS
        have cS := W_hid cS
        have hall := W_hid hall
        have hne : (e == 0) = false := by simpa using he.out
        clear hst hnext hx hcell
        go_wp2_with fail
        refine cS.out.mono ?_
        rintro e' w1 ⟨rfl, b1⟩
        have r1 := (hR.out.keep b1).alloc (.cells #[.int .i64 0, .pointer none] 90)
        have c0 := r1.cell (j := 0) rfl
        have c1 := r1.cell (j := 1) rfl
        have f1 := r1.fz
        have N1 := W_hid ((r1.set 0 (.int .i64 0)).set 1 (.pointer none))
        have b2 : Below w.heap.size w w1 := hB.out.trans (b1.mono hB.out.size)
        have B2 := W_hid (((b2.alloc b2.size (.cells #[.int .i64 0, .pointer none] 90)).setCell (p := ⟨w.heap.size, 0, none⟩) (by simp) (.int .i64 0)).setCell (p := ⟨w.heap.size, 1, none⟩) (by simp) (.pointer none))
        clear b1 r1 b2 n0 n1 ce cS
        go_wp2_with fail
        refine bodyPost_ret (res_node Tryz.results131 _ _ rfl N1.out) rfl ?_
        refine ⟨?_, B2.out⟩
        rw [hall.out]
        rfl
      | ok m' =>
        rw [hst] at hnext cS
        obtain ⟨pm', hpm'⟩ := ptr_form (pa A m')
        simp only [rv, er, NS.nv, hpm'] at cS
        have cS := W_hid cS
        have hpm' := W_hid hpm'
        have hnext := W_hid hnext
        clear hst hx hcell
        go_wp2_with fail
        refine cS.out.mono ?_
        rintro e' w1 ⟨rfl, b1⟩
        have r1 := W_hid ((hR.out.keep b1).alloc (.cells #[.int .i64 m', .pointer pm'] 90))
        have q1 := (hN.out.keep b1).alloc (.cells #[.int .i64 m', .pointer pm'] 90)
        have c0 := q1.cell (j := 0) rfl
        have c1 := q1.cell (j := 1) rfl
        have f1 := q1.fz
        have N1 := W_hid ((q1.set 0 (.int .i64 m')).set 1 (.pointer pm'))
        have b2 : Below w.heap.size w w1 := hB.out.trans (b1.mono hB.out.size)
        have B2 := W_hid (((b2.alloc b2.size (.cells #[.int .i64 m', .pointer pm'] 90)).setCell (p := ⟨w.heap.size + 1, 0, none⟩) (by simp) (.int .i64 m')).setCell (p := ⟨w.heap.size + 1, 1, none⟩) (by simp) (.pointer pm'))
        have R2 := W_hid ((r1.out.far (p := ⟨w.heap.size + 1, 0, none⟩) (by simp) (.int .i64 m')).far (p := ⟨w.heap.size + 1, 1, none⟩) (by simp) (.pointer pm'))
        clear b1 r1 b2 n0 n1 ce cS q1
        go_wp2_with fail
        exact ⟨⟨i + 1, m', pm', by go_num, by omega, hnext, hpm', R2, N1, B2⟩, by simp [intOf]; omega⟩
    · obtain rfl : i = n := by omega
      have n0 := hN.out.cell (j := 0) rfl
      have n1 := hN.out.cell (j := 1) rfl
      have c0 := hR.out.cell (j := 0) rfl
      have c1 := hR.out.cell (j := 1) rfl
      have f1 := hR.out.fz
      have hall : goes D 1 l = .ok m := by
        have := hg.out
        rwa [List.take_of_length_le (by omega)] at this
      have hall := W_hid hall
      have N1 := W_hid ((hR.out.set 0 (.int .i64 m)).set 1 (.pointer pm))
      have B2 := W_hid ((hB.out.setCell (p := ⟨w.heap.size, 0, none⟩) (by simp) (.int .i64 m)).setCell (p := ⟨w.heap.size, 1, none⟩) (by simp) (.pointer pm))
      go_wp2_with fail
      refine bodyPost_ret (res_node Tryz.results131 _ _ rfl N1.out) rfl ?_
      refine ⟨?_, B2.out⟩
      rw [hall.out]
      simp only [rv, er, NS.nv, hpm.out]
      rfl
theorem find_er {D : Ds} {l : List ByteArray} {d : Bool} {e : Int} (h : find D l d = .error e) : e ≠ 0 := by
  unfold find at h
  split at h
  · rename_i e' he
    cases h
    exact goes_er he
  · split at h <;> cases h
    decide
theorem pa_none (h : TM base w tg sg mb A D) (n : Int) : (pa A n).isNone = decide (D n = none) := by
  have := h.dom n
  unfold pa
  cases hA : A n <;> cases hD : D n <;> simp_all
set_option maxRecDepth 100000 in
set_option maxHeartbeats 1000000 in
theorem none_some (w : World) (h : TM base w tg sg mb A D) : Calls Tryz.prog 85 #[.pointer (some ⟨tg, 0, none⟩)] w fun e w' => e = .returned (.bool false) ∧ Below w.heap.size w w' := by
  have c1 := h.box.cell (j := 1) rfl
  have c2 := h.box.cell (j := 2) rfl
  have hn := pa_none h 1
  have cF := fun w => isFile_any 1 (pa A 1) w
  rw [hn, decide_eq_false h.root] at cF
  obtain ⟨pp, hpp⟩ := ptr_form (pa A 1)
  simp only [hpp] at c2 cF
  replace cF := fun w => W_hid (cF w)
  clear h hn hpp
  go_enter Tryz.func85, Tryz.ntmps85
  go_wp2_with fail
  refine (cF _).out.mono ?_
  rintro e w1 ⟨rfl, b1⟩
  go_wp2_with fail
  go_ret
  exact ⟨rfl, b1⟩
def bp (a : Bool) (ao : Option Addr) (n cap : Nat) (d : Bool) : Obj := .cells #[.bool a, .slice ao n cap, .bool d] 158
set_option maxRecDepth 100000 in
set_option maxHeartbeats 4000000 in
theorem find_any (a d : Bool) (l : List ByteArray) (ao : Option Addr) (n cap : Nat) (w : World) (h : TM base w tg sg mb A D) (hl : SS w ao n cap l) (hs : ∀ k ∈ l, NS.Sm k) :
    Calls Tryz.prog 87 #[.pointer (some ⟨tg, 0, none⟩), .agg #[.bool a, .slice ao n cap, .bool d]] w fun e w' => e = .returned (.tuple #[rv A (find D l d), .int .i64 (er (find D l d))]) ∧ Below w.heap.size w w' := by
  have b0 := new2 w (.cells #[.bool a, .slice ao n cap, .bool d] 158) (.cells #[.int .i64 0, .pointer none] 90)
  have cR := W_hid (resolve_any l ao n cap _ (h.keep b0) (hl.below b0 (Nat.le_refl _)) hs)
  have hpn := pa_none h
  have hp : Blk ((w.alloc (.cells #[.bool a, .slice ao n cap, .bool d] 158)).alloc (.cells #[.int .i64 0, .pointer none] 90)) w.heap.size 158 [.bool a, .slice ao n cap, .bool d] := (Blk.new _ _ _ rfl).alloc _
  clear h hl
  cases hg : goes D 1 l with
  | error e =>
    have hf : find D l d = .error e := by unfold find; rw [hg]
    rw [hg] at cR
    rw [hf]
    have hne : (e == 0) = false := by simpa using goes_er hg
    simp only [rv, er, NS.nv, IS.ptr] at cR ⊢
    clear hf hg hpn hp
    go_enter Tryz.func87, Tryz.ntmps87
    go_wp2_with fail
    refine cR.out.mono ?_
    rintro e' w1 ⟨rfl, b1⟩
    have n1 : Blk (w1.alloc (.cells #[.int .i64 0, .pointer none] 90)) (w.heap.size + 1) 90 [.int .i64 0, .pointer none] := ((Blk.new _ _ _ (by simp)).keep b1).alloc _
    have c0 := n1.cell (j := 0) rfl
    have c1 := n1.cell (j := 1) rfl
    have f1 := n1.fz
    have N1 := W_hid ((n1.set 0 (.int .i64 0)).set 1 (.pointer none))
    have b2 : Below w.heap.size w w1 := b0.trans (b1.mono b0.size)
    have B2 := W_hid (((b2.alloc b2.size (.cells #[.int .i64 0, .pointer none] 90)).setCell (p := ⟨w.heap.size + 1, 0, none⟩) (by simp) (.int .i64 0)).setCell (p := ⟨w.heap.size + 1, 1, none⟩) (by simp) (.pointer none))
    clear b1 n1 b2 cR b0
    go_wp2_with fail
    refine bodyPost_ret (res_node Tryz.results87 _ _ rfl N1.out) rfl ?_
    exact ⟨rfl, B2.out⟩
  | ok m =>
    rw [hg] at cR
    have hnp := hpn m
    obtain ⟨pm, hpm⟩ := ptr_form (pa A m)
    have cF := fun w => isFile_any m (pa A m) w
    rw [hnp] at cF
    simp only [rv, er, NS.nv, hpm] at cR cF
    replace cF := fun w => W_hid (cF w)
    have hfd : find D l d = if d = true ∧ D m = none then .error 13 else .ok m := by unfold find; rw [hg]
    clear hpn hnp hg
    have step1 : ∀ w1, Below _ _ w1 → Blk (w1.alloc (.cells #[.int .i64 m, .pointer pm] 90)) (w.heap.size + 1) 90 [.int .i64 0, .pointer none] ∧ Blk (w1.alloc (.cells #[.int .i64 m, .pointer pm] 90)) w.heap.size 158 [.bool a, .slice ao n cap, .bool d] ∧ Blk (w1.alloc (.cells #[.int .i64 m, .pointer pm] 90)) w1.heap.size 90 [.int .i64 m, .pointer pm] ∧ Below w.heap.size w (w1.alloc (.cells #[.int .i64 m, .pointer pm] 90)) := fun w1 b1 => by
      have b2 : Below w.heap.size w w1 := b0.trans (b1.mono b0.size)
      exact ⟨((Blk.new _ _ _ (by simp)).keep b1).alloc _, (hp.keep b1).alloc _, Blk.new _ _ _ rfl, b2.alloc b2.size _⟩
    replace step1 := W_hid step1
    replace hpm := W_hid hpm
    cases d with
    | false =>
      have hf : find D l false = .ok m := by rw [hfd]; simp
      rw [hf]
      simp only [rv, er, NS.nv]
      rw [hpm.out]
      clear hf hfd hp cF
      go_enter Tryz.func87, Tryz.ntmps87
      go_wp2_with fail
      refine cR.out.mono ?_
      rintro e' w1 ⟨rfl, b1⟩
      obtain ⟨n1, p1, q1, B1⟩ := step1.out w1 b1
      have c0 := n1.cell (j := 0) rfl
      have c1 := n1.cell (j := 1) rfl
      have f1 := n1.fz
      have p2 := p1.cell (j := 2) rfl
      have N1 := W_hid ((n1.set 0 (.int .i64 m)).set 1 (.pointer pm))
      have B2 := W_hid ((B1.setCell (p := ⟨w.heap.size + 1, 0, none⟩) (by simp) (.int .i64 m)).setCell (p := ⟨w.heap.size + 1, 1, none⟩) (by simp) (.pointer pm))
      clear b1 n1 p1 q1 B1 cR b0
      go_wp2_with fail
      refine bodyPost_ret (res_node Tryz.results87 _ _ rfl N1.out) rfl ?_
      exact ⟨rfl, B2.out⟩
    | true =>
      by_cases hD : D m = none
      · have hf : find D l true = .error 13 := by rw [hfd]; simp [hD]
        rw [decide_eq_true hD] at cF
        rw [hf]
        simp only [rv, er, NS.nv, IS.ptr]
        clear hf hfd hp hD
        go_enter Tryz.func87, Tryz.ntmps87
        go_wp2_with fail
        refine cR.out.mono ?_
        rintro e' w1 ⟨rfl, b1⟩
        obtain ⟨n1, p1, q1, B1⟩ := step1.out w1 b1
        have p2 := p1.cell (j := 2) rfl
        have q10 := q1.cell (j := 0) rfl
        have q11 := q1.cell (j := 1) rfl
        have n1 := W_hid n1
        have B1 := W_hid B1
        clear b1 p1 q1 cR b0
        go_wp2_with fail
        refine (cF _).out.mono ?_
        rintro e' w2 ⟨rfl, b2⟩
        have n2 := n1.out.keep b2
        have c0 := n2.cell (j := 0) rfl
        have c1 := n2.cell (j := 1) rfl
        have f1 := n2.fz
        have N1 := W_hid ((n2.set 0 (.int .i64 0)).set 1 (.pointer none))
        have B2 := W_hid (((B1.out.trans (b2.mono B1.out.size)).setCell (p := ⟨w.heap.size + 1, 0, none⟩) (by simp) (.int .i64 0)).setCell (p := ⟨w.heap.size + 1, 1, none⟩) (by simp) (.pointer none))
        clear b2 n2 n1
        go_wp2_with fail
        refine bodyPost_ret (res_node Tryz.results87 _ _ rfl N1.out) rfl ?_
        exact ⟨rfl, B2.out⟩
      · have hf : find D l true = .ok m := by rw [hfd]; simp [hD]
        rw [decide_eq_false hD] at cF
        rw [hf]
        simp only [rv, er, NS.nv]
        rw [hpm.out]
        clear hf hfd hp hD
        go_enter Tryz.func87, Tryz.ntmps87
        go_wp2_with fail
        refine cR.out.mono ?_
        rintro e' w1 ⟨rfl, b1⟩
        obtain ⟨n1, p1, q1, B1⟩ := step1.out w1 b1
        have p2 := p1.cell (j := 2) rfl
        have q10 := q1.cell (j := 0) rfl
        have q11 := q1.cell (j := 1) rfl
        have n1 := W_hid n1
        have B1 := W_hid B1
        have Q1 := W_hid q1
        clear b1 p1 q1 cR b0
        go_wp2_with fail
        refine (cF _).out.mono ?_
        rintro e' w2 ⟨rfl, b2⟩
        have n2 := n1.out.keep b2
        have c0 := n2.cell (j := 0) rfl
        have c1 := n2.cell (j := 1) rfl
        have f1 := n2.fz
        have q2 := Q1.out.keep b2
        have q20 := q2.cell (j := 0) rfl
        have q21 := q2.cell (j := 1) rfl
        have N1 := W_hid ((n2.set 0 (.int .i64 m)).set 1 (.pointer pm))
        have B2 := W_hid (((B1.out.trans (b2.mono B1.out.size)).setCell (p := ⟨w.heap.size + 1, 0, none⟩) (by simp) (.int .i64 m)).setCell (p := ⟨w.heap.size + 1, 1, none⟩) (by simp) (.pointer pm))
        clear b2 n2 n1 q2
        go_wp2_with fail
        refine bodyPost_ret (res_node Tryz.results87 _ _ rfl N1.out) rfl ?_
        exact ⟨rfl, B2.out⟩
end
end NT
namespace NT
open IN (Keeps)
theorem wpList_takeS {P : Program} {w : World} {ops : Array Oper} {rest : List Oper} {o : Oper} {a : Act} {Q : Exit → Act → World → Prop} (hg : o.guard = none) (x hi : Operand) (t : TypeId) (hop : o.op = Op.slice t x none (some hi) none)
    (ht : P.underlying t = some (.slice (P.elem t))) (hs : (sizeOf (P.elem t)).run P w = .ok 1 w)
    (ao : Option Addr) (n cap : Nat) (l : List ByteArray) (hx : a.eval x = .slice ao n cap) (hb : SS w ao n cap l) (kh : IntKind) (z : Int) (H : Nat) (hh : a.eval hi = .int kh z) (hz : z = (H : Int)) (h2 : H ≤ n) (hn : 0 < n)
    (hK : SS w ao H cap (l.take H) → wpList P ops Q rest (a.put o.dst (.slice ao H cap)) w) :
    wpList P ops Q (o :: rest) a w := by
  subst hz
  refine wpList_plain hg fun K hK' => ?_
  have hcap := hb.2.1
  obtain ⟨blk, off, rfl, -⟩ := hb.at_ hn
  have hrun := run_slice_h (P := P) w t (some ⟨blk, off, none⟩) n cap ht kh (H : Int) (by omega) (by omega)
  rw [hs] at hrun
  simp only [Result.andThen, sliced, Int.toNat_natCast] at hrun
  have hrun2 : (Instr.sliceAt t (.slice (some ⟨blk, off, none⟩) n cap) none (some (.int kh (H : Int))) none).run P w = .ok (.slice (some ⟨blk, off, none⟩) H cap) w := by
    rw [run_sliceAt_slice (P := P) w t _ _ _ _ ht, hrun]
    have : ¬ cap = 0 := by omega
    simp [this, Addr.add]
  unfold Oper.wp
  simp only [execOp, hop, hx, hh, Option.map_some, Option.map_none, hrun2, Sem.run_bind, Sem.run_pure, Result.andThen, Oper.upon]
  refine hK' _ _ (hK ⟨by rw [List.length_take, hb.1]; omega, by omega, hb.2.2.1, fun h => (by cases h), fun a' ha j u hu => hb.2.2.2.2 a' ha j u ?_⟩)
  unfold scl at hu ⊢
  rw [List.map_take, List.getElem?_take] at hu
  split at hu
  · exact hu
  · cases hu
def plv (n : Int) (x : Option Nat) (k : ByteArray) (d : Bool) : Value := .agg #[.int .i64 n, IS.ptr x, .string k, .bool d]
def last (l : List ByteArray) : ByteArray := l.getD (l.length - 1) ByteArray.empty
def placeC (D : Ds) (l : List ByteArray) (r : Int) (c : Int → Int) : Except Int Int := match place D l r with
  | .error e => .error e
  | .ok n => if c n = 0 then .ok n else .error (c n)
def pv (A : Int → Option (Nat × Nat)) (l : List ByteArray) (d : Bool) : Except Int Int → Value
  | .ok n => plv n (pa A n) (last l) d
  | .error _ => .agg #[.int .i64 0, .pointer none, .string ByteArray.empty, .bool false]
set_option maxRecDepth 100000 in
set_option maxHeartbeats 2000000 in
theorem target_any (n : Int) (g m : Nat) (u : Int) (pu : Option Nat) (M : ByteArray → Option (Int × Option Nat)) (k : ByteArray) (d : Bool) (hk : NS.Sm k) (w : World) (h : DB w g u pu m M) :
    Calls Tryz.prog 76 #[.agg #[.int .i64 n, .pointer (some ⟨g, 0, none⟩), .string k, .bool d]] w fun e w' => e = .returned (.tuple #[NS.nv ((M k).getD (0, none)), .bool (M k).isSome]) ∧ Below w.heap.size w w' := by
  have b0 := new2 w (.cells #[.int .i64 n, .pointer (some ⟨g, 0, none⟩), .string k, .bool d] 146) (.cells #[.int .i64 0, .pointer none] 90)
  have cG := W_hid (get_any g m u pu M k hk _ (h.keep b0))
  obtain ⟨r, hr⟩ : ∃ r, (M k).getD (0, none) = r := ⟨_, rfl⟩
  obtain ⟨b, hbb⟩ : ∃ b, (M k).isSome = b := ⟨_, rfl⟩
  rw [hr, hbb] at cG
  rw [hr, hbb]
  obtain ⟨r1, r2⟩ := r
  obtain ⟨pp, hpp⟩ := ptr_form r2
  simp only [NS.nv, hpp] at cG ⊢
  clear h hr hbb hpp
  go_enter Tryz.func76, Tryz.ntmps76
  go_wp2_with fail
  refine cG.out.mono ?_
  rintro e w1 ⟨rfl, b1⟩
  have n1 : Blk w1 (w.heap.size + 1) 90 [.int .i64 0, .pointer none] := (Blk.new _ _ _ (by simp)).keep b1
  have c0 := n1.cell (j := 0) rfl
  have c1 := n1.cell (j := 1) rfl
  have f1 := n1.fz
  have N1 := W_hid ((n1.set 0 (.int .i64 r1)).set 1 (.pointer pp))
  have B2 := W_hid (((b0.trans (b1.mono b0.size)).setCell (p := ⟨w.heap.size + 1, 0, none⟩) (by simp) (.int .i64 r1)).setCell (p := ⟨w.heap.size + 1, 1, none⟩) (by simp) (.pointer pp))
  clear b1 n1 cG b0
  go_wp2_with fail
  refine bodyPost_ret (res_node Tryz.results76 _ _ rfl N1.out) rfl ?_
  exact ⟨rfl, B2.out⟩
theorem res_place {fn : Func} {r t : Tmp} (hres : fn.results = #[.cell r 146, .tmp t]) (tmps : Array Value) (w : World) {g : Nat} {n p k d : Value} (hr : tmps.getD r undef = .pointer (some ⟨g, 0, none⟩)) (h : Blk w g 146 [n, p, k, d]) :
    (results fn tmps).run Tryz.prog w = .ok (.tuple #[.agg #[n, p, k, d], tmps.getD t undef]) w := by
  have h0 := h.cell (j := 0) rfl
  have h1 := h.cell (j := 1) rfl
  have h2 := h.cell (j := 2) rfl
  have h3 := h.cell (j := 3) rfl
  rw [Array.getD_eq_getD_getElem?] at hr
  simp [results, hres, go_sem, hr, h0, h1, h2, h3]
theorem blk_set4 {w : World} {g : Nat} {e : TypeId} {a b c d a' b' c' d' : Value} (h : Blk w g e [a, b, c, d]) : Blk ((((w.setCell ⟨g, 0, none⟩ a').setCell ⟨g, 1, none⟩ b').setCell ⟨g, 2, none⟩ c').setCell ⟨g, 3, none⟩ d') g e [a', b', c', d'] :=
  (((h.set 0 a').set 1 b').set 2 c').set 3 d'
theorem below4 {w w' : World} {B g : Nat} (h : Below B w w') (hg : B ≤ g) (a b c d : Value) : Below B w ((((w'.setCell ⟨g, 0, none⟩ a).setCell ⟨g, 1, none⟩ b).setCell ⟨g, 2, none⟩ c).setCell ⟨g, 3, none⟩ d) :=
  (((h.setCell (p := ⟨g, 0, none⟩) hg a).setCell (p := ⟨g, 1, none⟩) hg b).setCell (p := ⟨g, 2, none⟩) hg c).setCell (p := ⟨g, 3, none⟩) hg d
section
variable {base : Nat} {w w' : World} {tg sg mb : Nat} {A : Int → Option (Nat × Nat)} {D : Ds}
set_option maxRecDepth 100000 in
set_option maxHeartbeats 4000000 in
theorem place_none (a d : Bool) (r : Int) (t : Value) (ao : Option Addr) (cap : Nat) (k : Fn) (fi lb : Array Value) (w : World) :
    Calls Tryz.prog 122 #[t, .agg #[.bool a, .slice ao 0 cap, .bool d], .int .i64 r, .func k fi lb] w fun e w' => e = .returned (.tuple #[.agg #[.int .i64 0, .pointer none, .string ByteArray.empty, .bool false], .int .i64 r]) ∧ Below w.heap.size w w' := by
  go_enter Tryz.func122, Tryz.ntmps122
  go_wp2_with fail
  exact bodyPost_ret (res_place Tryz.results122 _ _ rfl (Blk.new _ _ [.int .i64 0, .pointer none, .string ByteArray.empty, .bool false] (by simp))) rfl ⟨rfl, new2 _ _ _⟩
theorem strs_elem : Tryz.prog.underlying 156 = some (.slice (Tryz.prog.elem 156)) := by kernel_rfl
theorem strs_size (w : World) : (sizeOf (Tryz.prog.elem 156)).run Tryz.prog w = .ok 1 w := by kernel_rfl
theorem SS_last {w : World} {ao : Option Addr} {n cap : Nat} {l : List ByteArray} (h : SS w ao n cap l) (hn : 0 < n) : ∃ blk off, ao = some ⟨blk, off, none⟩ ∧ w.cell? ⟨blk, off + (n - 1), none⟩ = some (.string (last l)) := by
  obtain ⟨blk, off, e, hc⟩ := h.at_ hn
  refine ⟨blk, off, e, ?_⟩
  have h1 := h.1
  rw [hc (n - 1) (by omega)]
  have hlt : n - 1 < l.length := by omega
  have e2 : last l = l[n - 1] := by
    unfold last
    have : l.length - 1 = n - 1 := by omega
    rw [this, List.getD_eq_getElem?_getD, List.getElem?_eq_getElem hlt]
    rfl
  rw [e2]
set_option maxRecDepth 100000 in
set_option maxHeartbeats 4000000 in
theorem place_no (a d : Bool) (r : Int) (l : List ByteArray) (ao : Option Addr) (n cap : Nat) (k : Fn) (fi lb : Array Value) (w : World) (h : TM base w tg sg mb A D) (hl : SS w ao n cap l) (hn : 0 < n) (hs : ∀ k ∈ l, NS.Sm k) (e : Int) (hp : place D l r = .error e) :
    Calls Tryz.prog 122 #[.pointer (some ⟨tg, 0, none⟩), .agg #[.bool a, .slice ao n cap, .bool d], .int .i64 r, .func k fi lb] w fun e' w' => e' = .returned (.tuple #[.agg #[.int .i64 0, .pointer none, .string ByteArray.empty, .bool false], .int .i64 e]) ∧ Below w.heap.size w w' := by
  have b0 := new2 w (.cells #[.bool a, .slice ao n cap, .bool d] 158) (.cells #[.int .i64 0, .pointer none, .string ⟨#[]⟩, .bool false] 146)
  have hlim : n ≤ 9223372036854775807 := by have := hl.2.1; have := hl.2.2.1; unfold maxLen at *; omega
  have hlen := hl.1
  have hl0 := hl.below b0 (Nat.le_refl _)
  have HL := W_hid hl0
  have cR := W_hid (fun (hl1 : SS _ ao (n - 1) cap (l.take (n - 1))) => resolve_any (l.take (n - 1)) ao (n - 1) cap _ (h.keep b0) hl1 (fun k hk => hs k (List.mem_of_mem_take hk)))
  have hdl : l.dropLast = l.take (n - 1) := by rw [List.dropLast_eq_take, hlen]
  have hpn := pa_none h
  have hne : ¬ l = [] := fun e => by rw [e] at hlen; simp at hlen; omega
  unfold place at hp
  rw [if_neg hne, hdl] at hp
  clear h hl hl0 hdl hs
  cases hg : goes D 1 (l.take (n - 1)) with
  | error e1 =>
    rw [hg] at hp cR
    simp only [Except.error.injEq] at hp
    subst hp
    have hne : (e1 == 0) = false := by simpa using goes_er hg
    simp only [rv, er, NS.nv, IS.ptr] at cR
    clear hg hpn
    go_enter Tryz.func122, Tryz.ntmps122
    go_wp2_with (with_reducible show wpList _ _ _ _ _ _; (refine wpList_takeS rfl (.tmp 26) (.tmp 27) 156 rfl strs_elem (strs_size _) ao n cap l rfl HL.out .i64 _ (n - 1) rfl (by omega) (by omega) hn ?_); intro hl1; have cR1 := W_hid (cR.out hl1); clear hl1)
    refine cR1.out.mono ?_
    rintro e' w1 ⟨rfl, b1⟩
    have n1 : Blk (w1.alloc (.cells #[.int .i64 0, .pointer none] 90)) (w.heap.size + 1) 146 [.int .i64 0, .pointer none, .string ⟨#[]⟩, .bool false] := ((Blk.new _ _ _ (by simp)).keep b1).alloc _
    have c0 := n1.cell (j := 0) rfl
    have c1 := n1.cell (j := 1) rfl
    have c2 := n1.cell (j := 2) rfl
    have c3 := n1.cell (j := 3) rfl
    have f1 := n1.fz
    have N1 := W_hid (blk_set4 n1 (a' := .int .i64 0) (b' := .pointer none) (c' := .string ⟨#[]⟩) (d' := .bool false))
    have b2 : Below w.heap.size w w1 := b0.trans (b1.mono b0.size)
    have B2 := W_hid (below4 (b2.alloc b2.size (.cells #[.int .i64 0, .pointer none] 90)) (g := w.heap.size + 1) (by simp) (.int .i64 0) (.pointer none) (.string ⟨#[]⟩) (.bool false))
    clear b1 n1 b2 cR cR1 b0
    go_wp2_with fail
    exact bodyPost_ret (res_place Tryz.results122 _ _ rfl N1.out) rfl ⟨rfl, B2.out⟩
  | ok m =>
    rw [hg] at hp cR
    simp only at hp
    by_cases hD : D m = none
    · rw [if_pos hD] at hp
      simp only [Except.error.injEq] at hp
      subst hp
      have cF := fun w => isFile_any m (pa A m) w
      rw [hpn m, decide_eq_true hD] at cF
      obtain ⟨pm, hpm⟩ := ptr_form (pa A m)
      simp only [rv, er, NS.nv, hpm] at cR cF
      replace cF := fun w => W_hid (cF w)
      clear hg hpn hD hpm
      go_enter Tryz.func122, Tryz.ntmps122
      go_wp2_with (with_reducible show wpList _ _ _ _ _ _; (refine wpList_takeS rfl (.tmp 26) (.tmp 27) 156 rfl strs_elem (strs_size _) ao n cap l rfl HL.out .i64 _ (n - 1) rfl (by omega) (by omega) hn ?_); intro hl1; have cR1 := W_hid (cR.out hl1); clear hl1)
      refine cR1.out.mono ?_
      rintro e' w1 ⟨rfl, b1⟩
      have n1 : Blk (w1.alloc (.cells #[.int .i64 m, .pointer pm] 90)) (w.heap.size + 1) 146 [.int .i64 0, .pointer none, .string ⟨#[]⟩, .bool false] := ((Blk.new _ _ _ (by simp)).keep b1).alloc _
      have b2 : Below w.heap.size w w1 := b0.trans (b1.mono b0.size)
      have B2 := W_hid (b2.alloc b2.size (.cells #[.int .i64 m, .pointer pm] 90))
      have n1 := W_hid n1
      clear b1 b2 cR cR1 b0
      go_wp2_with fail
      refine (cF _).out.mono ?_
      rintro e' w2 ⟨rfl, b2⟩
      have n2 := n1.out.keep b2
      have c0 := n2.cell (j := 0) rfl
      have c1 := n2.cell (j := 1) rfl
      have c2 := n2.cell (j := 2) rfl
      have c3 := n2.cell (j := 3) rfl
      have f1 := n2.fz
      have N1 := W_hid (blk_set4 n2 (a' := .int .i64 0) (b' := .pointer none) (c' := .string ⟨#[]⟩) (d' := .bool false))
      have B3 := W_hid (below4 (B2.out.trans (b2.mono B2.out.size)) (g := w.heap.size + 1) (by simp) (.int .i64 0) (.pointer none) (.string ⟨#[]⟩) (.bool false))
      clear b2 n2 n1
      go_wp2_with fail
      exact bodyPost_ret (res_place Tryz.results122 _ _ rfl N1.out) rfl ⟨rfl, B3.out⟩
    · rw [if_neg hD] at hp
      cases hp
set_option maxRecDepth 100000 in
set_option maxHeartbeats 4000000 in
theorem place_yes (a d : Bool) (r : Int) (l : List ByteArray) (ao : Option Addr) (n cap : Nat) (k : Nat) (lb : Array Value) (w : World) (h : TM base w tg sg mb A D) (hl : SS w ao n cap l) (hn : 0 < n) (hs : ∀ k ∈ l, NS.Sm k) (m : Int) (hp : place D l r = .ok m)
    (ek : ∀ args w, (callFunc k args).run Tryz.prog w = .ok (.enter k args) w) (c : Int) (hc : ∀ W, Below w.heap.size w W → Calls Tryz.prog k (#[plv m (pa A m) (last l) d] ++ lb) W fun e W' => e = .returned (.int .i64 c) ∧ Below W.heap.size W W') :
    Calls Tryz.prog 122 #[.pointer (some ⟨tg, 0, none⟩), .agg #[.bool a, .slice ao n cap, .bool d], .int .i64 r, .func (.func k) #[] lb] w fun e' w' => e' = .returned (.tuple #[if c = 0 then plv m (pa A m) (last l) d else .agg #[.int .i64 0, .pointer none, .string ByteArray.empty, .bool false], .int .i64 c]) ∧ Below w.heap.size w w' := by
  have b0 := new2 w (.cells #[.bool a, .slice ao n cap, .bool d] 158) (.cells #[.int .i64 0, .pointer none, .string ⟨#[]⟩, .bool false] 146)
  have hlim : n ≤ 9223372036854775807 := by have := hl.2.1; have := hl.2.2.1; unfold maxLen at *; omega
  have hlen := hl.1
  have hl0 := hl.below b0 (Nat.le_refl _)
  obtain ⟨blk, off, rfl, hlast⟩ := SS_last hl0 hn
  have HL := W_hid hl0
  have cR := W_hid (fun (hl1 : SS _ (some ⟨blk, off, none⟩) (n - 1) cap (l.take (n - 1))) => resolve_any (l.take (n - 1)) (some ⟨blk, off, none⟩) (n - 1) cap _ (h.keep b0) hl1 (fun k hk => hs k (List.mem_of_mem_take hk)))
  have hdl : l.dropLast = l.take (n - 1) := by rw [List.dropLast_eq_take, hlen]
  have hpn := pa_none h
  have hne : ¬ l = [] := fun e => by rw [e] at hlen; simp at hlen; omega
  unfold place at hp
  rw [if_neg hne, hdl] at hp
  clear h hl hl0 hdl hs
  have hg : goes D 1 (l.take (n - 1)) = .ok m ∧ ¬ D m = none := by
    cases hg : goes D 1 (l.take (n - 1)) with
    | error e1 => rw [hg] at hp; cases hp
    | ok m' =>
      rw [hg] at hp
      simp only at hp
      by_cases hD : D m' = none
      · rw [if_pos hD] at hp; cases hp
      · rw [if_neg hD] at hp
        cases hp
        exact ⟨rfl, hD⟩
  obtain ⟨hg, hD⟩ := hg
  rw [hg] at cR
  have cF := fun w => isFile_any m (pa A m) w
  rw [hpn m, decide_eq_false hD] at cF
  obtain ⟨pm, hpm⟩ := ptr_form (pa A m)
  obtain ⟨z, hz⟩ : ∃ z, last l = z := ⟨_, rfl⟩
  unfold plv at hc ⊢
  rw [hz] at hlast hc ⊢
  simp only [rv, er, NS.nv, hpm] at cR cF hc ⊢
  replace cF := fun w => W_hid (cF w)
  replace hc := W_hid hc
  replace ek := W_hid ek
  have hn1 : (n : Int) - 1 = ((n - 1 : Nat) : Int) := by omega
  clear hg hpn hD hpm hp hz
  go_enter Tryz.func122, Tryz.ntmps122
  go_wp2_with (with_reducible show wpList _ _ _ _ _ _; (refine wpList_takeS rfl (.tmp 26) (.tmp 27) 156 rfl strs_elem (strs_size _) (some ⟨blk, off, none⟩) n cap l rfl HL.out .i64 _ (n - 1) rfl (by omega) (by omega) hn ?_); intro hl1; have cR1 := W_hid (cR.out hl1); clear hl1)
  refine cR1.out.mono ?_
  rintro e' w1 ⟨rfl, b1⟩
  have n1 : Blk (w1.alloc (.cells #[.int .i64 m, .pointer pm] 90)) (w.heap.size + 1) 146 [.int .i64 0, .pointer none, .string ⟨#[]⟩, .bool false] := ((Blk.new _ _ _ (by simp)).keep b1).alloc _
  have p1 : Blk (w1.alloc (.cells #[.int .i64 m, .pointer pm] 90)) w.heap.size 158 [.bool a, .slice (some ⟨blk, off, none⟩) n cap, .bool d] := (((Blk.new _ _ _ rfl).alloc _).keep b1).alloc _
  have q1 : Blk (w1.alloc (.cells #[.int .i64 m, .pointer pm] 90)) w1.heap.size 90 [.int .i64 m, .pointer pm] := Blk.new _ _ _ rfl
  have hlast1 : w1.cell? ⟨blk, off + (n - 1), none⟩ = some (.string z) := by
    rw [b1.cell (World.block_lt_of_cell? _ _ hlast)]
    exact hlast
  have hlast1a : (w1.alloc (.cells #[.int .i64 m, .pointer pm] 90)).cell? ⟨blk, off + (n - 1), none⟩ = some (.string z) := by
    rw [((Below.refl w1.heap.size w1).alloc (Nat.le_refl _) _).cell (World.block_lt_of_cell? _ _ hlast1)]
    exact hlast1
  have b2 : Below w.heap.size w w1 := b0.trans (b1.mono b0.size)
  have B2 := W_hid (b2.alloc b2.size (.cells #[.int .i64 m, .pointer pm] 90))
  have n1 := W_hid n1
  have p1 := W_hid p1
  have q1 := W_hid q1
  have hl2 := W_hid hlast1a
  clear b1 b2 cR cR1 b0 hlast1 hlast1a hlast
  go_wp2_with fail
  refine (cF _).out.mono ?_
  rintro e' w2 ⟨rfl, b2⟩
  have n2 := n1.out.keep b2
  have p2 := p1.out.keep b2
  have q2 := q1.out.keep b2
  have hl3 : w2.cell? ⟨blk, off + (n - 1), none⟩ = some (.string z) := by
    rw [b2.cell (World.block_lt_of_cell? _ _ hl2.out)]
    exact hl2.out
  have pc1 := p2.cell (j := 1) rfl
  have pc2 := p2.cell (j := 2) rfl
  have qc0 := q2.cell (j := 0) rfl
  have qc1 := q2.cell (j := 1) rfl
  have pc1a := fun o => (p2.alloc o).cell (j := 1) rfl
  have pc2a := fun o => (p2.alloc o).cell (j := 2) rfl
  have qc0a := fun o => (q2.alloc o).cell (j := 0) rfl
  have qc1a := fun o => (q2.alloc o).cell (j := 1) rfl
  have hl3a : ∀ o, (w2.alloc o).cell? ⟨blk, off + (n - 1), none⟩ = some (.string z) := fun o => by
    rw [((Below.refl w2.heap.size w2).alloc (Nat.le_refl _) o).cell (World.block_lt_of_cell? _ _ hl3)]
    exact hl3
  have hb1 : n - 1 < n := by omega
  have B3 := W_hid (B2.out.trans (b2.mono B2.out.size))
  have n2 := W_hid n2
  clear b2 n1 p1 q1 p2 q2 hl2 B2
  go_wp2_with fail
  go_region
  obtain ⟨W, hW⟩ : ∃ W, (w2.alloc (.cells #[.int .i64 m, .pointer pm, .string z, .bool d] 146)).drew = W := ⟨_, rfl⟩
  have n3 : Blk W (w.heap.size + 1) 146 [.int .i64 0, .pointer none, .string ⟨#[]⟩, .bool false] := by rw [← hW]; exact n2.out.alloc _
  have q3 : Blk W w2.heap.size 146 [.int .i64 m, .pointer pm, .string z, .bool d] := by rw [← hW]; exact Blk.new w2 _ _ rfl
  have B4 : Below w.heap.size w W := by rw [← hW]; exact ((B3.out).alloc B3.out.size _).drew
  rw [hW]
  have r0 := q3.cell (j := 0) rfl
  have r1 := q3.cell (j := 1) rfl
  have r2 := q3.cell (j := 2) rfl
  have r3 := q3.cell (j := 3) rfl
  have cC := W_hid (hc.out W B4)
  have n3 := W_hid n3
  have q3 := W_hid q3
  have B4 := W_hid B4
  have hcf := fun w => ek.out (#[.agg #[.int .i64 m, .pointer pm, .string z, .bool d]] ++ lb) w
  clear hl3 hl3a pc1 pc1a pc2 pc2a qc0 qc0a qc1 qc1a n2 B3 hc ek
  go_wp2_with fail
  refine cC.out.mono ?_
  rintro e' w4 ⟨rfl, b4⟩
  have q4 := q3.out.keep b4
  have n4 := n3.out.keep b4
  have s0 := q4.cell (j := 0) rfl
  have s1 := q4.cell (j := 1) rfl
  have s2 := q4.cell (j := 2) rfl
  have s3 := q4.cell (j := 3) rfl
  have c0 := n4.cell (j := 0) rfl
  have c1 := n4.cell (j := 1) rfl
  have c2 := n4.cell (j := 2) rfl
  have c3 := n4.cell (j := 3) rfl
  have f4 := n4.fz
  by_cases hc0 : c = 0
  · subst hc0
    have N1 := W_hid (blk_set4 n4 (a' := .int .i64 m) (b' := .pointer pm) (c' := .string z) (d' := .bool d))
    have B5 := W_hid (below4 (B4.out.trans (b4.mono B4.out.size)) (g := w.heap.size + 1) (by simp) (.int .i64 m) (.pointer pm) (.string z) (.bool d))
    clear b4 q4 n4 n3 q3 cC
    go_wp2_with fail
    exact bodyPost_ret (res_place Tryz.results122 _ _ rfl N1.out) rfl ⟨rfl, B5.out⟩
  · have hne2 : (c == 0) = false := by simpa using hc0
    have N1 := W_hid (blk_set4 n4 (a' := .int .i64 0) (b' := .pointer none) (c' := .string ⟨#[]⟩) (d' := .bool false))
    have B5 := W_hid (below4 (B4.out.trans (b4.mono B4.out.size)) (g := w.heap.size + 1) (by simp) (.int .i64 0) (.pointer none) (.string ⟨#[]⟩) (.bool false))
    have hc0 := W_hid hc0
    clear b4 q4 n4 n3 q3 cC
    go_wp2_with fail
    refine bodyPost_ret (res_place Tryz.results122 _ _ rfl N1.out) rfl ⟨?_, B5.out⟩
    first
      | rfl
      | (rw [if_neg hc0.out]; rfl)
theorem place_er {D : Ds} {l : List ByteArray} {r e : Int} (h : place D l r = .error e) : e = r ∨ e ≠ 0 := by
  unfold place at h
  split at h
  · cases h; exact .inl rfl
  · split at h
    · rename_i e' he
      cases h
      exact .inr (goes_er he)
    · split at h <;> cases h
      exact .inr (by decide)
theorem place_all (a d : Bool) (r : Int) (l : List ByteArray) (ao : Option Addr) (n cap : Nat) (k : Nat) (lb : Array Value) (w : World) (h : TM base w tg sg mb A D) (hl : SS w ao n cap l) (hs : ∀ k ∈ l, NS.Sm k)
    (ek : ∀ args w, (callFunc k args).run Tryz.prog w = .ok (.enter k args) w) (c : Int → Int) (hc : ∀ m, place D l r = .ok m → ∀ W, Below w.heap.size w W → Calls Tryz.prog k (#[plv m (pa A m) (last l) d] ++ lb) W fun e W' => e = .returned (.int .i64 (c m)) ∧ Below W.heap.size W W') :
    Calls Tryz.prog 122 #[.pointer (some ⟨tg, 0, none⟩), .agg #[.bool a, .slice ao n cap, .bool d], .int .i64 r, .func (.func k) #[] lb] w fun e' w' => e' = .returned (.tuple #[pv A l d (placeC D l r c), .int .i64 (er (placeC D l r c))]) ∧ Below w.heap.size w w' := by
  by_cases hn : n = 0
  · have hl0 : l = [] := List.eq_nil_of_length_eq_zero (by rw [hl.1, hn])
    subst hn hl0
    exact (place_none a d r _ ao cap (.func k) #[] lb w).mono fun e w' h => h
  · cases hp : place D l r with
    | error e =>
      have e1 : placeC D l r c = .error e := by unfold placeC; rw [hp]
      rw [e1]
      exact place_no a d r l ao n cap (.func k) #[] lb w h hl (by omega) hs e hp
    | ok m =>
      have cc := place_yes a d r l ao n cap k lb w h hl (by omega) hs m hp ek (c m) (hc m hp)
      by_cases h0 : c m = 0
      · have e1 : placeC D l r c = .ok m := by unfold placeC; rw [hp]; simp [h0]
        rw [e1]
        rw [if_pos h0, h0] at cc
        exact cc
      · have e1 : placeC D l r c = .error (c m) := by unfold placeC; rw [hp]; simp [h0]
        rw [e1]
        rw [if_neg h0] at cc
        exact cc
end
end NT
namespace NT
open IN (Keeps)
def vacR (M : ByteArray → Option (Int × Option Nat)) (k : ByteArray) (kind : Int) (d : Bool) : Int := if (M k).isSome = true ∨ PM.name k = false then 12 else if kind = 1 ∧ d = true then 14 else 0
set_option maxRecDepth 100000 in
set_option maxHeartbeats 4000000 in
theorem vac1_any (n : Int) (g m kb : Nat) (u : Int) (pu : Option Nat) (M : ByteArray → Option (Int × Option Nat)) (k : ByteArray) (d : Bool) (kind : Int) (hk : NS.Sm k) (w : World) (h : DB w g u pu m M) (hkb : w.cell? ⟨kb, 0, none⟩ = some (.int .i64 kind)) :
    Calls Tryz.prog 176 #[.agg #[.int .i64 n, .pointer (some ⟨g, 0, none⟩), .string k, .bool d], .pointer (some ⟨kb, 0, none⟩)] w fun e w' => e = .returned (.int .i64 (vacR M k kind d)) ∧ Below w.heap.size w w' := by
  have b0 : Below w.heap.size w (w.alloc (.cells #[.int .i64 n, .pointer (some ⟨g, 0, none⟩), .string k, .bool d] 146)) := (Below.refl _ w).alloc (Nat.le_refl _) _
  have cT := W_hid (target_any n g m u pu M k d hk _ (h.keep b0))
  have cN := fun w => IsName_any k w hk
  have hp : Blk (w.alloc (.cells #[.int .i64 n, .pointer (some ⟨g, 0, none⟩), .string k, .bool d] 146)) w.heap.size 146 [.int .i64 n, .pointer (some ⟨g, 0, none⟩), .string k, .bool d] := Blk.new _ _ _ rfl
  have hv := W_hid (show vacR M k kind d = _ from rfl)
  obtain ⟨r, hr⟩ : ∃ r, (M k).getD (0, none) = r := ⟨_, rfl⟩
  obtain ⟨b, hbb⟩ : ∃ b, (M k).isSome = b := ⟨_, rfl⟩
  obtain ⟨y, hy⟩ : ∃ y, PM.name k = y := ⟨_, rfl⟩
  rw [hr, hbb] at cT
  rw [hy] at cN
  replace cN := fun w => W_hid (cN w)
  unfold vacR
  rw [hbb, hy]
  obtain ⟨r1, r2⟩ := r
  obtain ⟨pp, hpp⟩ := ptr_form r2
  simp only [NS.nv, hpp] at cT
  have fin : ∀ w1 : World, Below _ (w.alloc (.cells #[.int .i64 n, .pointer (some ⟨g, 0, none⟩), .string k, .bool d] 146)) w1 → Blk (w1.alloc (.cells #[.int .i64 r1, .pointer pp] 90)) w.heap.size 146 [.int .i64 n, .pointer (some ⟨g, 0, none⟩), .string k, .bool d] ∧ (w1.alloc (.cells #[.int .i64 r1, .pointer pp] 90)).cell? ⟨kb, 0, none⟩ = some (.int .i64 kind) ∧ Below w.heap.size w (w1.alloc (.cells #[.int .i64 r1, .pointer pp] 90)) := fun w1 b1 => by
    have b2 : Below w.heap.size w w1 := b0.trans (b1.mono b0.size)
    refine ⟨(hp.keep b1).alloc _, ?_, b2.alloc b2.size _⟩
    rw [(b2.alloc b2.size _).cell (World.block_lt_of_cell? _ _ hkb)]
    exact hkb
  replace fin := W_hid fin
  clear h hr hbb hpp hp b0 hkb hy hv
  go_enter Tryz.func176, Tryz.ntmps176
  go_wp2_with fail
  refine cT.out.mono ?_
  rintro e w1 ⟨rfl, b1⟩
  obtain ⟨p1, k1, B1⟩ := fin.out w1 b1
  have c1 := p1.cell (j := 1) rfl
  have c2 := p1.cell (j := 2) rfl
  have c3 := p1.cell (j := 3) rfl
  have B1 := W_hid B1
  clear p1 b1 cT fin
  cases b with
  | true =>
    go_wp2_with fail
    go_ret
    exact ⟨by simp, B1.out⟩
  | false =>
    cases y with
    | false =>
      go_wp2_with fail
      refine (cN _).out.mono ?_
      rintro e w2 ⟨rfl, rfl⟩
      go_wp2_with fail
      go_ret
      exact ⟨by simp, B1.out⟩
    | true =>
      go_wp2_with fail
      refine (cN _).out.mono ?_
      rintro e w2 ⟨rfl, rfl⟩
      by_cases hk1 : kind = 1
      · subst hk1
        cases d with
        | true =>
          go_wp2_with fail
          go_ret
          exact ⟨by simp, B1.out⟩
        | false =>
          go_wp2_with fail
          go_ret
          exact ⟨by simp, B1.out⟩
      · have hne : (kind == 1) = false := by simpa using hk1
        go_wp2_with fail
        go_ret
        exact ⟨by simp [hk1], B1.out⟩
section
variable {base : Nat} {w w' : World} {tg sg mb : Nat} {A : Int → Option (Nat × Nat)} {D : Ds}
theorem place_dir {D : Ds} {l : List ByteArray} {r m : Int} (h : place D l r = .ok m) : D m ≠ none := by
  unfold place at h
  split at h
  · cases h
  · split at h
    · cases h
    · split at h
      · cases h
      · rename_i e
        cases h
        exact e
theorem last_mem {l : List ByteArray} (h : l ≠ []) : last l ∈ l := by
  unfold last
  have : l.length - 1 < l.length := by have := List.length_pos_iff.2 h; omega
  rw [List.getD_eq_getElem?_getD, List.getElem?_eq_getElem this]
  exact List.getElem_mem _
theorem last_sm {l : List ByteArray} (hs : ∀ k ∈ l, NS.Sm k) : NS.Sm (last l) := by
  by_cases h : l = []
  · subst h; show ByteArray.size _ ≤ maxLen; decide
  · exact hs _ (last_mem h)
def vac (D : Ds) (kind : Int) (k : ByteArray) (d : Bool) (m : Int) : Int := if at_ D m k ≠ none ∨ PM.name k = false then 12 else if kind = 1 ∧ d = true then 14 else 0
theorem at_nm (h : TM base w tg sg mb A D) {n : Int} {d : Dr} (hD : D n = some d) (k : ByteArray) : nm A d.l k = (at_ D n k).map fun j => (j, pa A j) := by
  unfold nm at_
  rw [hD]
theorem TM.db (h : TM base w tg sg mb A D) {n : Int} {d : Dr} (hD : D n = some d) : ∃ g m, A n = some (g, m) ∧ pa A n = some g ∧ DB w g d.up (pa A d.up) m (nm A d.l) := by
  obtain ⟨g, m, hA, h1, h2⟩ := h.has hD
  exact ⟨g, m, hA, by unfold pa; rw [hA]; rfl, h1, h2⟩
theorem enters_vac1 : ∀ args w, (callFunc 176 args).run Tryz.prog w = .ok (.enter 176 args) w :=
  fun args w => by kernel_rfl
set_option maxRecDepth 100000 in
set_option maxHeartbeats 4000000 in
theorem vacant_any (a d : Bool) (kind : Int) (l : List ByteArray) (ao : Option Addr) (n cap : Nat) (w : World) (h : TM base w tg sg mb A D) (hl : SS w ao n cap l) (hs : ∀ k ∈ l, NS.Sm k) :
    Calls Tryz.prog 149 #[.pointer (some ⟨tg, 0, none⟩), .agg #[.bool a, .slice ao n cap, .bool d], .int .i64 kind] w fun e' w' => e' = .returned (.tuple #[pv A l d (placeC D l 12 (vac D kind (last l) d)), .int .i64 (er (placeC D l 12 (vac D kind (last l) d)))]) ∧ Below w.heap.size w w' := by
  have b0 := new3 w (.cells #[.bool a, .slice ao n cap, .bool d] 158) (.cells #[.int .i64 kind] 3) (.cells #[.int .i64 0, .pointer none, .string ⟨#[]⟩, .bool false] 146)
  have hK : (((w.alloc (.cells #[.bool a, .slice ao n cap, .bool d] 158)).alloc (.cells #[.int .i64 kind] 3)).alloc (.cells #[.int .i64 0, .pointer none, .string ⟨#[]⟩, .bool false] 146)).cell? ⟨w.heap.size + 1, 0, none⟩ = some (.int .i64 kind) := Blk.cell (j := 0) (l := [.int .i64 kind]) ((Blk.new _ _ _ (by simp)).alloc _) rfl
  have cP := W_hid (place_all a d 12 l ao n cap 176 #[.pointer (some ⟨w.heap.size + 1, 0, none⟩)] _ (h.keep b0) (hl.below b0 (Nat.le_refl _)) hs enters_vac1 (vac D kind (last l) d) (fun m hp W hW => by
    have hD := place_dir hp
    cases hd : D m with
    | none => exact absurd hd hD
    | some dr =>
      obtain ⟨g, mm, hA, hpa, hdb⟩ := ((h.keep b0).keep hW).db hd
      unfold plv
      rw [hpa]
      have c := vac1_any m g mm (w.heap.size + 1) dr.up (pa A dr.up) (nm A dr.l) (last l) d kind (last_sm hs) W hdb (by rw [hW.cell (World.block_lt_of_cell? _ _ hK)]; exact hK)
      have e1 : vacR (nm A dr.l) (last l) kind d = vac D kind (last l) d m := by
        unfold vacR vac
        rw [at_nm h hd]
        cases at_ D m (last l) <;> simp
      rw [e1] at c
      exact c))
  obtain ⟨R, hR⟩ : ∃ R, placeC D l 12 (vac D kind (last l) d) = R := ⟨_, rfl⟩
  rw [hR] at cP ⊢
  have hv : ∃ v1 v2 v3 v4, pv A l d R = .agg #[.int .i64 v1, .pointer v2, .string v3, .bool v4] := by
    cases R with
    | error e => exact ⟨_, _, _, _, rfl⟩
    | ok m =>
      obtain ⟨pp, hpp⟩ := ptr_form (pa A m)
      exact ⟨m, pp, last l, d, by show plv m (pa A m) (last l) d = _; unfold plv; rw [hpp]⟩
  obtain ⟨v1, v2, v3, v4, hv⟩ := hv
  rw [hv] at cP ⊢
  obtain ⟨z, hz⟩ : ∃ z, er R = z := ⟨_, rfl⟩
  rw [hz] at cP ⊢
  clear h hl hR hv hz hK
  go_enter Tryz.func149, Tryz.ntmps149
  go_wp2_with fail
  refine cP.out.mono ?_
  rintro e w1 ⟨rfl, b1⟩
  have n1 : Blk w1 (w.heap.size + 2) 146 [.int .i64 0, .pointer none, .string ⟨#[]⟩, .bool false] := (Blk.new _ _ _ (by simp)).keep b1
  have c0 := n1.cell (j := 0) rfl
  have c1 := n1.cell (j := 1) rfl
  have c2 := n1.cell (j := 2) rfl
  have c3 := n1.cell (j := 3) rfl
  have f1 := n1.fz
  have N1 := W_hid (blk_set4 n1 (a' := .int .i64 v1) (b' := .pointer v2) (c' := .string v3) (d' := .bool v4))
  have B5 := W_hid (below4 (b0.trans (b1.mono b0.size)) (g := w.heap.size + 2) (by simp) (.int .i64 v1) (.pointer v2) (.string v3) (.bool v4))
  clear b1 n1 cP b0
  go_wp2_with fail
  exact bodyPost_ret (res_place Tryz.results149 _ _ rfl N1.out) rfl ⟨rfl, B5.out⟩
end
end NT
end Go.Proofs.YtfhidjkhmjdioaaGreat

namespace Go.Proofs.YtfhidjkhmjdioaaGreat
open Go.ChangeShapes Go.WideShapes Go.ChangeAt Go.RowKit
set_option linter.unusedVariables false
set_option linter.unusedSimpArgs false
namespace NT
theorem u8_under : Tryz.prog.underlying 220 = some (.slice 5) := by kernel_rfl
theorem u8_info : (Tryz.prog.info? 5).map (fun i => (i.zero, i.size, i.bytes)) = some (some (.int .u8 0), 1, 1) := by kernel_rfl
theorem pu8_under : Tryz.prog.underlying 246 = some (.pointer 5) := by kernel_rfl
set_option maxRecDepth 100000 in
set_option maxHeartbeats 4000000 in
theorem clone_any (s : ByteArray) (w : World) (hlim : s.size ≤ 281474976710656) :
    Calls Tryz.prog 192 #[.string s] w fun e w' => e = .returned (.string s) ∧ Below w.heap.size w w' := by
  by_cases h0 : s.size = 0
  · have hs : s = ⟨#[]⟩ := ByteArray.ext (Array.eq_empty_of_size_eq_zero h0)
    subst hs
    go_enter Tryz.func192, Tryz.ntmps192
    go_wp2_with fail
    go_ret
    exact ⟨rfl, Below.refl _ _⟩
  · obtain ⟨i0, hi, hz0, hz1, hz2⟩ := info_parts u8_info
    have hinfo : (Tryz.prog.info? 5).map (·.size) = some 1 := by rw [hi]; simp [hz1]
    have hco : Tryz.prog.cellsOf 5 = 1 := by simp [Program.cellsOf, hi, hz1]
    obtain ⟨N, hN⟩ : ∃ N, N = madeCells (Value.int .u8 0).cells (((s.size : Nat) : Int).toNat * i0.size) := ⟨_, rfl⟩
    have hNs : N.size = s.size := by rw [hN, size_madeCells, hz1]; simp
    have hmk : ∀ W : World, (Instr.makeSlice 220 (.int .i64 (s.size : Int)) (.int .i64 (s.size : Int))).run Tryz.prog W = .ok (.slice (some ⟨W.heap.size, 0, none⟩) s.size s.size) (W.alloc (.cells N 5)) := fun W => by
      have h := run_make (P := Tryz.prog) W 220 5 i0 (.int .u8 0) u8_under hi hz0 .i64 .i64 (s.size : Int) (s.size : Int) (by omega) (by omega) (by rw [hz2]; omega) (by omega)
      rw [← hN] at h
      simpa using h
    clear hN
    have hcp := Lib.run_copy_row_string (P := Tryz.prog) (w.alloc (.cells N 5)) 220 9 3 5 w.heap.size 0 s.size s.size s N 5 u8_under hinfo (heap_alloc_new w _) (Nat.le_refl _) (by omega)
    obtain ⟨Y, hY⟩ : ∃ Y, Y = (N.toList.take 0 ++ Lib.byteCells s.data.toList ++ N.toList.drop (0 + s.size)).toArray := ⟨_, rfl⟩
    rw [← hY] at hcp
    have hYl : Y.toList = Lib.byteCells s.data.toList := by
      rw [hY, List.toList_toArray, List.take_zero, List.nil_append, List.drop_of_length_le (by rw [Array.length_toList]; omega), List.append_nil]
    have hYs : Y.size = s.size := by rw [← Array.length_toList, hYl, Lib.byteCells_length, ← Lib.size_eq]
    have hgY : ((w.alloc (.cells N 5)).setRow w.heap.size Y).heap[w.heap.size]? = some (.cells Y 5 (0, 0)) := setRow_heap _ _ N _ 5 (0, 0) (heap_alloc_new w _)
    have hne : s.data.toList ≠ [] := fun e => h0 (by rw [Lib.size_eq, e]; rfl)
    have hUS := Lib.run_unsafeString_row (P := Tryz.prog) ((w.alloc (.cells N 5)).setRow w.heap.size Y) 246 3 9 5 pu8_under hco w.heap.size Y.size (by unfold World.shape?; rw [hgY]) s.data.toList hne (by rw [← Lib.size_eq]; omega) (by rw [← Lib.size_eq]; omega)
      (fun j x hx => Lib.cells_of_row hgY Y.size j _ (by rw [List.take_of_length_le (by rw [Array.length_toList]; exact Nat.le_refl _), hYl]; simp [Lib.byteCells, hx]))
    rw [← Lib.size_eq] at hUS
    clear hY
    go_enter Tryz.func192, Tryz.ntmps192
    go_wp2
    go_ret
    have hb1 : Below w.heap.size w (w.alloc (.cells N 5)) := (Below.refl _ w).alloc (Nat.le_refl _) _
    have hb2 : Below w.heap.size (w.alloc (.cells N 5)) ((w.alloc (.cells N 5)).setRow w.heap.size Y) := ⟨rfl, rfl, rfl, by simp, fun k hk => setRow_other _ _ _ _ (by omega)⟩
    exact ⟨rfl, Lib.below_freeze (hb1.trans hb2) (p := ⟨w.heap.size, 0, none⟩) (Nat.le_refl _) _⟩
set_option maxRecDepth 100000 in
set_option maxHeartbeats 1000000 in
theorem Clone_any (s : ByteArray) (w : World) (hlim : s.size ≤ 281474976710656) :
    Calls Tryz.prog 178 #[.string s] w fun e w' => e = .returned (.string s) ∧ Below w.heap.size w w' := by
  have c := W_hid (clone_any s w hlim)
  go_enter Tryz.func178, Tryz.ntmps178
  go_wp2_with fail
  refine c.out.mono ?_
  rintro e w1 ⟨rfl, b1⟩
  go_wp2_with fail
  go_ret
  exact ⟨rfl, b1⟩
end NT
end Go.Proofs.YtfhidjkhmjdioaaGreat

namespace Go.Proofs.YtfhidjkhmjdioaaGreat
open Go.ChangeShapes Go.WideShapes Go.ChangeAt Go.RowKit Go.Maps
set_option linter.unusedVariables false
set_option linter.unusedSimpArgs false
namespace NT
open IN (Keeps)
def One (m k : Nat) (o : Obj) : Prop := k = m ∧ ∃ es c, o = .map es c
def OneD (g k : Nat) (o : Obj) : Prop := k = g ∧ ∃ c s, o = .cells c 94 s
set_option maxRecDepth 100000 in
set_option maxHeartbeats 4000000 in
theorem remove_any (base g m : Nat) (u : Int) (pu : Option Nat) (M : ByteArray → Option (Int × Option Nat)) (k : ByteArray) (hk : NS.Sm k) (w : World) (h : DB w g u pu m M) (hb : base ≤ m) :
    Calls Tryz.prog 123 #[.pointer (some ⟨g, 0, none⟩), .string k] w fun e w' => e = .returned (.tuple #[]) ∧ NS.MB w' m (NS.upd M k none) ∧ Keeps base (One m) w w' := by
  have c2 := h.1.cell (j := 2) rfl
  have hd := fun ty => h.2.del k hk ty
  obtain ⟨es, c, hm⟩ := h.2.obj
  have hd2 : ∃ w2, (∀ ty, (Builtin.delete_ #[92, 9] ty #[.map (some m), .string k]).run Tryz.prog w = .ok (.tuple #[]) w2) ∧ NS.MB w2 m (NS.upd M k none) ∧ w.grownBy w2 (some m) := by
    obtain ⟨w2, h1, h2, h3, -⟩ := hd 0
    refine ⟨w2, fun ty => ?_, h2, h3⟩
    exact h1
  obtain ⟨w2, h1, h2, h3⟩ := hd2
  have hK := W_hid ((Keeps.refl base (One m) w).grown hm ⟨rfl, _, _, rfl⟩ hb h3)
  have h2 := W_hid h2
  clear h hd hm h3
  go_enter Tryz.func123, Tryz.ntmps123
  go_wp2_with fail
  go_end0
  exact ⟨rfl, h2.out, hK.out⟩
set_option maxRecDepth 100000 in
set_option maxHeartbeats 4000000 in
theorem put_any (base g m : Nat) (u : Int) (pu : Option Nat) (M : ByteArray → Option (Int × Option Nat)) (k : ByteArray) (hk : k.size ≤ 281474976710656) (n : Int) (x : Option Nat) (w : World) (h : DB w g u pu m M) (hb : base ≤ m) (hfew : ∀ ss, NS.Nums M ss → ss.length < 65536) :
    Calls Tryz.prog 151 #[.pointer (some ⟨g, 0, none⟩), .string k, NS.nv (n, x)] w fun e w' => e = .returned (.tuple #[]) ∧ NS.MB w' m (NS.upd M k (some (n, x))) ∧ Keeps base (One m) w w' := by
  have hk2 : NS.Sm k := by unfold NS.Sm maxLen; omega
  have cC := fun w => W_hid (Clone_any k w hk)
  have b0 : Below w.heap.size w (w.alloc (.cells #[.int .i64 n, IS.ptr x] 90)) := (Below.refl _ w).alloc (Nat.le_refl _) _
  have hlow : base ≤ w.heap.size := Nat.le_trans hb (Nat.le_of_lt h.2.lt)
  have fin : ∀ w1, Below (w.alloc (.cells #[.int .i64 n, IS.ptr x] 90)).drew.heap.size (w.alloc (.cells #[.int .i64 n, IS.ptr x] 90)).drew w1 → w1.cell? ⟨g, 2, none⟩ = some (.map (some m)) ∧ w1.cell? ⟨w.heap.size, 0, none⟩ = some (.int .i64 n) ∧ w1.cell? ⟨w.heap.size, 1, none⟩ = some (IS.ptr x) ∧ ∃ w2, (Instr.mapUpdate 92 (.map (some m)) (.string k) (NS.nv (n, x))).run Tryz.prog w1 = .ok () w2 ∧ Hid (NS.MB w2 m (NS.upd M k (some (n, x))) ∧ Keeps base (One m) w w2) := fun w1 b1 => by
    have b1' : Below w.heap.size w w1 := b0.trans ((bundrew b1).mono b0.size)
    have h1 := h.keep b1'
    have n1 : Blk w1 w.heap.size 90 [.int .i64 n, IS.ptr x] := (Blk.new _ _ _ rfl).keep (bundrew b1)
    obtain ⟨w2, r1, r2, r3, -⟩ := h1.2.put k (n, x) hk2 hfew
    obtain ⟨es, c, hm⟩ := h1.2.obj
    exact ⟨h1.1.cell (j := 2) rfl, n1.cell (j := 0) rfl, n1.cell (j := 1) rfl, w2, r1, W_hid ⟨r2, (Keeps.new b1' hlow).grown hm ⟨rfl, _, _, rfl⟩ hb r3⟩⟩
  have c2 := fun o => (h.1.alloc o).cell (j := 2) rfl
  unfold NS.nv at fin ⊢
  obtain ⟨pp, hpp⟩ := ptr_form x
  simp only [hpp] at fin ⊢
  replace fin := W_hid fin
  clear h b0 hpp
  go_enter Tryz.func151, Tryz.ntmps151
  go_wp2_with fail
  go_region_with (go_at_call 178; refine (cC _).out.mono ?_; rintro e w1 ⟨rfl, b1⟩; obtain ⟨d2, d0, d1, w2, hrun, hpost⟩ := fin.out w1 b1; clear b1)
  all_goals
    go_end0
    exact ⟨rfl, hpost.out.1, hpost.out.2⟩
theorem newMB (w : World) {x : Nat} (hx : x = w.heap.size) : NS.MB (w.alloc (.map #[] 0)) x (fun _ => none) := by subst hx; exact NS.MB.new w
theorem res_node1 {fn : Func} {r : Tmp} (hres : fn.results = #[.cell r 90]) (tmps : Array Value) (w : World) {g : Nat} {n p : Value} (hr : tmps.getD r undef = .pointer (some ⟨g, 0, none⟩)) (h : Blk w g 90 [n, p]) :
    (results fn tmps).run Tryz.prog w = .ok (.agg #[n, p]) w := by
  have h0 := h.cell (j := 0) rfl
  have h1 := h.cell (j := 1) rfl
  rw [Array.getD_eq_getD_getElem?] at hr
  simp [results, hres, go_sem, hr, h0, h1]
set_option maxRecDepth 100000 in
set_option maxHeartbeats 4000000 in
theorem newNode_file (n : Int) (u : Int) (pp : Option Addr) (w : World) :
    Calls Tryz.prog 38 #[.int .i64 n, .int .i64 1, .agg #[.int .i64 u, .pointer pp]] w fun e w' => e = .returned (NS.nv (n, none)) ∧ Below w.heap.size w w' := by
  go_enter Tryz.func38, Tryz.ntmps38
  go_wp2_with fail
  exact bodyPost_ret (res_node1 Tryz.results38 _ _ rfl ((Blk.new _ _ [.int .i64 n, .pointer none] (by simp)).alloc _)) rfl ⟨rfl, new3 _ _ _ _⟩
set_option maxRecDepth 100000 in
set_option maxHeartbeats 4000000 in
theorem newNode_dir (n : Int) (u : Int) (pp : Option Addr) (w : World) :
    Calls Tryz.prog 38 #[.int .i64 n, .int .i64 2, .agg #[.int .i64 u, .pointer pp]] w fun e w' => ∃ g m, e = .returned (.agg #[.int .i64 n, .pointer (some ⟨g, 0, none⟩)]) ∧ w.heap.size ≤ g ∧ w.heap.size ≤ m ∧ g ≠ m ∧ Blk w' g 94 [.int .i64 u, .pointer pp, .map (some m)] ∧ NS.MB w' m (fun _ => none) ∧ Below w.heap.size w w' := by
  have hmk : ∀ W : World, (Instr.makeMap 92 none).run Tryz.prog W = .ok (.map (some W.heap.size)) (W.alloc (.map #[] 0)) := fun W => by kernel_rfl
  go_enter Tryz.func38, Tryz.ntmps38
  go_wp2_with fail
  refine bodyPost_ret (res_node1 Tryz.results38 _ _ rfl ((((Blk.new _ _ [.int .i64 n, .pointer (some ⟨w.heap.size + 1 + 1 + 1 + 1, 0, none⟩)] (by simp)).alloc _).alloc _).alloc _)) rfl ?_
  exact ⟨w.heap.size + 1 + 1 + 1 + 1, w.heap.size + 1 + 1 + 1, rfl, by omega, by omega, by omega, Blk.new _ _ [.int .i64 u, .pointer pp, .map (some (w.heap.size + 1 + 1 + 1))] (by simp), (newMB _ (by simp)).alloc _, ((new3 w _ _ _).alloc (by simp; omega) _).alloc (by simp; omega) _⟩
end NT
namespace NT
open IN (Keeps)
def FT (A : Int → Option (Nat × Nat)) (mb : Nat) (k : Nat) (o : Obj) : Prop := IN.PT mb k o ∨ ∃ n g m, A n = some (g, m) ∧ (OneD g k o ∨ One m k o)
theorem keeps_wide {B : Nat} {T U : Nat → Obj → Prop} {w w' : World} (h : Keeps B T w w') (hTU : ∀ k o, w.heap[k]? = some o → T k o → U k o) : Keeps B U w w' :=
  ⟨h.os, h.tape, h.output, h.size, h.low, fun k o ho hU => h.block k o ho fun hT => hU (hTU k o ho hT)⟩
section
variable {base : Nat} {w w' : World} {tg sg mb : Nat} {A : Int → Option (Nat × Nat)} {D : Ds}
theorem keeps_store (h : Keeps base (IN.PT mb) w w') : Keeps base (FT A mb) w w' := keeps_wide h fun k o _ hT => .inl hT
theorem keeps_one {n : Int} {g m : Nat} (hA : A n = some (g, m)) (h : Keeps base (One m) w w') : Keeps base (FT A mb) w w' := keeps_wide h fun k o _ hT => .inr ⟨n, g, m, hA, .inr hT⟩
theorem TM.neq (h : TM base w tg sg mb A D) {n : Int} {g m : Nat} (hA : A n = some (g, m)) : g ≠ m ∧ tg ≠ g ∧ tg ≠ m ∧ ∀ n' g' m', A n' = some (g', m') → g' ≠ m ∧ m' ≠ g := by
  obtain ⟨d, hD, p, q⟩ := h.hasA hA
  obtain ⟨es, c, hm⟩ := q.obj
  have cm : ∀ {x : Nat} {e : TypeId} {l : List Value}, Blk w x e l → x ≠ m := fun {x e l} hx e' => by
    subst e'
    unfold Blk at hx
    rw [hx] at hm
    cases hm
  refine ⟨cm p, IN.blk_ne h.box p (by decide), cm h.box, fun n' g' m' hA' => ?_⟩
  obtain ⟨d', hD', p', q'⟩ := h.hasA hA'
  refine ⟨cm p', fun e' => ?_⟩
  obtain ⟨es', c', hm'⟩ := q'.obj
  subst e'
  unfold Blk at p
  rw [p] at hm'
  cases hm'
theorem TM.turn (h : TM base w tg sg mb A D) {n : Int} {g m : Nat} {d : Dr} (hA : A n = some (g, m)) (hD : D n = some d) {l' : List (ByteArray × Int)} (hm : NS.MB w' m (nm A l')) (hK : Keeps base (One m) w w') : TM base w' tg sg mb A (upd D n (some { d with l := l' })) := by
  have hne := h.neq hA
  have hmv : ∀ {x : Nat} {e : TypeId} {l : List Value}, x ≠ m → Blk w x e l → Blk w' x e l := fun {x e l} hx hb => hK.block x _ hb fun h => hx h.1
  refine ⟨hmv hne.2.2.1 h.box, fun n' => ?_, ?_, fun n' g' m' d' hA' hD' => ?_, h.inj, h.ge⟩
  · by_cases e : n' = n
    · subst e; rw [upd_at, hA]; simp
    · rw [upd_ne e]; exact h.dom n'
  · by_cases e : (1 : Int) = n
    · rw [e, upd_at]; simp
    · rw [upd_ne e]; exact h.root
  · by_cases e : n' = n
    · subst e
      rw [upd_at] at hD'
      cases hD'
      rw [hA] at hA'
      cases hA'
      obtain ⟨p, q⟩ := h.dir n' g m d hA hD
      exact ⟨hmv hne.1 p, hm⟩
    · rw [upd_ne e] at hD'
      obtain ⟨p, q⟩ := h.dir n' g' m' d' hA' hD'
      have hg := (hne.2.2.2 n' g' m' hA').1
      have hm' := (h.inj n' n g' m' g m hA' hA e).2
      refine ⟨hmv hg p, q.heap ?_⟩
      obtain ⟨es, c, ho⟩ := q.obj
      exact (hK.block m' _ ho fun h => hm' h.1).trans ho.symm
theorem nm_put (A : Int → Option (Nat × Nat)) (l : List (ByteArray × Int)) (k : ByteArray) (n : Int) : nm A (put k n l) = NS.upd (nm A l) k (some (n, pa A n)) := by
  funext j
  unfold nm NS.upd
  rw [look_put]
  by_cases e : j = k <;> simp [e]
theorem nm_del (A : Int → Option (Nat × Nat)) (l : List (ByteArray × Int)) (k : ByteArray) : nm A (del k l) = NS.upd (nm A l) k none := by
  funext j
  unfold nm NS.upd
  rw [look_del]
  by_cases e : j = k <;> simp [e]
def updA (A : Int → Option (Nat × Nat)) (n : Int) (x : Option (Nat × Nat)) : Int → Option (Nat × Nat) := fun m => if m = n then x else A m
def Free (D : Ds) (n : Int) : Prop := ∀ m d, D m = some d → d.up ≠ n ∧ ∀ k, look k d.l ≠ some n
end
end NT
namespace NT
open IN (Keeps)
def nu : Except Int Int → Int
  | .ok n => n
  | .error _ => 0
theorem parsed {s : ByteArray} {w : World} (hs : s.size ≤ maxLen) : Calls Tryz.prog 86 #[.string s] w fun e w' => ∃ ao n cap, e = .returned (.tuple #[.agg #[.bool (PM.pA s), .slice ao n cap, .bool (PM.pD s)], .int .i64 (PM.perr s)]) ∧ SS w' ao n cap (PM.pN s) ∧ Below w.heap.size w w' :=
  (Parse_all s w hs).mono fun e w' h => by
    obtain ⟨v, rfl, hown, hb⟩ := h
    obtain ⟨ao, cap, rfl⟩ := own_form hown
    exact ⟨ao, _, cap, rfl, SS_own hown, hb⟩
theorem pN_sm (s : ByteArray) : ∀ k ∈ PM.pN s, NS.Sm k := fun k hk => by
  by_cases h : PM.perr s = 0
  · have h1 := PM.valid_comp (PM.parse_valid h).1 k hk
    have h2 := ((PM.comp_iff k).1 h1).1.2
    unfold NS.Sm maxLen
    omega
  · have : PM.pN s = [] := by unfold PM.pN; rw [if_neg h]
    rw [this] at hk
    cases hk
def findR (D : Ds) (s : ByteArray) : Except Int Int := if PM.perr s = 0 then find D (PM.pN s) (PM.pD s) else .error (PM.perr s)
section
variable {base : Nat} {w w' : World} {tg sg mb : Nat} {A : Int → Option (Nat × Nat)} {D : Ds}
set_option maxRecDepth 100000 in
set_option maxHeartbeats 4000000 in
theorem Find_any (s : ByteArray) (hs : s.size ≤ maxLen) (w : World) (h : TM base w tg sg mb A D) :
    Calls Tryz.prog 40 #[.pointer (some ⟨tg, 0, none⟩), .string s] w fun e w' => e = .returned (.tuple #[.int .i64 (nu (findR D s)), .int .i64 (er (findR D s))]) ∧ Below w.heap.size w w' := by
  have cN := W_hid (none_some w h)
  have cP := fun w => W_hid (parsed (w := w) hs)
  have cF := fun (ao : Option Addr) (n cap : Nat) (w' : World) (hb : Below w.heap.size w w') (hl : SS w' ao n cap (PM.pN s)) => find_any (PM.pA s) (PM.pD s) (PM.pN s) ao n cap w' (h.keep hb) hl (pN_sm s)
  obtain ⟨pe, hpe⟩ : ∃ pe, PM.perr s = pe := ⟨_, rfl⟩
  have hf : findR D s = if pe = 0 then find D (PM.pN s) (PM.pD s) else .error pe := by unfold findR; rw [hpe]
  rw [hpe] at cP
  generalize PM.pN s = l at cP hf cF
  generalize PM.pD s = d at cP hf cF
  generalize PM.pA s = a at cP cF
  clear h hpe
  by_cases h0 : pe = 0
  · subst h0
    rw [if_pos rfl] at hf
    rw [hf]
    generalize find D l d = R at cF
    have hv : ∃ v2, rv A R = .agg #[.int .i64 (nu R), .pointer v2] := by
      cases R with
      | error e => exact ⟨_, rfl⟩
      | ok m =>
        obtain ⟨pp, hpp⟩ := ptr_form (pa A m)
        exact ⟨pp, by show NS.nv (m, pa A m) = _; unfold NS.nv; rw [hpp]; rfl⟩
    obtain ⟨v2, hv⟩ := hv
    rw [hv] at cF
    generalize nu R = v1 at cF
    generalize er R = v3 at cF
    replace cF := W_hid cF
    clear hv hf
    go_enter Tryz.func40, Tryz.ntmps40
    go_wp2_with fail
    refine cN.out.mono ?_
    rintro e w1 ⟨rfl, b1⟩
    have B1 := W_hid b1
    clear b1 cN
    go_wp2_with fail
    refine (cP _).out.mono ?_
    rintro e w2 ⟨ao, n, cap, rfl, hS, b2⟩
    have p2 : Blk (w2.alloc (.cells #[.bool a, .slice ao n cap, .bool d] 158)) w2.heap.size 158 [.bool a, .slice ao n cap, .bool d] := Blk.new _ _ _ rfl
    have b2' : Below w.heap.size w w2 := B1.out.trans (b2.mono B1.out.size)
    have b3 := b2'.alloc b2'.size (.cells #[.bool a, .slice ao n cap, .bool d] 158)
    have cF1 := W_hid (cF.out ao n cap _ b3 (hS.alloc _))
    have c0 := p2.cell (j := 0) rfl
    have c1 := p2.cell (j := 1) rfl
    have c2 := p2.cell (j := 2) rfl
    have B3 := W_hid b3
    clear b2 b3 b2' p2 hS cF
    go_wp2_with fail
    refine cF1.out.mono ?_
    rintro e w3 ⟨rfl, b4⟩
    go_wp2_with fail
    go_ret2
    exact ⟨rfl, (B3.out.trans (b4.mono B3.out.size)).alloc (by have := B3.out.size; have := b4.size; omega) _⟩
  · rw [if_neg h0] at hf
    rw [hf]
    have hne : (pe == 0) = false := by simpa using h0
    clear hf
    go_enter Tryz.func40, Tryz.ntmps40
    go_wp2_with fail
    refine cN.out.mono ?_
    rintro e w1 ⟨rfl, b1⟩
    have B1 := W_hid b1
    clear b1 cN
    go_wp2_with fail
    refine (cP _).out.mono ?_
    rintro e w2 ⟨ao, n, cap, rfl, hS, b2⟩
    have b2' : Below w.heap.size w w2 := B1.out.trans (b2.mono B1.out.size)
    have B3 := W_hid (b2'.alloc b2'.size (.cells #[.bool a, .slice ao n cap, .bool d] 158))
    clear b2 b2' hS
    go_wp2_with fail
    go_ret2
    exact ⟨rfl, B3.out⟩
end
end NT
namespace NT
open IN (Keeps)
section
variable {base : Nat} {w w' : World} {tg sg mb : Nat} {A : Int → Option (Nat × Nat)} {D : Ds}
set_option maxRecDepth 100000 in
set_option maxHeartbeats 2000000 in
theorem Make_parse (s : ByteArray) (hs : s.size ≤ maxLen) (kind : Int) (w : World) (h : TM base w tg sg mb A D) (hk : kind = 1 ∨ kind = 2) (he : PM.perr s ≠ 0) : Calls Tryz.prog 116 #[.pointer (some ⟨tg, 0, none⟩), .string s, .int .i64 kind] w fun e w' => e = .returned (.tuple #[.int .i64 0, .int .i64 (PM.perr s)]) ∧ Below w.heap.size w w' := by
  have cN := W_hid (none_some w h)
  have cP := fun w => W_hid (parsed (w := w) hs)
  generalize PM.perr s = pe at cP he ⊢
  have hne : (pe == 0) = false := by simpa using he
  clear h
  rcases hk with rfl | rfl
  all_goals
    go_enter Tryz.func116, Tryz.ntmps116
    go_wp2_with fail
    refine cN.out.mono ?_
    rintro e w1 ⟨rfl, b1⟩
    have B1 := W_hid b1
    clear b1 cN
    go_wp2_with fail
    refine (cP _).out.mono ?_
    rintro e w2 ⟨ao, n, cap, rfl, hS, b2⟩
    have b2' : Below w.heap.size w w2 := B1.out.trans (b2.mono B1.out.size)
    have B3 := W_hid (b2'.alloc b2'.size (.cells #[.bool (PM.pA s), .slice ao n cap, .bool (PM.pD s)] 158))
    clear b2 b2' hS
    go_wp2_with fail
    go_ret2
    exact ⟨rfl, B3.out⟩
def vacant (D : Ds) (kind : Int) (s : ByteArray) : Except Int Int := placeC D (PM.pN s) 12 (vac D kind (last (PM.pN s)) (PM.pD s))
set_option maxRecDepth 100000 in
set_option maxHeartbeats 4000000 in
theorem Make_vac (s : ByteArray) (hs : s.size ≤ maxLen) (kind : Int) (w : World) (h : TM base w tg sg mb A D) (hk : kind = 1 ∨ kind = 2) (hp : PM.perr s = 0) (e0 : Int) (hv : vacant D kind s = .error e0) (he : e0 ≠ 0) : Calls Tryz.prog 116 #[.pointer (some ⟨tg, 0, none⟩), .string s, .int .i64 kind] w fun e w' => e = .returned (.tuple #[.int .i64 0, .int .i64 e0]) ∧ Below w.heap.size w w' := by
  have cN := W_hid (none_some w h)
  have cP := fun w => W_hid (parsed (w := w) hs)
  rw [hp] at cP
  have cV := fun (ao : Option Addr) (n cap : Nat) (w' : World) (hb : Below w.heap.size w w') (hl : SS w' ao n cap (PM.pN s)) => vacant_any (PM.pA s) (PM.pD s) kind (PM.pN s) ao n cap w' (h.keep hb) hl (pN_sm s)
  unfold vacant at hv
  rw [hv] at cV
  simp only [pv, er] at cV
  have hne : (e0 == 0) = false := by simpa using he
  generalize PM.pN s = l at cP cV
  generalize PM.pD s = d at cP cV
  generalize PM.pA s = a at cP cV
  replace cV := W_hid cV
  clear h hv hp he
  rcases hk with rfl | rfl
  all_goals
    go_enter Tryz.func116, Tryz.ntmps116
    go_wp2_with fail
    refine cN.out.mono ?_
    rintro e w1 ⟨rfl, b1⟩
    have B1 := W_hid b1
    clear b1 cN
    go_wp2_with fail
    refine (cP _).out.mono ?_
    rintro e w2 ⟨ao, n, cap, rfl, hS, b2⟩
    have b2' : Below w.heap.size w w2 := B1.out.trans (b2.mono B1.out.size)
    have b3 := b2'.alloc b2'.size (.cells #[.bool a, .slice ao n cap, .bool d] 158)
    have p2 : Blk (w2.alloc (.cells #[.bool a, .slice ao n cap, .bool d] 158)) w2.heap.size 158 [.bool a, .slice ao n cap, .bool d] := Blk.new _ _ _ rfl
    have c0 := p2.cell (j := 0) rfl
    have c1 := p2.cell (j := 1) rfl
    have c2 := p2.cell (j := 2) rfl
    have cV1 := W_hid (cV.out ao n cap _ b3 (hS.alloc _))
    have B3 := W_hid b3
    clear b2 b2' hS b3 p2 cV
    go_wp2_with fail
    refine cV1.out.mono ?_
    rintro e w3 ⟨rfl, b4⟩
    have b4' := B3.out.trans (b4.mono B3.out.size)
    have B4 := W_hid (b4'.alloc b4'.size (.cells #[.int .i64 0, .pointer none, .string ⟨#[]⟩, .bool false] 146))
    clear b4 b4' cV1
    go_wp2_with fail
    go_ret2
    exact ⟨rfl, B4.out⟩
theorem made_few {M : ByteArray → Option (Int × Option Nat)} {l : List (ByteArray × Int)} {A : Int → Option (Nat × Nat)} (hM : M = nm A l) (hl : l.length < 65536) : ∀ ss, NS.Nums M ss → ss.length < 65536 := fun ss h => by
  have : ss.length ≤ (l.map (·.1)).length := NS.nodup_sub ss (l.map (·.1)) h.1 (fun x hx => by
    have h1 := (h.2 x).1 hx
    rw [hM] at h1
    unfold nm at h1
    cases e : look x l with
    | none => rw [e] at h1; exact absurd rfl h1
    | some j => exact List.mem_map.2 ⟨(x, j), look_mem e, rfl⟩)
  rw [List.length_map] at this
  omega
set_option maxRecDepth 100000 in
set_option maxHeartbeats 4000000 in
theorem Make_full (I L B k : Nat) (M : Int → Option Nat) (S : Int → Option IN.Nd) (s : ByteArray) (hs : s.size ≤ maxLen) (kind : Int) (w : World) (h : TM base w tg sg mb A D) (hS0 : IN.PS base w sg mb M I L B k S) (hk : kind = 1 ∨ kind = 2) (hp : PM.perr s = 0) (p : Int) (hv : vacant D kind s = .ok p) (e0 : Int) (hr : IN.mkR I S kind = e0) (he : e0 ≠ 0) :
    Calls Tryz.prog 116 #[.pointer (some ⟨tg, 0, none⟩), .string s, .int .i64 kind] w fun e w' => e = .returned (.tuple #[.int .i64 0, .int .i64 e0]) ∧ Below w.heap.size w w' := by
  have cN := W_hid (none_some w h)
  have cP := fun w => W_hid (parsed (w := w) hs)
  rw [hp] at cP
  have cV := fun (ao : Option Addr) (n cap : Nat) (w' : World) (hb : Below w.heap.size w w') (hl : SS w' ao n cap (PM.pN s)) => vacant_any (PM.pA s) (PM.pD s) kind (PM.pN s) ao n cap w' (h.keep hb) hl (pN_sm s)
  unfold vacant at hv
  rw [hv] at cV
  simp only [pv, er, plv] at cV
  have hne : (e0 == 0) = false := by simpa using he
  generalize PM.pN s = l at cP cV
  generalize PM.pD s = d at cP cV
  generalize PM.pA s = a at cP cV
  generalize last l = z at cV
  obtain ⟨pp, hpp⟩ := ptr_form (pa A p)
  simp only [hpp] at cV
  replace cV := W_hid cV
  have cM := W_hid (fun (w' : World) (hb : Below w.heap.size w w') => IN.Make_no kind w' (hS0.keep hb) e0 hr he)
  have t0 := W_hid (fun (w' : World) (hb : Below w.heap.size w w') => (h.keep hb).box.cell (j := 0) rfl)
  clear h hv hp he hS0 hpp
  rcases hk with rfl | rfl
  all_goals
    go_enter Tryz.func116, Tryz.ntmps116
    go_wp2_with fail
    refine cN.out.mono ?_
    rintro e w1 ⟨rfl, b1⟩
    have B1 := W_hid b1
    clear b1 cN
    go_wp2_with fail
    refine (cP _).out.mono ?_
    rintro e w2 ⟨ao, n, cap, rfl, hS, b2⟩
    have b2' : Below w.heap.size w w2 := B1.out.trans (b2.mono B1.out.size)
    have b3 := b2'.alloc b2'.size (.cells #[.bool a, .slice ao n cap, .bool d] 158)
    have p2 : Blk (w2.alloc (.cells #[.bool a, .slice ao n cap, .bool d] 158)) w2.heap.size 158 [.bool a, .slice ao n cap, .bool d] := Blk.new _ _ _ rfl
    have c0 := p2.cell (j := 0) rfl
    have c1 := p2.cell (j := 1) rfl
    have c2 := p2.cell (j := 2) rfl
    have cV1 := W_hid (cV.out ao n cap _ b3 (hS.alloc _))
    have B3 := W_hid b3
    clear b2 b2' hS b3 p2 cV
    go_wp2_with fail
    refine cV1.out.mono ?_
    rintro e w3 ⟨rfl, b4⟩
    have b4' := B3.out.trans (b4.mono B3.out.size)
    have b5 := b4'.alloc b4'.size (.cells #[.int .i64 p, .pointer pp, .string z, .bool d] 146)
    have t1 := t0.out _ b5
    have cM1 := W_hid (cM.out _ b5)
    have B4 := W_hid b5
    clear b4 b4' b5 cV1 cM t0
    go_wp2_with fail
    refine cM1.out.mono ?_
    rintro e w4 ⟨rfl, b6⟩
    have B5 := W_hid (B4.out.trans (b6.mono B4.out.size))
    clear b6 cM1
    go_wp2_with fail
    go_ret2
    exact ⟨rfl, B5.out⟩
theorem last_le (s : ByteArray) : (last (PM.pN s)).size ≤ 281474976710656 := by
  by_cases h : PM.pN s = []
  · rw [h]; decide
  · by_cases hp : PM.perr s = 0
    · have h1 := PM.valid_comp (PM.parse_valid hp).1 _ (last_mem h)
      have h2 := ((PM.comp_iff _).1 h1).1.2
      omega
    · exact absurd (by unfold PM.pN; rw [if_neg hp]) h
def mkD (D : Ds) (p : Int) (k : ByteArray) (n kind : Int) : Ds := fun m => if m = p then (D p).map fun d => { d with l := put k n d.l } else if m = n ∧ kind = 2 then some ⟨p, []⟩ else D m
set_option maxRecDepth 100000 in
set_option maxHeartbeats 8000000 in
theorem Make_file (I L B k : Nat) (M : Int → Option Nat) (S : Int → Option IN.Nd) (s : ByteArray) (hs : s.size ≤ maxLen) (w : World) (h : TM base w tg sg mb A D) (hS0 : IN.PS base w sg mb M I L B k S) (hp : PM.perr s = 0) (p : Int) (hv : vacant D 1 s = .ok p) (dp : Dr) (hdp : D p = some dp) (hfew : dp.l.length < 65536)
    (n : Nat) (hr : IN.mkR I S 1 = 0) (hlow : IN.Low S n) (hn : n ≤ I) (hL : 1 ≤ L) (hfree : D (n : Int) = none) :
    Calls Tryz.prog 116 #[.pointer (some ⟨tg, 0, none⟩), .string s, .int .i64 1] w fun e w' => e = .returned (.tuple #[.int .i64 (n : Int), .int .i64 0]) ∧ (∃ M', IN.PS base w' sg mb M' I L B k (IN.upd S (n : Int) (some (IN.newNd 1)))) ∧ TM base w' tg sg mb A (mkD D p (last (PM.pN s)) (n : Int) 1) ∧ Keeps base (FT A mb) w w' := by
  have cN := W_hid (none_some w h)
  have cP := fun w => W_hid (parsed (w := w) hs)
  rw [hp] at cP
  have cV := fun (ao : Option Addr) (n cap : Nat) (w' : World) (hb : Below w.heap.size w w') (hl : SS w' ao n cap (PM.pN s)) => vacant_any (PM.pA s) (PM.pD s) 1 (PM.pN s) ao n cap w' (h.keep hb) hl (pN_sm s)
  unfold vacant at hv
  rw [hv] at cV
  have hz := last_le s
  simp only [pv, er, plv] at cV
  generalize PM.pN s = l at cP cV hv hz ⊢
  generalize PM.pD s = d at cP cV hv
  generalize PM.pA s = a at cP cV
  generalize last l = z at cV hv hz ⊢
  obtain ⟨g, m, hA, hpa, hdb⟩ := h.db hdp
  rw [hpa] at cV
  simp only [IS.ptr] at cV
  replace cV := W_hid cV
  have cM := W_hid (fun (w' : World) (hb : Below w.heap.size w w') => IN.Make_yes 1 n w' (hS0.keep hb) hr hlow hn hL)
  have t0 := W_hid (fun (w' : World) (hb : Below w.heap.size w w') => (h.keep hb).box.cell (j := 0) rfl)
  have cW := fun (pp : Option Addr) (w : World) => W_hid (newNode_file (n : Int) p pp w)
  have hpn : pa A (n : Int) = none := by unfold pa; rw [(h.dom _).2 hfree]; rfl
  have cU := W_hid (fun (w4 : World) (hK : Keeps base (FT A mb) w w4) (hT : TM base w4 tg sg mb A D) => by
    obtain ⟨q1, q2⟩ := hT.dir p g m dp hA hdp
    exact put_any base g m dp.up (pa A dp.up) (nm A dp.l) z hz (n : Int) none w4 ⟨q1, q2⟩ (h.ge.2 p g m hA).2.1 (made_few rfl hfew))
  have H := W_hid h
  have hDp : Hid (∀ (w5 : World), upd D p (some { dp with l := put z (n : Int) dp.l }) = mkD D p z (n : Int) 1) := W_hid (fun _ => by
    funext m'
    unfold mkD upd
    by_cases e : m' = p
    · simp [e, hdp]
    · simp [e])
  have hA := W_hid hA
  have hdp := W_hid hdp
  have hpn := W_hid hpn
  clear h hv hp hS0 hpa hdb hr hlow hfree
  go_enter Tryz.func116, Tryz.ntmps116
  go_wp2_with fail
  refine cN.out.mono ?_
  rintro e w1 ⟨rfl, b1⟩
  have B1 := W_hid b1
  clear b1 cN
  go_wp2_with fail
  refine (cP _).out.mono ?_
  rintro e w2 ⟨ao, n0, cap, rfl, hS, b2⟩
  have b2' : Below w.heap.size w w2 := B1.out.trans (b2.mono B1.out.size)
  have b3 := b2'.alloc b2'.size (.cells #[.bool a, .slice ao n0 cap, .bool d] 158)
  have p2 : Blk (w2.alloc (.cells #[.bool a, .slice ao n0 cap, .bool d] 158)) w2.heap.size 158 [.bool a, .slice ao n0 cap, .bool d] := Blk.new _ _ _ rfl
  have c0 := p2.cell (j := 0) rfl
  have c1 := p2.cell (j := 1) rfl
  have c2 := p2.cell (j := 2) rfl
  have cV1 := W_hid (cV.out ao n0 cap _ b3 (hS.alloc _))
  have B3 := W_hid b3
  clear b2 b2' hS b3 p2 cV
  go_wp2_with fail
  refine cV1.out.mono ?_
  rintro e w3 ⟨rfl, b4⟩
  have b4' := B3.out.trans (b4.mono B3.out.size)
  have b5 := b4'.alloc b4'.size (.cells #[.int .i64 p, .pointer (some ⟨g, 0, none⟩), .string z, .bool d] 146)
  have q3 : Blk (w3.alloc (.cells #[.int .i64 p, .pointer (some ⟨g, 0, none⟩), .string z, .bool d] 146)) w3.heap.size 146 [.int .i64 p, .pointer (some ⟨g, 0, none⟩), .string z, .bool d] := Blk.new _ _ _ rfl
  have q3 := W_hid q3
  have t1 := t0.out _ b5
  have cM1 := W_hid (cM.out _ b5)
  have B4 := W_hid b5
  have hw3 := W_hid b4'.size
  clear b4 b4' b5 cV1 cM t0
  go_wp2_with fail
  refine cM1.out.mono ?_
  rintro e w4 ⟨rfl, hPS, hK⟩
  have q4 : Blk w4 w3.heap.size 146 [.int .i64 p, .pointer (some ⟨g, 0, none⟩), .string z, .bool d] := hK.block _ _ q3.out (by simp [IN.PT])
  have hT4 := (H.out.keep B4.out).store hK
  have hK4 : Keeps base (FT A mb) w w4 := (Keeps.new B4.out H.out.low).trans (keeps_store hK)
  have d0 := q4.cell (j := 0) rfl
  have d1 := q4.cell (j := 1) rfl
  have d2 := q4.cell (j := 2) rfl
  have next : ∀ w5, Below w4.heap.size w4 w5 → (w5.cell? ⟨w3.heap.size, 0, none⟩ = some (.int .i64 p) ∧ w5.cell? ⟨w3.heap.size, 1, none⟩ = some (.pointer (some ⟨g, 0, none⟩)) ∧ w5.cell? ⟨w3.heap.size, 2, none⟩ = some (.string z)) ∧ Hid ((∃ M', IN.PS base w5 sg mb M' I L B k (IN.upd S (n : Int) (some (IN.newNd 1)))) ∧ TM base w5 tg sg mb A D ∧ Keeps base (FT A mb) w w5 ∧ Blk w5 w3.heap.size 146 [.int .i64 p, .pointer (some ⟨g, 0, none⟩), .string z, .bool d]) := fun w5 b5 => by
    have q5 := q4.keep b5
    obtain ⟨M', hp'⟩ := hPS
    exact ⟨⟨q5.cell (j := 0) rfl, q5.cell (j := 1) rfl, q5.cell (j := 2) rfl⟩, W_hid ⟨⟨M', hp'.keep b5⟩, hT4.keep b5, hK4.trans (Keeps.new b5 hT4.low), q5⟩⟩
  have hm3 : Hid (w3.heap.size ≠ m) := W_hid (by
    have h1 := (H.out.dir p g m dp hA.out hdp.out).2.lt
    have h2 := B3.out.size
    have h3 := hw3.out
    omega)
  replace next := W_hid next
  have hPS := W_hid hPS
  have hT4 := W_hid hT4
  have hK4 := W_hid hK4
  clear cM1 hK q4 q3
  go_wp2_with fail
  go_region_held3 (fun w' => w'.cell? ⟨w3.heap.size, 0, none⟩ = some (.int .i64 p) ∧ w'.cell? ⟨w3.heap.size, 1, none⟩ = some (.pointer (some ⟨g, 0, none⟩)) ∧ w'.cell? ⟨w3.heap.size, 2, none⟩ = some (.string z)) (first | assumption | go_keep)
    (first
      | (go_at_call 38; refine (cW _ _).out.mono ?_; rintro e w5 ⟨rfl, b5⟩; obtain ⟨S5, H5⟩ := next.out w5 (bundrew b5); clear b5)
      | (go_at_call 151; refine (cU.out _ H5.out.2.2.1 H5.out.2.1).mono ?_; rintro e w6 ⟨rfl, hM6, hK6⟩; have q6 := (show Blk w6 w3.heap.size 146 [.int .i64 p, .pointer (some ⟨g, 0, none⟩), .string z, .bool d] from hK6.block _ _ H5.out.2.2.2 fun h => hm3.out h.1); have S6 : w6.cell? ⟨w3.heap.size, 0, none⟩ = some (.int .i64 p) ∧ w6.cell? ⟨w3.heap.size, 1, none⟩ = some (.pointer (some ⟨g, 0, none⟩)) ∧ w6.cell? ⟨w3.heap.size, 2, none⟩ = some (.string z) := ⟨q6.cell (j := 0) rfl, q6.cell (j := 1) rfl, q6.cell (j := 2) rfl⟩))
  all_goals
    have hT6 := H5.out.2.1.turn hA.out hdp.out (l' := put z (n : Int) dp.l) (by rw [nm_put, hpn.out]; exact hM6) hK6
    have hfin := W_hid (show (∃ M', IN.PS base w6 sg mb M' I L B k (IN.upd S (n : Int) (some (IN.newNd 1)))) ∧ TM base w6 tg sg mb A (mkD D p z (n : Int) 1) ∧ Keeps base (FT A mb) w w6 from by
      obtain ⟨⟨M', h1⟩, h2, h3, h4⟩ := H5.out
      have hb := H.out.ge.2 p g m hA.out
      refine ⟨⟨M', h1.keeps hK6 (by simp [One]) (by simp [One]) (by simp [One, hb.2.2.symm]) (by simp [One])⟩, ?_, h3.trans (keeps_one hA.out hK6)⟩
      rw [← hDp.out w]
      exact hT6)
    clear hT6 q6 S6 hM6 hK6 H5
    go_wp2_with fail
    go_ret2
    exact ⟨rfl, hfin.out⟩
end
end NT
namespace NT
open IN (Keeps)
section
variable {base sg mb I L B k : Nat} {M : Int → Option Nat} {S : Int → Option IN.Nd}
def D0 : Ds := fun n => if n = 1 then some ⟨1, []⟩ else none
def nw (w3 : World) (sg g : Nat) : World := (((w3.alloc (.cells #[.int .i64 1, .pointer (some ⟨g, 0, none⟩)] 90)).setCell ⟨g, 0, none⟩ (.int .i64 1)).setCell ⟨g, 1, none⟩ (.pointer (some ⟨g, 0, none⟩))).alloc (.cells #[.pointer (some ⟨sg, 0, none⟩), .int .i64 1, .pointer (some ⟨g, 0, none⟩)] 96)
theorem new_tree {w2 w3 : World} {g m : Nat} {S : Int → Option IN.Nd} (hp : ∃ M', IN.PS base w2 sg mb M' I L B k S) (hlow : base ≤ w2.heap.size) (hg : w2.heap.size ≤ g) (hm : w2.heap.size ≤ m) (hgm : g ≠ m) (hb : Blk w3 g 94 [.int .i64 0, .pointer none, .map (some m)]) (hM : NS.MB w3 m (fun _ => none)) (b3 : Below w2.heap.size w2 w3) :
    (∃ M', IN.PS base (nw w3 sg g) sg mb M' I L B k S) ∧ TM base (nw w3 sg g) (w3.heap.size + 1) sg mb (fun n => if n = 1 then some (g, m) else none) D0 ∧ Below w2.heap.size w2 (nw w3 sg g) := by
  obtain ⟨M', hp⟩ := hp
  have hsz : w2.heap.size ≤ w3.heap.size := b3.size
  have hmb := hp.pm.mp.lt
  have bA : Below w2.heap.size w2 (w3.alloc (.cells #[.int .i64 1, .pointer (some ⟨g, 0, none⟩)] 90)) := b3.alloc hsz _
  have bB := (bA.setCell (p := ⟨g, 0, none⟩) hg (.int .i64 1)).setCell (p := ⟨g, 1, none⟩) hg (.pointer (some ⟨g, 0, none⟩))
  have bC : Below w2.heap.size w2 (nw w3 sg g) := bB.alloc (by simp; omega) _
  have hb4 : Blk (nw w3 sg g) g 94 [.int .i64 1, .pointer (some ⟨g, 0, none⟩), .map (some m)] := (((hb.alloc _).set 0 (.int .i64 1)).set 1 (.pointer (some ⟨g, 0, none⟩))).alloc _
  have hM4 : NS.MB (nw w3 sg g) m (fun _ => none) := (((hM.alloc _).far (p := ⟨g, 0, none⟩) hgm.symm (.int .i64 1)).far (p := ⟨g, 1, none⟩) hgm.symm (.pointer (some ⟨g, 0, none⟩))).alloc _
  have hbox : Blk (nw w3 sg g) (w3.heap.size + 1) 96 [.pointer (some ⟨sg, 0, none⟩), .int .i64 1, .pointer (some ⟨g, 0, none⟩)] := Blk.new _ _ _ (by simp)
  have hpA : pa (fun n => if n = 1 then some (g, m) else none) 1 = some g := by simp [pa]
  refine ⟨⟨M', hp.keep bC⟩, ⟨?_, fun n => ?_, ?_, fun n g' m' d' hA' hD' => ?_, fun n n' g1 m1 g2 m2 h1 h2 e => ?_, by omega, fun n g1 m1 h1 => ?_⟩, bC⟩
  · rw [hpA]; exact hbox
  · unfold D0; split <;> simp
  · simp [D0]
  · unfold D0 at hD'
    by_cases e : n = 1
    · rw [if_pos e] at hA' hD'
      cases hA'
      cases hD'
      refine ⟨?_, hM4.congr fun f => by simp [nm, look]⟩
      unfold dcl
      rw [hpA]
      exact hb4
    · rw [if_neg e] at hA'
      cases hA'
  · by_cases e1 : n = 1
    · by_cases e2 : n' = 1
      · exact absurd (e1.trans e2.symm) e
      · rw [if_neg e2] at h2; cases h2
    · rw [if_neg e1] at h1; cases h1
  · by_cases e1 : n = 1
    · rw [if_pos e1] at h1
      cases h1
      exact ⟨by omega, by omega, by omega⟩
    · rw [if_neg e1] at h1; cases h1
set_option maxRecDepth 100000 in
set_option maxHeartbeats 4000000 in
theorem New_yes (w : World) (h : IN.PS base w sg mb M I L B k (fun _ => none)) (hI : 1 ≤ I) (hL : 1 ≤ L) : Calls Tryz.prog 13 #[.pointer (some ⟨sg, 0, none⟩)] w fun e w' => ∃ tg A, e = .returned (.tuple #[.pointer (some ⟨tg, 0, none⟩), .int .i64 0]) ∧ (∃ M', IN.PS base w' sg mb M' I L B k (IN.upd (fun _ => none) 1 (some (IN.newNd 2)))) ∧ TM base w' tg sg mb A D0 ∧ Keeps base (IN.PT mb) w w' := by
  have hnil : IN.lst (fun _ => none) I = [] := by unfold IN.lst; simp [IN.ent]
  have cA := IN.All_any w h
  rw [hnil] at cA
  replace cA := W_hid cA
  have cM := W_hid (fun (w' : World) (hb : Below w.heap.size w w') => IN.Make_yes 2 1 w' (h.keep hb) (by unfold IN.mkR; simp [hnil]; omega) ⟨Nat.le_refl _, rfl, fun m h1 h2 => by omega⟩ hI hL)
  have cW := fun w => W_hid (newNode_dir 1 0 none w)
  have hlow := W_hid h.low
  clear h
  go_enter Tryz.func13, Tryz.ntmps13
  go_wp2_with fail
  refine cA.out.mono ?_
  rintro e w1 ⟨v, rfl, hown, b1⟩
  obtain ⟨ao, cap, rfl⟩ := Own.form hown
  have B1 := W_hid b1
  have cM1 := W_hid (cM.out _ b1)
  simp only [List.length_nil] at hown ⊢
  clear b1 hown cA cM
  go_wp2_with fail
  refine cM1.out.mono ?_
  rintro e w2 ⟨rfl, hPS, hK⟩
  have hK2 := W_hid ((Keeps.new (T := IN.PT mb) B1.out hlow.out).trans hK)
  have hPS := W_hid hPS
  clear hK cM1
  go_wp2_with fail
  refine (cW _).out.mono ?_
  rintro e w3 ⟨g, m, rfl, hg, hm, hgm, hb, hM, b3⟩
  have hb2 := hb.alloc (.cells #[.int .i64 1, .pointer (some ⟨g, 0, none⟩)] 90)
  have c0 := hb2.cell (j := 0) rfl
  have c1 := hb2.cell (j := 1) rfl
  have f0 := hb2.fz
  have hn3 : Blk (((w3.alloc (.cells #[.int .i64 1, .pointer (some ⟨g, 0, none⟩)] 90)).setCell ⟨g, 0, none⟩ (.int .i64 1)).setCell ⟨g, 1, none⟩ (.pointer (some ⟨g, 0, none⟩))) w3.heap.size 90 [.int .i64 1, .pointer (some ⟨g, 0, none⟩)] :=
    (((Blk.new w3 _ _ rfl).far (p := ⟨g, 0, none⟩) (Nat.ne_of_gt hb.lt) _).far (p := ⟨g, 1, none⟩) (Nat.ne_of_gt hb.lt) _)
  have e0 := hn3.cell (j := 0) rfl
  have e1 := hn3.cell (j := 1) rfl
  have hfin := W_hid (new_tree hPS.out (Nat.le_trans hlow.out hK2.out.size) hg hm hgm hb hM b3)
  clear hb hb2 hM b3 hn3
  go_wp2_with fail
  go_ret2
  exact ⟨_, _, rfl, hfin.out.1, hfin.out.2.1, hK2.out.trans (Keeps.new hfin.out.2.2 (Nat.le_trans hlow.out hK2.out.size))⟩
end
end NT
end Go.Proofs.YtfhidjkhmjdioaaGreat

namespace Go.Proofs.YtfhidjkhmjdioaaGreat
open Go.ChangeShapes Go.WideShapes Go.ChangeAt Go.RowKit Go.Maps
set_option linter.unusedVariables false
set_option linter.unusedSimpArgs false
set_option maxRecDepth 100000
set_option maxHeartbeats 4000000
namespace DC
open IS (ptr I64 upd)
open IN (Nd PS cap7)
open NT (TM Ds findR nu er)
theorem stV_form (S : Int → Option Nd) (n : Int) : ∃ a b c d e f : Int, IN.stV S n = [.int .i64 a, .int .i64 b, .int .i64 c, .int .i64 d, .int .i64 e, .int .i64 f] := by
  unfold IN.stV
  split
  · exact ⟨_, _, _, _, _, _, rfl⟩
  · exact ⟨_, _, _, _, _, _, rfl⟩
theorem opR_ne (S : Int → Option Nd) (n : Int) : (IN.opR S n == 1) = false := by
  unfold IN.opR IN.askR
  split
  · rfl
  · simp
theorem slash_ok (D : Ds) (h : D 1 ≠ none) : findR D ⟨#[47]⟩ = .ok 1 := by
  unfold findR
  rw [if_pos (by decide), show PM.pN ⟨#[47]⟩ = [] by decide]
  show (if PM.pD ⟨#[47]⟩ = true ∧ D 1 = none then Except.error 13 else Except.ok 1) = Except.ok 1
  rw [if_neg fun e => h e.2]
def CR (x y : Int) : Prop := 1 ≤ x ∧ x ≤ 64 ∧ 1 ≤ y ∧ y ≤ 1024
section
variable {base tg sg mb I L B k : Nat} {M : Int → Option Nat} {S : Int → Option Nd} {A : Int → Option (Nat × Nat)} {D : Ds}
theorem New_both (a1 a2 a3 x y a6 a7 : Int) (w : World) (hS : PS base w sg mb M I L B k S) (hT : TM base w tg sg mb A D) (hxy : CR x y) :
    Calls Tryz.prog 14 #[.pointer (some ⟨sg, 0, none⟩), .pointer (some ⟨tg, 0, none⟩), cap7 a1 a2 a3 x y a6 a7] w fun e w' => ∃ g b, e = .returned (.tuple #[.pointer (some ⟨g, 0, none⟩), .int .i64 0]) ∧ w.heap.size ≤ b ∧ w.heap.size ≤ g ∧ g ≠ b ∧ TB w' g sg tg b x y ∧ MB w' b 0 (fun _ => none) ∧ Below w.heap.size w w' := by
  have b0 : Below w.heap.size w (w.alloc (.cells #[.int .i64 a1, .int .i64 a2, .int .i64 a3, .int .i64 x, .int .i64 y, .int .i64 a6, .int .i64 a7] 25)) := (Below.refl _ w).alloc (Nat.le_refl _) _
  have hC : Blk (w.alloc (.cells #[.int .i64 a1, .int .i64 a2, .int .i64 a3, .int .i64 x, .int .i64 y, .int .i64 a6, .int .i64 a7] 25)) w.heap.size 25 [.int .i64 a1, .int .i64 a2, .int .i64 a3, .int .i64 x, .int .i64 y, .int .i64 a6, .int .i64 a7] := Blk.new _ _ _ rfl
  have cS := IN.Stat_any 0 _ (hS.keep b0) ⟨by decide, by decide⟩
  obtain ⟨s1, s2, s3, s4, s5, s6, hs⟩ := stV_form S 0
  obtain ⟨oe, ho⟩ : ∃ oe, IN.opR S 0 = oe := ⟨_, rfl⟩
  have hoe := opR_ne S 0
  rw [hs, ho] at cS
  rw [ho] at hoe
  replace cS := W_hid (show Calls Tryz.prog 39 #[.pointer (some ⟨sg, 0, none⟩), .int .i64 0] _ fun e w' => e = .returned (.tuple #[.agg #[.int .i64 s1, .int .i64 s2, .int .i64 s3, .int .i64 s4, .int .i64 s5, .int .i64 s6], .int .i64 oe]) ∧ _ from cS)
  have hT0 := hT.keep b0
  have hD : D 1 ≠ none := hT.root
  have hmk : ∀ W : World, (Instr.makeMap 99 none).run Tryz.prog W = .ok (.map (some W.heap.size)) (W.alloc (.map #[] 0)) := fun W => by kernel_rfl
  obtain ⟨h1, h2, h3, h4⟩ := hxy
  have g1 : decide (x < 1) = false := by simp; omega
  have g2 : decide (x > 64) = false := by simp; omega
  have g3 : decide (y < 1) = false := by simp; omega
  have g4 : decide (y > 1024) = false := by simp; omega
  replace hT0 := W_hid hT0
  replace hC := W_hid hC
  replace b0 := W_hid b0
  unfold cap7
  clear hS hT hs ho h1 h2 h3 h4
  go_enter Tryz.func14, Tryz.ntmps14
  go_wp2_with fail
  refine cS.out.mono ?_
  rintro e w1 ⟨rfl, b1⟩
  have hC1 := W_hid (hC.out.keep b1)
  have hT1 := hT0.out.keep b1
  have B1 := W_hid (b0.out.trans (b1.mono b0.out.size))
  have hT2 := hT1.alloc (.cells #[.int .i64 s1, .int .i64 s2, .int .i64 s3, .int .i64 s4, .int .i64 s5, .int .i64 s6] 65)
  have cF := NT.Find_any ⟨#[47]⟩ (by decide) _ hT2
  rw [slash_ok D hD] at cF
  simp only [nu, er] at cF
  have hC2 := W_hid (hC1.out.alloc (.cells #[.int .i64 s1, .int .i64 s2, .int .i64 s3, .int .i64 s4, .int .i64 s5, .int .i64 s6] 65))
  have B2 := W_hid (B1.out.alloc B1.out.size (.cells #[.int .i64 s1, .int .i64 s2, .int .i64 s3, .int .i64 s4, .int .i64 s5, .int .i64 s6] 65))
  replace cF := W_hid cF
  clear b1 hT0 hT1 hT2 hC hC1 B1 b0 cS
  go_wp2_with fail
  refine cF.out.mono ?_
  rintro e w2 ⟨rfl, b2⟩
  have hC3 := hC2.out.keep b2
  have c3 := hC3.cell (j := 3) rfl
  have c4 := hC3.cell (j := 4) rfl
  have c3m := (hC3.alloc (.map #[] 0)).cell (j := 3) rfl
  have c4m := (hC3.alloc (.map #[] 0)).cell (j := 4) rfl
  have B3 := W_hid (B2.out.trans (b2.mono B2.out.size))
  have hMB := MB.new w2
  have hsz : (w2.alloc (.map #[] 0)).heap.size = w2.heap.size + 1 := Array.size_push _
  have hTB : TB ((w2.alloc (.map #[] 0)).alloc (.cells #[.pointer (some ⟨sg, 0, none⟩), .pointer (some ⟨tg, 0, none⟩), .map (some w2.heap.size), .int .i64 x, .int .i64 y] 101)) (w2.heap.size + 1) sg tg w2.heap.size x y := Blk.new _ _ _ hsz.symm
  have hfin := W_hid (And.intro (hMB.alloc (.cells #[.pointer (some ⟨sg, 0, none⟩), .pointer (some ⟨tg, 0, none⟩), .map (some w2.heap.size), .int .i64 x, .int .i64 y] 101)) hTB)
  replace hsz := W_hid hsz
  clear b2 cF hC2 B2 hC3 hMB hTB
  go_wp2_with fail
  go_ret2
  exact ⟨_, _, rfl, B3.out.size, by have := B3.out.size; omega, by omega, hfin.out.2, hfin.out.1, (B3.out.alloc B3.out.size _).alloc (by have := B3.out.size; have := hsz.out; omega) _⟩
end
end DC
namespace DC
def fx (X : List (Option Nat)) : Nat := X.findIdx Option.isNone
theorem fx_le (X : List (Option Nat)) : fx X ≤ X.length := List.findIdx_le_length
theorem fx_lt {X : List (Option Nat)} {j : Nat} (h : j < fx X) (hj : j < X.length) : ∃ g, X[j] = some g := by
  have := List.not_of_lt_findIdx h
  cases hx : X[j] with
  | none => rw [hx] at this; simp at this
  | some g => exact ⟨g, rfl⟩
theorem fx_at {X : List (Option Nat)} (h : fx X < X.length) : X[fx X] = none := by
  have h2 : (X[fx X]'h).isNone = true := List.findIdx_getElem (w := h)
  exact Option.isNone_iff_eq_none.mp h2
theorem index_any (p N cap : Nat) (X : List (Option Nat)) (w : World) (hN : X.length = N) (hc : N ≤ cap) (hn : N ≤ 64) (h : ∀ j (hj : j < X.length), w.cell? ⟨p, j, none⟩ = some (pv X[j])) :
    Calls Tryz.prog 115 #[.slice (some ⟨p, 0, none⟩) N cap, .pointer none] w fun e w' => e = .returned (.int .i64 (if fx X < N then (fx X : Int) else -1)) ∧ w' = w := by
  have hle := fx_le X
  have hlt := fun j hj => @fx_lt X j hj
  have hat := @fx_at X
  rw [hN] at hle
  have hcell : Hid (∀ j, j < fx X → ∃ g, w.cell? ⟨p, j, none⟩ = some (.pointer (some ⟨g, 0, none⟩))) := W_hid fun j hj => by
    obtain ⟨g, hg⟩ := hlt j hj (by omega)
    have := h j (by omega)
    rw [hg] at this
    exact ⟨g, this⟩
  have hend : Hid (fx X < N → w.cell? ⟨p, fx X, none⟩ = some (.pointer none)) := W_hid fun hj => by
    have := h (fx X) (by omega)
    rw [hat (by omega)] at this
    exact this
  have heq : ∀ (g : Nat) (w : World), (binOp .eql 109 (.pointer none) (.pointer (some ⟨g, 0, none⟩))).run Tryz.prog w = .ok (.bool false) w := fun g w => by kernel_rfl
  have heq0 : ∀ (w : World), (binOp .eql 109 (.pointer none) (.pointer none)).run Tryz.prog w = .ok (.bool true) w := fun w => by kernel_rfl
  obtain ⟨Z, hZ⟩ : ∃ Z : Int, (if fx X < N then (fx X : Int) else -1) = Z := ⟨_, rfl⟩
  rw [hZ]
  have z1 : fx X < N → (fx X : Int) = Z := fun h => by rw [← hZ, if_pos h]
  have z2 : ¬ fx X < N → (-1 : Int) = Z := fun h => by rw [← hZ, if_neg h]
  clear hlt hat h hN hZ
  generalize fx X = K at *
  replace z1 := W_hid z1
  replace z2 := W_hid z2
  go_enter Tryz.func115, Tryz.ntmps115
  go_wp2_with fail
  go_loopw [5, 8] (fun _ i wr => ∃ j : Nat, j ≤ K ∧ i = .int .i64 (j : Int) ∧ w = wr) (fun _ i _ => N - (intOf i).toNat)
  case atStart => exact ⟨0, Nat.zero_le _, rfl, rfl⟩
  case round =>
    obtain ⟨j, hj, rfl, hwr⟩ := hrel
    subst hwr
    by_cases hlt : j < N
    · by_cases hjK : j < K
      · obtain ⟨g, cg⟩ := hcell.out j hjK
        go_wp2_with fail
        go_roundw
        case rel => exact ⟨j + 1, by omega, by go_num, by first | trivial | rfl⟩
        case measure => simp [intOf]; omega
      · obtain rfl : j = K := by omega
        have cg := hend.out hlt
        have hz := z1.out hlt
        subst hz
        go_wp2_with fail
        go_ret
        exact ⟨rfl, rfl⟩
    · obtain rfl : j = K := by omega
      have hz := z2.out hlt
      subst hz
      have hge : (N : Int) ≤ (j : Int) := by omega
      go_wp2_with fail
      go_ret
      exact ⟨rfl, rfl⟩
def lowV (L : List (Option Nat)) (f : Nat) : Int := if fx (L.take f) < f then (fx (L.take f) : Int) else 0
def lowE (L : List (Option Nat)) (f : Nat) : Int := if fx (L.take f) < f then 0 else 22
theorem lowest_any (g sg ng b p f : Nat) (left : Int) (L : List (Option Nat)) (w : World) (h : TB w g sg ng b (f : Int) left) (hL : PR w p L) (hf : f ≤ 64) :
    Calls Tryz.prog 66 #[.pointer (some ⟨g, 0, none⟩), .pointer (some ⟨p, 0, none⟩)] w fun e w' => e = .returned (.tuple #[.int .i64 (lowV L f), .int .i64 (lowE L f)]) ∧ Below w.heap.size w w' := by
  have c3 := h.cell (j := 3) rfl
  have hlen : (L.take f).length = f := by rw [List.length_take, hL.1]; omega
  have cI : ∀ W : World, Below w.heap.size w W → Hid (Calls Tryz.prog 115 #[.slice (some ⟨p, 0, none⟩) f 64, .pointer none] W fun e w' => e = .returned (.int .i64 (if fx (L.take f) < f then (fx (L.take f) : Int) else -1)) ∧ w' = W) := fun W hW =>
    W_hid (index_any p f 64 (L.take f) W hlen hf hf fun j hj => by
      have hLW : PR W p L := ⟨hL.1, hL.2.keep hW⟩
      exact hLW.at_ (by rw [List.getElem_take]; exact List.getElem?_eq_getElem _))
  have hsl : ∀ W : World, (Instr.sliceAt 111 (.pointer (some ⟨p, 0, none⟩)) none (some (.int .i64 (f : Int))) none).run Tryz.prog W = .ok (.slice (some ⟨p, 0, none⟩) f 64) W := fun W => by
    rw [run_sliceAt_array_h (h0 := by omega) (h2 := by rw [show Tryz.prog.arrayLen 111 = 64 by kernel_rfl]; omega)]
    all_goals first | rfl | kernel_rfl | skip
  unfold lowV lowE
  by_cases hk : fx (L.take f) < f
  · simp only [if_pos hk] at cI ⊢
    generalize fx (L.take f) = K at *
    clear h hL hlen
    go_enter Tryz.func66, Tryz.ntmps66
    go_wp2_with fail
    go_region_held3 (fun w' => w'.cell? ⟨g, 3, none⟩ = some (.int .i64 f) ∧ Below w.heap.size w w') (first | assumption | exact ⟨c3, (Below.refl _ w).drew⟩)
      (first | (go_at_call 115; refine ((cI _ ((Below.refl _ w).drew)).out).mono ?_; rintro e w1 ⟨rfl, rfl⟩))
    all_goals
      go_wp2_with fail
      go_ret2
      exact ⟨rfl, (Below.refl _ w).drew⟩
  · simp only [if_neg hk] at cI ⊢
    clear h hL hlen hk
    go_enter Tryz.func66, Tryz.ntmps66
    go_wp2_with fail
    go_region_held3 (fun w' => w'.cell? ⟨g, 3, none⟩ = some (.int .i64 f) ∧ Below w.heap.size w w') (first | assumption | exact ⟨c3, (Below.refl _ w).drew⟩)
      (first | (go_at_call 115; refine ((cI _ ((Below.refl _ w).drew)).out).mono ?_; rintro e w1 ⟨rfl, rfl⟩))
    all_goals
      go_wp2_with fail
      go_ret2
      exact ⟨rfl, (Below.refl _ w).drew⟩
end DC
end Go.Proofs.YtfhidjkhmjdioaaGreat

namespace Go.Proofs.YtfhidjkhmjdioaaGreat
open Go.ChangeShapes Go.WideShapes Go.ChangeAt Go.RowKit Go.Maps
set_option linter.unusedVariables false
set_option linter.unusedSimpArgs false
namespace NT
open IN (Keeps)
def ulC (M : ByteArray → Option (Int × Option Nat)) (k : ByteArray) (d : Bool) : Int := if PM.name k = false then 14 else match M k with
  | none => 11
  | some x => if x.2 ≠ none then 14 else if d = true then 13 else 0
set_option maxRecDepth 100000 in
set_option maxHeartbeats 4000000 in
theorem unlink1_any (n : Int) (g m : Nat) (u : Int) (pu : Option Nat) (M : ByteArray → Option (Int × Option Nat)) (k : ByteArray) (d : Bool) (hk : NS.Sm k) (w : World) (h : DB w g u pu m M) :
    Calls Tryz.prog 75 #[.agg #[.int .i64 n, .pointer (some ⟨g, 0, none⟩), .string k, .bool d]] w fun e w' => e = .returned (.int .i64 (ulC M k d)) ∧ Below w.heap.size w w' := by
  have b0 : Below w.heap.size w (w.alloc (.cells #[.int .i64 n, .pointer (some ⟨g, 0, none⟩), .string k, .bool d] 146)) := (Below.refl _ w).alloc (Nat.le_refl _) _
  have cT := W_hid (target_any n g m u pu M k d hk _ (h.keep b0))
  have cN := fun w => IsName_any k w hk
  have hp : Blk (w.alloc (.cells #[.int .i64 n, .pointer (some ⟨g, 0, none⟩), .string k, .bool d] 146)) w.heap.size 146 [.int .i64 n, .pointer (some ⟨g, 0, none⟩), .string k, .bool d] := Blk.new _ _ _ rfl
  obtain ⟨r, hr⟩ : ∃ r, (M k).getD (0, none) = r := ⟨_, rfl⟩
  obtain ⟨b, hbb⟩ : ∃ b, (M k).isSome = b := ⟨_, rfl⟩
  obtain ⟨y, hy⟩ : ∃ y, PM.name k = y := ⟨_, rfl⟩
  have hv : ulC M k d = if y = false then 14 else if b = false then 11 else if r.2 ≠ none then 14 else if d = true then 13 else 0 := by
    unfold ulC
    rw [hy]
    cases e : M k with
    | none => rw [e] at hbb; subst hbb; simp
    | some x => rw [e] at hbb hr; subst hbb; subst hr; simp
  rw [hr, hbb] at cT
  rw [hy] at cN
  replace cN := fun w => W_hid (cN w)
  rw [hv]
  obtain ⟨r1, r2⟩ := r
  have cF := fun w => isFile_any r1 r2 w
  obtain ⟨pp, hpp⟩ := ptr_form r2
  simp only [NS.nv, hpp] at cT cF
  have fin : ∀ w1 : World, Below _ (w.alloc (.cells #[.int .i64 n, .pointer (some ⟨g, 0, none⟩), .string k, .bool d] 146)) w1 → Blk (w1.alloc (.cells #[.int .i64 r1, .pointer pp] 90)) w.heap.size 146 [.int .i64 n, .pointer (some ⟨g, 0, none⟩), .string k, .bool d] ∧ Blk (w1.alloc (.cells #[.int .i64 r1, .pointer pp] 90)) w1.heap.size 90 [.int .i64 r1, .pointer pp] ∧ Below w.heap.size w (w1.alloc (.cells #[.int .i64 r1, .pointer pp] 90)) := fun w1 b1 => by
    have b2 : Below w.heap.size w w1 := b0.trans (b1.mono b0.size)
    exact ⟨(hp.keep b1).alloc _, Blk.new _ _ _ rfl, b2.alloc b2.size _⟩
  replace fin := W_hid fin
  replace cF := fun w => W_hid (cF w)
  clear h hr hbb hpp hp b0 hy hv
  go_enter Tryz.func75, Tryz.ntmps75
  go_wp2_with fail
  refine cT.out.mono ?_
  rintro e w1 ⟨rfl, b1⟩
  obtain ⟨p1, q1, B1⟩ := fin.out w1 b1
  have c1 := p1.cell (j := 1) rfl
  have c2 := p1.cell (j := 2) rfl
  have c3 := p1.cell (j := 3) rfl
  have d0 := q1.cell (j := 0) rfl
  have d1 := q1.cell (j := 1) rfl
  have B1 := W_hid B1
  have p1 := W_hid p1
  clear b1 cT fin q1
  cases y with
  | false =>
    go_wp2_with fail
    refine (cN _).out.mono ?_
    rintro e w2 ⟨rfl, rfl⟩
    go_wp2_with fail
    go_ret
    exact ⟨by simp, B1.out⟩
  | true =>
    cases b with
    | false =>
      go_wp2_with fail
      refine (cN _).out.mono ?_
      rintro e w2 ⟨rfl, rfl⟩
      go_wp2_with fail
      go_ret
      exact ⟨by simp, B1.out⟩
    | true =>
      cases r2 with
      | some g2 =>
        go_wp2_with fail
        refine (cN _).out.mono ?_
        rintro e w2 ⟨rfl, rfl⟩
        go_wp2_with fail
        refine (cF _).out.mono ?_
        rintro e w3 ⟨rfl, b3⟩
        have B3 := W_hid (B1.out.trans (b3.mono B1.out.size))
        clear b3
        simp only [Option.isNone_some]
        go_wp2_with fail
        go_ret
        exact ⟨by simp, B3.out⟩
      | none =>
        cases d with
        | true =>
          go_wp2_with fail
          refine (cN _).out.mono ?_
          rintro e w2 ⟨rfl, rfl⟩
          go_wp2_with fail
          refine (cF _).out.mono ?_
          rintro e w3 ⟨rfl, b3⟩
          have c4 := (p1.out.keep b3).cell (j := 3) rfl
          have B3 := W_hid (B1.out.trans (b3.mono B1.out.size))
          clear b3
          simp only [Option.isNone_none]
          go_wp2_with fail
          go_ret
          exact ⟨by simp, B3.out⟩
        | false =>
          go_wp2_with fail
          refine (cN _).out.mono ?_
          rintro e w2 ⟨rfl, rfl⟩
          go_wp2_with fail
          refine (cF _).out.mono ?_
          rintro e w3 ⟨rfl, b3⟩
          have c4 := (p1.out.keep b3).cell (j := 3) rfl
          have B3 := W_hid (B1.out.trans (b3.mono B1.out.size))
          clear b3
          simp only [Option.isNone_none]
          go_wp2_with fail
          go_ret
          exact ⟨by simp, B3.out⟩
def rmC (M : ByteArray → Option (Int × Option Nat)) (k : ByteArray) (es : Bool) : Int := if k = PM.dot then 2 else if k = PM.dots then 15 else match M k with
  | none => 11
  | some x => if x.2 = none then 13 else if es = false then 15 else 0
end NT
namespace NT
open IN (Keeps)
section
variable {base : Nat} {w w' : World} {tg sg mb : Nat} {A : Int → Option (Nat × Nat)} {D : Ds}
set_option maxRecDepth 100000 in
set_option maxHeartbeats 2000000 in
theorem cut_parse (s : ByteArray) (hs : s.size ≤ maxLen) (r : Int) (k : Fn) (fi lb : Array Value) (w : World) (h : TM base w tg sg mb A D) (he : PM.perr s ≠ 0) : Calls Tryz.prog 74 #[.pointer (some ⟨tg, 0, none⟩), .string s, .int .i64 r, .func k fi lb] w fun e w' => e = .returned (.int .i64 (PM.perr s)) ∧ Below w.heap.size w w' := by
  have cN := W_hid (none_some w h)
  have cP := fun w => W_hid (parsed (w := w) hs)
  generalize PM.perr s = pe at cP he ⊢
  have hne : (pe == 0) = false := by simpa using he
  clear h
  go_enter Tryz.func74, Tryz.ntmps74
  go_wp2_with fail
  refine cN.out.mono ?_
  rintro e w1 ⟨rfl, b1⟩
  have B1 := W_hid b1
  clear b1 cN
  go_wp2_with fail
  refine (cP _).out.mono ?_
  rintro e w2 ⟨ao, n, cap, rfl, hS, b2⟩
  have b2' : Below w.heap.size w w2 := B1.out.trans (b2.mono B1.out.size)
  have B3 := W_hid (b2'.alloc b2'.size (.cells #[.bool (PM.pA s), .slice ao n cap, .bool (PM.pD s)] 158))
  clear b2 b2' hS
  go_wp2_with fail
  go_ret
  exact ⟨rfl, B3.out⟩
def Chk (w : World) (A : Int → Option (Nat × Nat)) (D : Ds) (l : List ByteArray) (d : Bool) (r : Int) (k : Nat) (lb : Array Value) (c : Int → Int) : Prop :=
  (∀ args w, (callFunc k args).run Tryz.prog w = .ok (.enter k args) w) ∧ ∀ m, place D l r = .ok m → ∀ W, Below w.heap.size w W → Calls Tryz.prog k (#[plv m (pa A m) (last l) d] ++ lb) W fun e W' => e = .returned (.int .i64 (c m)) ∧ Below W.heap.size W W'
theorem Chk.keep {l : List ByteArray} {d : Bool} {r : Int} {k : Nat} {lb : Array Value} {c : Int → Int} (h : Chk w A D l d r k lb c) (hb : Below w.heap.size w w') : Chk w' A D l d r k lb c :=
  ⟨h.1, fun m hp W hW => h.2 m hp W (hb.trans (hW.mono hb.size))⟩
set_option maxRecDepth 100000 in
set_option maxHeartbeats 4000000 in
theorem cut_no (s : ByteArray) (hs : s.size ≤ maxLen) (r : Int) (k : Nat) (lb : Array Value) (c : Int → Int) (w : World) (h : TM base w tg sg mb A D) (hp : PM.perr s = 0) (hC : Chk w A D (PM.pN s) (PM.pD s) r k lb c) (e0 : Int) (hv : placeC D (PM.pN s) r c = .error e0) (he : e0 ≠ 0) :
    Calls Tryz.prog 74 #[.pointer (some ⟨tg, 0, none⟩), .string s, .int .i64 r, .func (.func k) #[] lb] w fun e w' => e = .returned (.int .i64 e0) ∧ Below w.heap.size w w' := by
  have cN := W_hid (none_some w h)
  have cP := fun w => W_hid (parsed (w := w) hs)
  rw [hp] at cP
  have cV := fun (ao : Option Addr) (n cap : Nat) (w' : World) (hb : Below w.heap.size w w') (hl : SS w' ao n cap (PM.pN s)) => place_all (PM.pA s) (PM.pD s) r (PM.pN s) ao n cap k lb w' (h.keep hb) hl (pN_sm s) hC.1 c (hC.keep hb).2
  rw [hv] at cV
  simp only [pv, er] at cV
  have hne : (e0 == 0) = false := by simpa using he
  clear hC hv
  generalize PM.pN s = l at cP cV
  generalize PM.pD s = d at cP cV
  generalize PM.pA s = a at cP cV
  replace cV := W_hid cV
  clear h hp he
  go_enter Tryz.func74, Tryz.ntmps74
  go_wp2_with fail
  refine cN.out.mono ?_
  rintro e w1 ⟨rfl, b1⟩
  have B1 := W_hid b1
  clear b1 cN
  go_wp2_with fail
  refine (cP _).out.mono ?_
  rintro e w2 ⟨ao, n, cap, rfl, hS, b2⟩
  have b2' : Below w.heap.size w w2 := B1.out.trans (b2.mono B1.out.size)
  have b3 := b2'.alloc b2'.size (.cells #[.bool a, .slice ao n cap, .bool d] 158)
  have p2 : Blk (w2.alloc (.cells #[.bool a, .slice ao n cap, .bool d] 158)) w2.heap.size 158 [.bool a, .slice ao n cap, .bool d] := Blk.new _ _ _ rfl
  have c0 := p2.cell (j := 0) rfl
  have c1 := p2.cell (j := 1) rfl
  have c2 := p2.cell (j := 2) rfl
  have cV1 := W_hid (cV.out ao n cap _ b3 (hS.alloc _))
  have B3 := W_hid b3
  clear b2 b2' hS b3 p2 cV
  go_wp2_with fail
  refine cV1.out.mono ?_
  rintro e w3 ⟨rfl, b4⟩
  have b4' := B3.out.trans (b4.mono B3.out.size)
  have B4 := W_hid (b4'.alloc b4'.size (.cells #[.int .i64 0, .pointer none, .string ⟨#[]⟩, .bool false] 146))
  clear b4 b4' cV1
  go_wp2_with fail
  go_ret
  exact ⟨rfl, B4.out⟩
set_option maxRecDepth 100000 in
set_option maxHeartbeats 8000000 in
theorem cut_yes (I L B q : Nat) (M : Int → Option Nat) (S : Int → Option IN.Nd) (s : ByteArray) (hs : s.size ≤ maxLen) (r : Int) (k : Nat) (lb : Array Value) (c : Int → Int) (w : World) (h : TM base w tg sg mb A D) (hS0 : IN.PS base w sg mb M I L B q S) (hq : q < 1000000) (hp : PM.perr s = 0) (hC : Chk w A D (PM.pN s) (PM.pD s) r k lb c) (p : Int) (hv : placeC D (PM.pN s) r c = .ok p) (dp : Dr) (hdp : D p = some dp)
    (j : Int) (hj : look (last (PM.pN s)) dp.l = some j) (hj64 : IS.I64 j) :
    Calls Tryz.prog 74 #[.pointer (some ⟨tg, 0, none⟩), .string s, .int .i64 r, .func (.func k) #[] lb] w fun e w' => e = .returned (.int .i64 0) ∧ (∃ M', IN.PS base w' sg mb M' I L B q (IN.ulS S j)) ∧ TM base w' tg sg mb A (upd D p (some { dp with l := del (last (PM.pN s)) dp.l })) ∧ Keeps base (FT A mb) w w' := by
  have cN := W_hid (none_some w h)
  have cP := fun w => W_hid (parsed (w := w) hs)
  rw [hp] at cP
  have cV := fun (ao : Option Addr) (n cap : Nat) (w' : World) (hb : Below w.heap.size w w') (hl : SS w' ao n cap (PM.pN s)) => place_all (PM.pA s) (PM.pD s) r (PM.pN s) ao n cap k lb w' (h.keep hb) hl (pN_sm s) hC.1 c (hC.keep hb).2
  rw [hv] at cV
  have hz := last_sm (pN_sm s)
  simp only [pv, er, plv] at cV
  clear hC hv
  generalize PM.pN s = l at cP cV hz hj ⊢
  generalize PM.pD s = d at cP cV
  generalize PM.pA s = a at cP cV
  generalize last l = z at cV hz hj ⊢
  obtain ⟨g, m, hA, hpa, hdb⟩ := h.db hdp
  rw [hpa] at cV
  simp only [IS.ptr] at cV
  replace cV := W_hid cV
  have hnm : nm A dp.l z = some (j, pa A j) := by unfold nm; rw [hj]; rfl
  have cT := fun (w' : World) (hb : Below w.heap.size w w') => target_any p g m dp.up (pa A dp.up) (nm A dp.l) z d hz w' (hdb.keep hb)
  rw [hnm] at cT
  obtain ⟨pp, hpp⟩ := ptr_form (pa A j)
  simp only [Option.getD_some, Option.isSome_some, NS.nv, hpp] at cT
  replace cT := W_hid cT
  have cR := W_hid (fun (w' : World) (hb : Below w.heap.size w w') => remove_any base g m dp.up (pa A dp.up) (nm A dp.l) z hz w' (hdb.keep hb) (h.ge.2 p g m hA).2.1)
  have cU := W_hid (fun (w' : World) (hP : ∃ M', IN.PS base w' sg mb M' I L B q S) => show Calls Tryz.prog 124 #[.pointer (some ⟨sg, 0, none⟩), .int .i64 j] w' (IN.Out base sg mb I L B q w' (IN.ulR S j) (IN.ulS S j)) from by
    obtain ⟨M', hP⟩ := hP
    exact IN.Unlink_any j w' hP hj64 hq)
  have hm3 : m < w.heap.size := hdb.2.lt
  have H := W_hid h
  have hPS := W_hid hS0
  have hA := W_hid hA
  have hdp := W_hid hdp
  clear h hp hS0 hpa hdb hnm hpp
  go_enter Tryz.func74, Tryz.ntmps74
  go_wp2_with fail
  refine cN.out.mono ?_
  rintro e w1 ⟨rfl, b1⟩
  have B1 := W_hid b1
  clear b1 cN
  go_wp2_with fail
  refine (cP _).out.mono ?_
  rintro e w2 ⟨ao, n0, cap, rfl, hS, b2⟩
  have b2' : Below w.heap.size w w2 := B1.out.trans (b2.mono B1.out.size)
  have b3 := b2'.alloc b2'.size (.cells #[.bool a, .slice ao n0 cap, .bool d] 158)
  have p2 : Blk (w2.alloc (.cells #[.bool a, .slice ao n0 cap, .bool d] 158)) w2.heap.size 158 [.bool a, .slice ao n0 cap, .bool d] := Blk.new _ _ _ rfl
  have c0 := p2.cell (j := 0) rfl
  have c1 := p2.cell (j := 1) rfl
  have c2 := p2.cell (j := 2) rfl
  have cV1 := W_hid (cV.out ao n0 cap _ b3 (hS.alloc _))
  have B3 := W_hid b3
  clear b2 b2' hS b3 p2 cV
  go_wp2_with fail
  refine cV1.out.mono ?_
  rintro e w3 ⟨rfl, b4⟩
  have b4' := B3.out.trans (b4.mono B3.out.size)
  have b5 := b4'.alloc b4'.size (.cells #[.int .i64 p, .pointer (some ⟨g, 0, none⟩), .string z, .bool d] 146)
  have q3 : Blk (w3.alloc (.cells #[.int .i64 p, .pointer (some ⟨g, 0, none⟩), .string z, .bool d] 146)) w3.heap.size 146 [.int .i64 p, .pointer (some ⟨g, 0, none⟩), .string z, .bool d] := Blk.new _ _ _ rfl
  have cT1 := W_hid (cT.out _ b5)
  have d0 := q3.cell (j := 0) rfl
  have d1 := q3.cell (j := 1) rfl
  have d2 := q3.cell (j := 2) rfl
  have d3 := q3.cell (j := 3) rfl
  have q3 := W_hid q3
  have B4 := W_hid b5
  have hw3 := W_hid b4'.size
  clear b4 b4' b5 cV1 cT
  go_wp2_with fail
  refine cT1.out.mono ?_
  rintro e w4 ⟨rfl, b6⟩
  have q4 := (q3.out.keep b6).alloc (.cells #[.int .i64 j, .pointer pp] 90)
  have r4 : Blk (w4.alloc (.cells #[.int .i64 j, .pointer pp] 90)) w4.heap.size 90 [.int .i64 j, .pointer pp] := Blk.new _ _ _ rfl
  have b6' := B4.out.trans (b6.mono B4.out.size)
  have b7 := b6'.alloc b6'.size (.cells #[.int .i64 j, .pointer pp] 90)
  have cR1 := W_hid (cR.out _ b7)
  have f1 := q4.cell (j := 1) rfl
  have f2 := q4.cell (j := 2) rfl
  have B5 := W_hid b7
  have r4 := W_hid r4
  have hw4 := W_hid b6'.size
  clear b6 b6' b7 cT1 cR q4 q3
  go_wp2_with fail
  refine cR1.out.mono ?_
  rintro e w5 ⟨rfl, hM5, hK5⟩
  have hT5 := ((H.out.keep B5.out).turn hA.out hdp.out (l' := del z dp.l) (by rw [nm_del]; exact hM5) hK5)
  have hKK : Keeps base (FT A mb) w w5 := (Keeps.new B5.out H.out.low).trans (keeps_one hA.out hK5)
  have hb := H.out.ge.2 p g m hA.out
  have hP5 : ∃ M', IN.PS base w5 sg mb M' I L B q S := ⟨M, (hPS.out.keep B5.out).keeps hK5 (by simp [One]) (by simp [One]) (by simp [One, hb.2.2.symm]) (by simp [One])⟩
  have r5 : Blk w5 w4.heap.size 90 [.int .i64 j, .pointer pp] := hK5.block _ _ r4.out fun h => by have := h.1; have := hw4.out; omega
  have x0 := r5.cell (j := 0) rfl
  have t0 := hT5.box.cell (j := 0) rfl
  have cU1 := W_hid (cU.out w5.drew (by obtain ⟨M', h1⟩ := hP5; exact ⟨M', h1.pm.drew1, h1.fn, h1.lim⟩))
  have r5h := W_hid r5
  have hKK := W_hid hKK
  have hT5 := W_hid hT5
  clear hM5 hK5 cR1 r5 hP5 cU
  go_wp2_with fail
  go_region_held3 (fun w' => w'.cell? ⟨tg, 0, none⟩ = some (.pointer (some ⟨sg, 0, none⟩)) ∧ w'.cell? ⟨w4.heap.size, 0, none⟩ = some (.int .i64 j)) (first | assumption | go_keep)
    (first
      | (go_at_call 124; refine cU1.out.mono ?_; rintro e w6 ⟨rfl, hP6, hK6⟩; have hT6 := hT5.out.store (w' := w6) hK6.undrew; have S6 : w6.cell? ⟨tg, 0, none⟩ = some (.pointer (some ⟨sg, 0, none⟩)) ∧ w6.cell? ⟨w4.heap.size, 0, none⟩ = some (.int .i64 j) := ⟨hT6.box.cell (j := 0) rfl, (show Blk w6 w4.heap.size 90 [.int .i64 j, .pointer pp] from hK6.undrew.block _ _ r5h.out (by simp [IN.PT])).cell (j := 0) rfl⟩))
  all_goals
    have hfin := W_hid (show (∃ M', IN.PS base w6 sg mb M' I L B q (IN.ulS S j)) ∧ TM base w6 tg sg mb A (upd D p (some { dp with l := del z dp.l })) ∧ Keeps base (FT A mb) w w6 from ⟨hP6, hT6, hKK.out.trans (keeps_store hK6.undrew)⟩)
    clear hT6 S6 hP6 hK6
    go_wp2_with fail
    go_ret
    exact ⟨rfl, hfin.out⟩
end
end NT
namespace NT
end NT
namespace NT
open IN (Keeps)
def Sub (A A' : Int → Option (Nat × Nat)) (w : World) : Prop := ∀ n g m, A' n = some (g, m) → A n = some (g, m) ∨ (w.heap.size ≤ g ∧ w.heap.size ≤ m)
theorem Sub.refl (A : Int → Option (Nat × Nat)) (w : World) : Sub A A w := fun _ _ _ h => .inl h
def Did (base tg sg mb I L B q : Nat) (A : Int → Option (Nat × Nat)) (w : World) (r : Int) (S' : Int → Option IN.Nd) (D' : Ds) (e : Ending) (w' : World) : Prop :=
  e = .returned (.int .i64 r) ∧ (∃ M', IN.PS base w' sg mb M' I L B q S') ∧ (∃ A', Sub A A' w ∧ TM base w' tg sg mb A' D') ∧ Keeps base (FT A mb) w w'
section
variable {base : Nat} {w w' : World} {tg sg mb I L B q : Nat} {A : Int → Option (Nat × Nat)} {D : Ds} {M : Int → Option Nat} {S : Int → Option IN.Nd}
theorem did_same (h : TM base w tg sg mb A D) (hP : IN.PS base w sg mb M I L B q S) (hb : Below w.heap.size w w') (r : Int) : Did base tg sg mb I L B q A w r S D (.returned (.int .i64 r)) w' :=
  ⟨rfl, ⟨M, hP.keep hb⟩, ⟨A, Sub.refl A w, h.keep hb⟩, Keeps.new hb h.low⟩
def linkV (D : Ds) (L : Nat) (S : Int → Option IN.Nd) (s t : ByteArray) : Int := if PM.perr s ≠ 0 then PM.perr s else if PM.perr t ≠ 0 then PM.perr t else match find D (PM.pN s) (PM.pD s) with
  | .error e => e
  | .ok n => if D n ≠ none then 27 else match vacant D 1 t with
    | .error e => e
    | .ok p => IN.lkR L S n
theorem vacant_er {kind : Int} {s : ByteArray} {e : Int} (h : vacant D kind s = .error e) : e ≠ 0 := by
  unfold vacant placeC at h
  split at h
  · rename_i e' he
    cases h
    rcases place_er he with h | h
    · rw [h]; decide
    · exact h
  · split at h
    · cases h
    · rename_i hne
      cases h
      exact hne
end
end NT
namespace NT
open IN (Keeps)
def yR (xm xn : Option Nat) (es : Bool) : Int := if xm ≠ none ∧ xn = none then 14 else if xm = none ∧ xn ≠ none then 13 else if xm ≠ none ∧ es = false then 15 else 0
end NT
end Go.Proofs.YtfhidjkhmjdioaaGreat

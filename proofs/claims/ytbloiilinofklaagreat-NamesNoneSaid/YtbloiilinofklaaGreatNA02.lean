/- Contracts of package names' vacant. -/
import Derived.Test.YtbloiilinofklaaGreatNA01
import Derived.Maps.AppendAt
import Derived.Deep.RegionLaw
import Derived.RegionTactic
import Derived.Deep.DeepAppendWide
import Derived.WalkSmall

/- Contracts of package names' smallest functions: isFile, kind, get, step, empty. -/
namespace Go.Proofs.YtbloiilinofklaaGreat
open Go.ChangeShapes Go.WideShapes Go.ChangeAt Go.RowKit Go.Maps
set_option linter.unusedVariables false
set_option linter.unusedSimpArgs false
namespace NT
open IN (Keeps)

def boxed (w : World) (n : Int) (x : Option Nat) : World := w.alloc (.cells #[.int .i64 n, IS.ptr x] 104)

set_option maxRecDepth 100000 in
set_option maxHeartbeats 1000000 in
theorem isFile_any (n : Int) (x : Option Nat) (w : World) : Calls Tryz.prog 57 #[.agg #[.int .i64 n, IS.ptr x]] w fun e w' => e = .returned (.bool x.isNone) ∧ Below w.heap.size w w' := by
  have hb := (Below.refl w.heap.size w).alloc (Nat.le_refl _) (.cells #[.int .i64 n, IS.ptr x] 104)
  cases x with
  | none =>
    simp only [IS.ptr] at hb ⊢
    go_enter Tryz.func57, Tryz.ntmps57
    go_wp2_with fail
    go_ret
    exact ⟨rfl, hb⟩
  | some g =>
    simp only [IS.ptr] at hb ⊢
    go_enter Tryz.func57, Tryz.ntmps57
    go_wp2_with fail
    go_ret
    exact ⟨rfl, hb⟩

set_option maxRecDepth 100000 in
set_option maxHeartbeats 1000000 in
theorem kind_any (n : Int) (x : Option Nat) (w : World) : Calls Tryz.prog 98 #[.agg #[.int .i64 n, IS.ptr x]] w fun e w' => e = .returned (.int .i64 (if x = none then 1 else 2)) ∧ Below w.heap.size w w' := by
  have hb := (Below.refl w.heap.size w).alloc (Nat.le_refl _) (.cells #[.int .i64 n, IS.ptr x] 104)
  have cF := isFile_any n x
  cases x with
  | none =>
    simp only [IS.ptr] at hb cF ⊢
    go_enter Tryz.func98, Tryz.ntmps98
    go_wp2_with (go_at_call 57; refine (cF _).mono ?_; rintro e w' ⟨rfl, b1⟩)
    go_ret
    exact ⟨rfl, hb.trans (b1.mono hb.size)⟩
  | some g =>
    simp only [IS.ptr] at hb cF ⊢
    go_enter Tryz.func98, Tryz.ntmps98
    go_wp2_with (go_at_call 57; refine (cF _).mono ?_; rintro e w' ⟨rfl, b1⟩)
    go_ret
    exact ⟨rfl, hb.trans (b1.mono hb.size)⟩

/-- A result that is a node in memory, beside another one. -/
theorem res_node {fn : Func} {r t : Tmp} (hres : fn.results = #[.cell r 104, .tmp t]) (tmps : Array Value) (w : World) {g : Nat} {n p : Value} (hr : tmps.getD r undef = .pointer (some ⟨g, 0, none⟩)) (h : Blk w g 104 [n, p]) :
    (results fn tmps).run Tryz.prog w = .ok (.tuple #[.agg #[n, p], tmps.getD t undef]) w := by
  have h0 := h.cell (j := 0) rfl
  have h1 := h.cell (j := 1) rfl
  rw [Array.getD_eq_getD_getElem?] at hr
  simp [results, hres, go_sem, hr, h0, h1]
theorem new2 (w : World) (a b : Obj) : Below w.heap.size w ((w.alloc a).alloc b) := ((Below.refl _ w).alloc (Nat.le_refl _) a).alloc (by simp) b
theorem new3 (w : World) (a b c : Obj) : Below w.heap.size w (((w.alloc a).alloc b).alloc c) := (new2 w a b).alloc (by simp; omega) c

/-- A directory's block. -/
def DB (w : World) (g : Nat) (u : Int) (pu : Option Nat) (m : Nat) (M : ByteArray → Option (Int × Option Nat)) : Prop := Blk w g 126 [.int .i64 u, IS.ptr pu, .map (some m)] ∧ NS.MB w m M
theorem DB.keep {w w' : World} {g m : Nat} {u : Int} {pu : Option Nat} {M : ByteArray → Option (Int × Option Nat)} (h : DB w g u pu m M) (hb : Below w.heap.size w w') : DB w' g u pu m M := ⟨h.1.keep hb, h.2.keep hb⟩

set_option maxRecDepth 100000 in
set_option maxHeartbeats 2000000 in
theorem get_any (g m : Nat) (u : Int) (pu : Option Nat) (M : ByteArray → Option (Int × Option Nat)) (k : ByteArray) (hk : NS.Sm k) (w : World) (h : DB w g u pu m M) :
    Calls Tryz.prog 97 #[.pointer (some ⟨g, 0, none⟩), .string k] w fun e w' => e = .returned (.tuple #[NS.nv ((M k).getD (0, none)), .bool (M k).isSome]) ∧ Below w.heap.size w w' := by
  have c2 := fun o => (h.1.alloc o).cell (j := 2) rfl
  obtain ⟨r, hr⟩ : ∃ r, (M k).getD (0, none) = r := ⟨_, rfl⟩
  obtain ⟨b, hbb⟩ : ∃ b, (M k).isSome = b := ⟨_, rfl⟩
  rw [hr, hbb]
  have hl := fun o => (h.2.alloc o).look k hk
  simp only [hr, hbb] at hl
  clear hr hbb
  replace h := W_hid h
  obtain ⟨n, x⟩ := r
  unfold NS.nv at hl ⊢
  cases x with
  | none =>
    simp only [IS.ptr] at hl ⊢
    go_enter Tryz.func97, Tryz.ntmps97
    go_wp2_with fail

    exact bodyPost_ret (res_node Tryz.results97 _ _ rfl ((Blk.new _ _ _ rfl).alloc _)) rfl ⟨rfl, new2 _ _ _⟩
  | some g' =>
    simp only [IS.ptr] at hl ⊢
    go_enter Tryz.func97, Tryz.ntmps97
    go_wp2_with fail
    exact bodyPost_ret (res_node Tryz.results97 _ _ rfl ((Blk.new _ _ _ rfl).alloc _)) rfl ⟨rfl, new2 _ _ _⟩

set_option maxRecDepth 100000 in
set_option maxHeartbeats 2000000 in
theorem step_file (n : Int) (k : ByteArray) (w : World) :
    Calls Tryz.prog 109 #[.agg #[.int .i64 n, .pointer none], .string k] w fun e w' => e = .returned (.tuple #[.agg #[.int .i64 0, .pointer none], .int .i64 13]) ∧ Below w.heap.size w w' := by
  have cF := fun w => W_hid (isFile_any n none w)
  simp only [IS.ptr, Option.isNone_none] at cF
  go_enter Tryz.func109, Tryz.ntmps109
  go_wp2_with fail
  refine (cF _).out.mono ?_
  rintro e w1 ⟨rfl, b1⟩
  have n1 : Blk w1 (w.heap.size + 1) 104 [.int .i64 0, .pointer none] := (Blk.new _ _ _ (by simp)).keep b1
  have c0 := n1.cell (j := 0) rfl
  have c1 := n1.cell (j := 1) rfl
  have f1 := n1.fz
  have N1 := W_hid ((n1.set 0 (.int .i64 0)).set 1 (.pointer none))
  have BB := W_hid ((((new2 w _ _).trans (b1.mono (by simp; omega))).setCell (p := ⟨w.heap.size + 1, 0, none⟩) (by simp) (.int .i64 0)).setCell (p := ⟨w.heap.size + 1, 1, none⟩) (by simp) (.pointer none))
  clear b1 n1
  go_wp2_with fail
  refine bodyPost_ret (res_node Tryz.results109 _ _ rfl N1.out) rfl ?_
  exact ⟨rfl, BB.out⟩

theorem ptr_form (x : Option Nat) : ∃ pp : Option Addr, IS.ptr x = .pointer pp := by cases x <;> exact ⟨_, rfl⟩
/-- Where a name leads from a directory. -/
def stv (n : Int) (g : Nat) (u : Int) (pu : Option Nat) (M : ByteArray → Option (Int × Option Nat)) (k : ByteArray) : Int × Option Nat := if k = PM.dot then (n, some g) else if k = PM.dots then (u, pu) else (M k).getD (0, none)
def ste (M : ByteArray → Option (Int × Option Nat)) (k : ByteArray) : Int := if k = PM.dot then 0 else if k = PM.dots then 0 else if (M k).isSome = true then 0 else 11

set_option maxRecDepth 100000 in
set_option maxHeartbeats 4000000 in
theorem step_dot (n : Int) (g : Nat) (w : World) :
    Calls Tryz.prog 109 #[.agg #[.int .i64 n, .pointer (some ⟨g, 0, none⟩)], .string PM.dot] w fun e w' => e = .returned (.tuple #[.agg #[.int .i64 n, .pointer (some ⟨g, 0, none⟩)], .int .i64 0]) ∧ Below w.heap.size w w' := by
  have cF := fun w => W_hid (isFile_any n (some g) w)
  simp only [IS.ptr, Option.isNone_some] at cF
  obtain ⟨k, hk⟩ : ∃ k, PM.dot = k := ⟨_, rfl⟩
  rw [hk]
  have e1 := dot_yes hk.symm
  clear hk
  go_enter Tryz.func109, Tryz.ntmps109
  go_wp2_with fail
  refine (cF _).out.mono ?_
  rintro e w1 ⟨rfl, b1⟩
  have n0 : Blk w1 w.heap.size 104 [.int .i64 n, .pointer (some ⟨g, 0, none⟩)] := ((Blk.new _ _ _ rfl).alloc _).keep b1
  have n1 : Blk w1 (w.heap.size + 1) 104 [.int .i64 0, .pointer none] := (Blk.new _ _ _ (by simp)).keep b1
  have c0 := n1.cell (j := 0) rfl
  have c1 := n1.cell (j := 1) rfl
  have d0 := n0.cell (j := 0) rfl
  have d1 := n0.cell (j := 1) rfl
  have f1 := n1.fz
  have N1 := W_hid ((n1.set 0 (.int .i64 n)).set 1 (.pointer (some ⟨g, 0, none⟩)))
  have BB := W_hid ((((new2 w _ _).trans (b1.mono (by simp; omega))).setCell (p := ⟨w.heap.size + 1, 0, none⟩) (by simp) (.int .i64 n)).setCell (p := ⟨w.heap.size + 1, 1, none⟩) (by simp) (.pointer (some ⟨g, 0, none⟩)))
  clear b1 n1 n0
  go_wp2_with fail
  refine bodyPost_ret (res_node Tryz.results109 _ _ rfl N1.out) rfl ?_
  exact ⟨rfl, BB.out⟩

set_option maxRecDepth 100000 in
set_option maxHeartbeats 4000000 in
theorem step_up (n : Int) (g m : Nat) (u : Int) (pu : Option Nat) (M : ByteArray → Option (Int × Option Nat)) (w : World) (h : DB w g u pu m M) :
    Calls Tryz.prog 109 #[.agg #[.int .i64 n, .pointer (some ⟨g, 0, none⟩)], .string PM.dots] w fun e w' => e = .returned (.tuple #[NS.nv (u, pu), .int .i64 0]) ∧ Below w.heap.size w w' := by
  have cF := fun w => W_hid (isFile_any n (some g) w)
  simp only [IS.ptr, Option.isNone_some] at cF
  have h1 := h.1
  clear h
  unfold NS.nv
  obtain ⟨pp, hpp⟩ := ptr_form pu
  rw [hpp] at h1 ⊢
  clear hpp
  obtain ⟨k, hk⟩ : ∃ k, PM.dots = k := ⟨_, rfl⟩
  rw [hk]
  have e1 := dots_yes hk.symm
  clear hk
  go_enter Tryz.func109, Tryz.ntmps109
  go_wp2_with fail
  refine (cF _).out.mono ?_
  rintro e w1 ⟨rfl, b1⟩
  have n0 : Blk w1 w.heap.size 104 [.int .i64 n, .pointer (some ⟨g, 0, none⟩)] := ((Blk.new _ _ _ rfl).alloc _).keep b1
  have n1 : Blk w1 (w.heap.size + 1) 104 [.int .i64 0, .pointer none] := (Blk.new _ _ _ (by simp)).keep b1
  have hd := ((h1.alloc _).alloc _).keep b1
  have c0 := n1.cell (j := 0) rfl
  have c1 := n1.cell (j := 1) rfl
  have d0 := n0.cell (j := 0) rfl
  have d1 := n0.cell (j := 1) rfl
  have g0 := hd.cell (j := 0) rfl
  have g1 := hd.cell (j := 1) rfl
  have f1 := n1.fz
  have N1 := W_hid ((n1.set 0 (.int .i64 u)).set 1 (.pointer pp))
  have BB := W_hid ((((new2 w _ _).trans (b1.mono (by simp; omega))).setCell (p := ⟨w.heap.size + 1, 0, none⟩) (by simp) (.int .i64 u)).setCell (p := ⟨w.heap.size + 1, 1, none⟩) (by simp) (.pointer pp))
  clear b1 n1 n0 hd h1
  go_wp2_with fail
  refine bodyPost_ret (res_node Tryz.results109 _ _ rfl N1.out) rfl ?_
  exact ⟨rfl, BB.out⟩

set_option maxRecDepth 100000 in
set_option maxHeartbeats 4000000 in
theorem step_name (n : Int) (g m : Nat) (u : Int) (pu : Option Nat) (M : ByteArray → Option (Int × Option Nat)) (k : ByteArray) (hs : NS.Sm k) (k1 : k ≠ PM.dot) (k2 : k ≠ PM.dots) (w : World) (h : DB w g u pu m M) :
    Calls Tryz.prog 109 #[.agg #[.int .i64 n, .pointer (some ⟨g, 0, none⟩)], .string k] w fun e w' => e = .returned (.tuple #[NS.nv ((M k).getD (0, none)), .int .i64 (if (M k).isSome = true then 0 else 11)]) ∧ Below w.heap.size w w' := by
  have cF := fun w => W_hid (isFile_any n (some g) w)
  simp only [IS.ptr, Option.isNone_some] at cF
  have cG := fun w h => W_hid (get_any g m u pu M k hs w h)
  have h := W_hid h
  obtain ⟨e1, e2⟩ := dot_no k1
  obtain ⟨e3, e4⟩ := dots_no k2
  clear k1 k2
  cases hM : M k with
  | none =>
    rw [hM] at cG
    simp only [Option.getD_none, Option.isSome_none, NS.nv, IS.ptr] at cG ⊢
    go_enter Tryz.func109, Tryz.ntmps109
    go_wp2_with fail
    refine (cF _).out.mono ?_
    rintro e w1 ⟨rfl, b1⟩
    have n0 : Blk w1 w.heap.size 104 [.int .i64 n, .pointer (some ⟨g, 0, none⟩)] := ((Blk.new _ _ _ rfl).alloc _).keep b1
    have n1 : Blk w1 (w.heap.size + 1) 104 [.int .i64 0, .pointer none] := (Blk.new _ _ _ (by simp)).keep b1
    have hd := (h.out.keep (new2 w _ _)).keep b1
    have d0 := n0.cell (j := 0) rfl
    have d1 := n0.cell (j := 1) rfl
    have BB := W_hid ((new2 w _ _).trans (b1.mono (by simp; omega)))
    have n1 := W_hid n1
    have cG1 := cG _ hd
    clear b1 n0 hd cG
    go_wp2_with fail
    refine cG1.out.mono ?_
    rintro e w2 ⟨rfl, b2⟩
    have n2 := ((n1.out.keep b2)).alloc (.cells #[.int .i64 0, .pointer none] 104)
    have c0 := n2.cell (j := 0) rfl
    have c1 := n2.cell (j := 1) rfl
    have f1 := n2.fz
    have N1 := W_hid ((n2.set 0 (.int .i64 0)).set 1 (.pointer none))
    have b2' : Below w.heap.size w w2 := BB.out.trans (b2.mono BB.out.size)
    have B2 := W_hid (((b2'.alloc b2'.size (.cells #[.int .i64 0, .pointer none] 104)).setCell (p := ⟨w.heap.size + 1, 0, none⟩) (by simp) (.int .i64 0)).setCell (p := ⟨w.heap.size + 1, 1, none⟩) (by simp) (.pointer none))
    clear b2 n2 b2' n1 BB cG1
    go_wp2_with fail
    refine bodyPost_ret (res_node Tryz.results109 _ _ rfl N1.out) rfl ?_
    exact ⟨rfl, B2.out⟩
  | some r =>
    rw [hM] at cG
    obtain ⟨r1, r2⟩ := r
    obtain ⟨pp, hpp⟩ := ptr_form r2
    simp only [Option.getD_some, Option.isSome_some, NS.nv, hpp] at cG ⊢
    clear hpp
    go_enter Tryz.func109, Tryz.ntmps109
    go_wp2_with fail
    refine (cF _).out.mono ?_
    rintro e w1 ⟨rfl, b1⟩
    have n0 : Blk w1 w.heap.size 104 [.int .i64 n, .pointer (some ⟨g, 0, none⟩)] := ((Blk.new _ _ _ rfl).alloc _).keep b1
    have n1 : Blk w1 (w.heap.size + 1) 104 [.int .i64 0, .pointer none] := (Blk.new _ _ _ (by simp)).keep b1
    have hd := (h.out.keep (new2 w _ _)).keep b1
    have d0 := n0.cell (j := 0) rfl
    have d1 := n0.cell (j := 1) rfl
    have BB := W_hid ((new2 w _ _).trans (b1.mono (by simp; omega)))
    have n1 := W_hid n1
    have cG1 := cG _ hd
    clear b1 n0 hd cG
    go_wp2_with fail
    refine cG1.out.mono ?_
    rintro e w2 ⟨rfl, b2⟩
    have n2 := ((n1.out.keep b2)).alloc (.cells #[.int .i64 r1, .pointer pp] 104)
    have c0 := n2.cell (j := 0) rfl
    have c1 := n2.cell (j := 1) rfl
    have f1 := n2.fz
    have N1 := W_hid ((n2.set 0 (.int .i64 r1)).set 1 (.pointer pp))
    have b2' : Below w.heap.size w w2 := BB.out.trans (b2.mono BB.out.size)
    have B2 := W_hid (((b2'.alloc b2'.size (.cells #[.int .i64 r1, .pointer pp] 104)).setCell (p := ⟨w.heap.size + 1, 0, none⟩) (by simp) (.int .i64 r1)).setCell (p := ⟨w.heap.size + 1, 1, none⟩) (by simp) (.pointer pp))
    clear b2 n2 b2' n1 BB cG1
    go_wp2_with fail
    refine bodyPost_ret (res_node Tryz.results109 _ _ rfl N1.out) rfl ?_
    exact ⟨rfl, B2.out⟩

/-- A node as a value; the zero node on an error. -/
def rv (A : Int → Option (Nat × Nat)) : Except Int Int → Value
  | .ok m => NS.nv (m, pa A m)
  | .error _ => NS.nv (0, none)
section
variable {base : Nat} {w w' : World} {tg sg mb : Nat} {A : Int → Option (Nat × Nat)} {D : Ds}
theorem step_any (n : Int) (k : ByteArray) (hs : NS.Sm k) (w : World) (h : TM base w tg sg mb A D) :
    Calls Tryz.prog 109 #[NS.nv (n, pa A n), .string k] w fun e w' => e = .returned (.tuple #[rv A (step D n k), .int .i64 (er (step D n k))]) ∧ Below w.heap.size w w' := by
  cases hD : D n with
  | none =>
    have hA := (h.dom n).2 hD
    have e1 : pa A n = none := by unfold pa; rw [hA]; rfl
    have e2 : step D n k = .error 13 := by unfold step; rw [hD]
    rw [e1, e2]
    exact step_file n k w
  | some d =>
    obtain ⟨g, m, hA, hb, hm⟩ := h.has hD
    have e1 : pa A n = some g := by unfold pa; rw [hA]; rfl
    have hB : DB w g d.up (pa A d.up) m (nm A d.l) := ⟨hb, hm⟩
    rw [e1]
    by_cases k1 : k = PM.dot
    · have e2 : step D n k = .ok n := by unfold step; rw [hD]; simp [k1]
      have e3 : rv A (.ok n) = NS.nv (n, some g) := by simp [rv, e1]
      rw [e2, k1, e3]
      exact step_dot n g w
    · by_cases k2 : k = PM.dots
      · have e2 : step D n k = .ok d.up := by unfold step; rw [hD]; simp [k1, k2, PM.dot_ne.symm]
        rw [e2, k2]
        exact step_up n g m d.up _ _ w hB
      · have c := step_name n g m d.up _ _ k hs k1 k2 w hB
        cases hl : look k d.l with
        | none =>
          have e2 : step D n k = .error 11 := by unfold step; rw [hD]; simp [k1, k2, hl]
          have e3 : nm A d.l k = none := by simp [nm, hl]
          rw [e2]
          rw [e3] at c
          exact c
        | some j =>
          have e2 : step D n k = .ok j := by unfold step; rw [hD]; simp [k1, k2, hl]
          have e3 : nm A d.l k = some (j, pa A j) := by simp [nm, hl]
          rw [e2]
          rw [e3] at c
          exact c
end
end NT
end Go.Proofs.YtbloiilinofklaaGreat

/- Contracts of Parse, the program's and the document's own: the path of a text, for every text. -/
namespace Go.Proofs.YtbloiilinofklaaGreat
open Go.ChangeShapes Go.WideShapes Go.ChangeAt Go.RowKit
set_option linter.unusedVariables false
set_option linter.unusedSimpArgs false

theorem info_str : (Tryz.prog.info? 9).map (fun i => (i.zero, i.size, i.bytes)) = some (some (.string ByteArray.empty), 1, 16) := by kernel_rfl

/-- A list of strings, as cells. -/
def scl (l : List ByteArray) : List Value := l.map Value.string
theorem scl_length (l : List ByteArray) : (scl l).length = l.length := by simp [scl]
theorem scl_append (a b : List ByteArray) : scl (a ++ b) = scl a ++ scl b := by simp [scl]
theorem scl_one (l : List ByteArray) : ∀ u ∈ scl l, u.oneCell' = true := by
  intro u hu
  obtain ⟨_, _, rfl⟩ := List.mem_map.1 hu
  rfl
theorem scl_get (l : List ByteArray) (j : Nat) : (scl l)[j]? = (l[j]?).map Value.string := by simp [scl]

/-- A path's three cells, in a block of their own. -/
def PB (w : World) (g : Nat) (a : Bool) (v : Value) (d : Bool) : Prop := w.heap[g]? = some (.cells #[.bool a, v, .bool d] 99 (0, 0))

section
variable {w w' : World} {g : Nat} {a d : Bool} {v : Value}
theorem PB.c0 (h : PB w g a v d) : w.cell? ⟨g, 0, none⟩ = some (.bool a) := by rw [cell_of_row w g 0 _ _ _ h]; rfl
theorem PB.c1 (h : PB w g a v d) : w.cell? ⟨g, 1, none⟩ = some v := by rw [cell_of_row w g 1 _ _ _ h]; rfl
theorem PB.c2 (h : PB w g a v d) : w.cell? ⟨g, 2, none⟩ = some (.bool d) := by rw [cell_of_row w g 2 _ _ _ h]; rfl
theorem PB.fz (h : PB w g a v d) (i : Nat) : w.frozen? ⟨g, i, none⟩ = false := by unfold PB at h; simp [World.frozen?, h]
theorem PB.lt (h : PB w g a v d) : g < w.heap.size := by
  rcases Nat.lt_or_ge g w.heap.size with hlt | hge
  · exact hlt
  · unfold PB at h; rw [Array.getElem?_eq_none hge] at h; cases h
theorem PB.below {B : Nat} (h : PB w g a v d) (hb : Below B w w') (hg : g < B) : PB w' g a v d := (hb.block g hg).trans h
theorem PB.alloc (h : PB w g a v d) (o : Obj) : PB (w.alloc o) g a v d := (Below.heap_alloc w o g h.lt).trans h
theorem PB.grown {row : Option Nat} (h : PB w g a v d) (hb : w.grownBy w' row) (hg : some g ≠ row) : PB w' g a v d := (hb.block g h.lt hg).trans h
theorem PB.far (h : PB w g a v d) {p : Addr} (hp : g ≠ p.block) (u : Value) : PB (w.setCell p u) g a v d := (Below.heap_setCell w p u g hp).trans h
theorem PB.new {x : Nat} (w : World) (a : Bool) (v : Value) (d : Bool) (hx : x = w.heap.size) : PB (w.alloc (.cells #[.bool a, v, .bool d] 99)) x a v d := by subst hx; exact heap_alloc_new w _
theorem PB.set1 (h : PB w g a v d) (u : Value) : PB (w.setCell ⟨g, 1, none⟩ u) g a u d := by
  unfold PB at h ⊢
  simp [World.setCell, Array.getElem?_modify, h]
theorem PB.set0 (h : PB w g a v d) (b : Bool) : PB (w.setCell ⟨g, 0, none⟩ (.bool b)) g b v d := by
  unfold PB at h ⊢
  simp [World.setCell, Array.getElem?_modify, h]
theorem PB.set2 (h : PB w g a v d) (b : Bool) : PB (w.setCell ⟨g, 2, none⟩ (.bool b)) g a v b := by
  unfold PB at h ⊢
  simp [World.setCell, Array.getElem?_modify, h]
end

theorem res_path {fn : Func} {r t : Tmp} (hres : fn.results = #[.cell r 99, .tmp t]) (tmps : Array Value) (w : World) {g : Nat} {a d : Bool} {v : Value} (hr : tmps.getD r undef = .pointer (some ⟨g, 0, none⟩)) (hp : PB w g a v d) :
    (results fn tmps).run Tryz.prog w = .ok (.tuple #[.agg #[.bool a, v, .bool d], tmps.getD t undef]) w := by
  have c0 := hp.c0
  have c1 := hp.c1
  have c2 := hp.c2
  rw [Array.getD_eq_getD_getElem?] at hr
  simp [results, hres, go_sem, hr, c0, c1, c2]

theorem own_form {w : World} {base e n : Nat} {v : Value} {xs : List Value} (h : w.ownsRow base e 1 v n xs) : ∃ ao cap, v = .slice ao n cap := by
  rcases h.2 with ⟨rfl, rfl⟩ | ⟨g, cap, cur, rfl, _⟩
  · have := h.1; simp at this; subst this; exact ⟨_, _, rfl⟩
  · exact ⟨_, _, rfl⟩
/-- A store below the row's blocks leaves the row. -/
theorem own_set {w : World} {base e size n : Nat} {v : Value} {xs : List Value} (h : w.ownsRow base e size v n xs) {p : Addr} (hp : p.block < base) (u : Value) : (w.setCell p u).ownsRow base e size v n xs := by
  rcases h.2 with h0 | ⟨g, cap, cur, h1, h2, h3, h4⟩
  · exact ⟨h.1, .inl h0⟩
  · exact ⟨h.1, .inr ⟨g, cap, cur, h1, h2, (Below.heap_setCell w p u g (by omega)).trans h3, h4⟩⟩
/-- Two blocks below a row, and what was there, through an append to the row. -/
theorem append_keeps {w wr w2 : World} {o : Obj} {a d : Bool} {v v2 : Value} {n n2 : Nat} {xs xs2 : List Value} {a0 d0 : Bool} {v0 : Value} {e : TypeId}
    (hp0 : PB wr w.heap.size a0 v0 d0) (hp1 : PB wr (w.heap.size + 1) a v d) (hown : wr.ownsRow (w.heap.size + 2) e 1 v n xs) (bel : Below w.heap.size w wr)
    (hown2 : w2.ownsRow (w.heap.size + 2) e 1 v2 n2 xs2) (hg : (wr.alloc o).grownBy w2 v.ownBlock) :
    PB w2 w.heap.size a0 v0 d0 ∧ PB w2 (w.heap.size + 1) a v d ∧ w2.ownsRow (w.heap.size + 2) e 1 v2 n2 xs2 ∧ Below w.heap.size w w2 ∧ wr.heap.size ≤ w2.heap.size := by
  refine ⟨(hp0.alloc _).grown hg ?_, (hp1.alloc _).grown hg ?_, hown2, (bel.alloc bel.size _).grown hg (by simp; have := bel.size; omega) (fun g h => by have := own_ge hown g h; omega), Nat.le_trans (by simp) hg.size⟩
  · intro h; have := own_ge hown _ h.symm; omega
  · intro h; have := own_ge hown _ h.symm; omega

theorem first_eq (s : ByteArray) (h : 0 < s.size) : PM.first s = ((s[0].toNat : Int) == 47) := by
  have := byte_get s 0 h
  unfold PM.first
  rw [← List.drop_zero (l := s.data.toList), this]
  simp only [List.head?_cons, Option.any_some]
  rw [Bool.eq_iff_iff, beq_iff_eq, beq_iff_eq]; omega
theorem last_eq (s : ByteArray) (h : 0 < s.size) : PM.last s = ((s[s.size - 1].toNat : Int) == 47) := by
  unfold PM.last
  rw [List.getLast?_eq_getElem?, PM.list_size, List.getElem?_eq_getElem (by rw [PM.list_size]; omega)]
  simp only [Option.any_some]
  have e : s.data.toList[s.size - 1]'(by rw [PM.list_size]; omega) = s[s.size - 1] := rfl
  rw [e, Bool.eq_iff_iff, beq_iff_eq, beq_iff_eq]
  omega

theorem extract_list (s : ByteArray) (a b : Nat) : (s.extract a b).data.toList = (s.data.toList.take b).drop a := by
  rw [ByteArray.data_extract, Array.toList_extract, List.extract_eq_take_drop, List.drop_take]
theorem cut_size (s : ByteArray) (a b : Nat) (h1 : a ≤ b) (h2 : b ≤ s.size) : (s.extract a b).size = b - a := by
  rw [← PM.list_size, extract_list, List.length_drop, List.length_take, PM.list_size]; omega
/-- The part that has been begun. -/
def part (s : ByteArray) (a b : Nat) : List UInt8 := (s.extract a b).data.toList
theorem part_length (s : ByteArray) (a b : Nat) (h1 : a ≤ b) (h2 : b ≤ s.size) : (part s a b).length = b - a := by
  unfold part; rw [PM.list_size, cut_size s a b h1 h2]
theorem part_nil (s : ByteArray) (a : Nat) : part s a a = [] := by
  unfold part; rw [extract_list]
  exact List.drop_eq_nil_of_le (by simp; omega)
theorem part_snoc (s : ByteArray) (a b : Nat) (h1 : a ≤ b) (h2 : b < s.size) : part s a (b + 1) = part s a b ++ [s[b]] := by
  unfold part
  rw [extract_list, extract_list, List.take_succ_eq_append_getElem (by rw [PM.list_size]; exact h2), List.drop_append]
  have e : a - (List.take b s.data.toList).length = 0 := by rw [List.length_take, PM.list_size]; omega
  rw [e]; rfl
theorem str_part (s : ByteArray) (a b : Nat) : PM.str (part s a b) = s.extract a b := PM.str_of _

/-- Where Parse stands: at byte k, behind parts l, in one that began at a; or at the end. -/
def At (s : ByteArray) (k a : Nat) (l : List ByteArray) : Prop :=
  (k ≤ s.size ∧ a ≤ k ∧ PM.split (part s a k) l (s.data.toList.drop k) = PM.split [] [] s.data.toList) ∨ (k = s.size + 1 ∧ PM.split [] [] s.data.toList = some l)
theorem At.start (s : ByteArray) : At s 0 0 [] := .inl ⟨Nat.zero_le _, Nat.le_refl _, by rw [part_nil]; rfl⟩
theorem At.go {s : ByteArray} {k a : Nat} {l : List ByteArray} (h : At s k a l) (hk : k < s.size) (hc : ¬ (s[k].toNat : Int) = 47) : At s (k + 1) a l := by
  rcases h with ⟨h1, h2, h3⟩ | ⟨h1, -⟩
  · refine .inl ⟨by omega, by omega, ?_⟩
    rw [← h3, byte_get s k hk, PM.split, if_neg (by omega), part_snoc s a k h2 hk]
  · omega
theorem At.stop {s : ByteArray} {k a : Nat} {l : List ByteArray} (h : At s k a l) (hk : k ≤ s.size) (hc : ∀ h : k < s.size, (s[k].toNat : Int) = 47) (h32 : 32 < k - a) : PM.split [] [] s.data.toList = none := by
  rcases h with ⟨h1, h2, h3⟩ | ⟨h1, -⟩
  · have hl := part_length s a k h2 h1
    rw [← h3]
    by_cases hlt : k < s.size
    · rw [byte_get s k hlt, PM.split, if_pos (by have := hc hlt; omega), if_pos (by omega)]
    · rw [List.drop_eq_nil_of_le (by rw [PM.list_size]; omega), PM.split, if_pos (by omega)]
  · omega
theorem At.next {s : ByteArray} {k a : Nat} {l : List ByteArray} (h : At s k a l) (hk : k ≤ s.size) (hc : ∀ h : k < s.size, (s[k].toNat : Int) = 47) (h32 : ¬ 32 < k - a) : At s (k + 1) (k + 1) (if k = a then l else l ++ [s.extract a k]) := by
  rcases h with ⟨h1, h2, h3⟩ | ⟨h1, -⟩
  · have hl := part_length s a k h2 h1
    have he : PM.emit (part s a k) l = if k = a then l else l ++ [s.extract a k] := by
      unfold PM.emit
      by_cases e : k = a
      · rw [if_pos e, if_pos (by rw [e]; exact part_nil s a)]
      · rw [if_neg e, if_neg (fun h => by rw [h] at hl; simp at hl; omega), str_part]
    rw [← he]
    by_cases hlt : k < s.size
    · refine .inl ⟨by omega, Nat.le_refl _, ?_⟩
      rw [← h3, byte_get s k hlt, PM.split, if_pos (by have := hc hlt; omega), if_neg (by omega), part_nil]
    · refine .inr ⟨by omega, ?_⟩
      rw [← h3, List.drop_eq_nil_of_le (by rw [PM.list_size]; omega), PM.split, if_neg (by omega)]
  · omega
theorem At.le {s : ByteArray} {k a : Nat} {l : List ByteArray} (h : At s k a l) (hk : k ≤ s.size) : a ≤ k := by
  rcases h with ⟨_, h2, _⟩ | ⟨h1, -⟩ <;> omega

theorem perr_none {s : ByteArray} (h1 : 0 < s.size) (h2 : s.size ≤ 256) (h0 : PM.has s 0 = false) (h : PM.split [] [] s.data.toList = none) : PM.perr s = 17 ∧ PM.pA s = false ∧ PM.pD s = false ∧ PM.pN s = [] := by
  have he : PM.perr s = 17 := by unfold PM.perr; rw [if_neg (by omega), if_neg (by omega), h0, h]; simp
  refine ⟨he, ?_, ?_, ?_⟩
  · unfold PM.pA; rw [he]; rfl
  · unfold PM.pD; rw [he]; rfl
  · unfold PM.pN; rw [he]; rfl
theorem perr_some {s : ByteArray} {l : List ByteArray} (h1 : 0 < s.size) (h2 : s.size ≤ 256) (h0 : PM.has s 0 = false) (h : PM.split [] [] s.data.toList = some l) : PM.perr s = 0 ∧ PM.pA s = PM.first s ∧ PM.pD s = PM.last s ∧ PM.pN s = l := by
  have he : PM.perr s = 0 := by unfold PM.perr; rw [if_neg (by omega), if_neg (by omega), h0, h]; simp
  refine ⟨he, ?_, ?_, ?_⟩
  · unfold PM.pA; rw [he]; rfl
  · unfold PM.pD; rw [he]; rfl
  · unfold PM.pN PM.names; rw [he, h]; rfl

set_option maxRecDepth 100000 in
set_option maxHeartbeats 1000000 in
theorem Parse_any (s : ByteArray) (w : World) (h1 : 0 < s.size) (h2 : s.size ≤ 256) (h0 : PM.has s 0 = false) :
    Calls Tryz.prog 49 #[.string s] w fun e w' => ∃ v, e = .returned (.tuple #[.agg #[.bool (PM.pA s), v, .bool (PM.pD s)], .int .i64 (PM.perr s)]) ∧
      w'.ownsRow w.heap.size 9 1 v (PM.pN s).length (scl (PM.pN s)) ∧ Below w.heap.size w w' := by
  obtain ⟨i0, hi, hz0, hz1, hz2⟩ := info_parts info_str
  obtain ⟨e1, e2⟩ := full_facts (s := s) (by omega)
  have H0 : Hid (∀ w, Calls Tryz.prog 89 #[.string s, .int .u8 0] w fun e w' => e = .returned (.bool false) ∧ w = w') := by
    intro w
    have := contains_any s 0 0 rfl w (by unfold maxLen; omega)
    rwa [h0] at this
  have hno := W_hid (@perr_none s h1 h2 h0)
  have hyes := W_hid (fun l => @perr_some s l h1 h2 h0)
  have i1 : 1 ≤ (s.size : Int) := by omega
  have i2 : (s.size : Int) - 1 < s.size := by omega
  have i3 : ((s.size : Int) - 1).toNat = s.size - 1 := by omega
  have i4 : decide (256 < (s.size : Int)) = false := by simp; omega
  have iA := (first_eq s h1).symm
  have iD := (last_eq s h1).symm
  clear h0
  go_enter Tryz.func49, Tryz.ntmps49
  go_wp2_with fail
  refine (H0.out _).mono ?_
  rintro e w' ⟨rfl, rfl⟩
  go_wp2_with fail
  go_region
  go_wp2
  clear i4 iA iD
  go_loopw [5, 34] (fun f i wr => ∃ (k a : Nat) (v : Value) (l : List ByteArray), k ≤ s.size + 1 ∧ a ≤ s.size + 1 ∧ l.length ≤ k ∧ i = .int .i64 k ∧ f = .int .i64 a ∧ Hid (At s k a l) ∧ PB wr w.heap.size false (.slice none 0 0) false ∧ PB wr (w.heap.size + 1) (PM.first s) v (PM.last s) ∧
    wr.ownsRow (w.heap.size + 2) 9 1 v l.length (scl l) ∧ Below w.heap.size w wr) (fun _ i _ => s.size + 1 - (intOf i).toNat)
  case atStart => exact ⟨0, 0, .slice none 0 0, [], by omega, by omega, Nat.le_refl _, rfl, rfl, At.start s, (PB.new w _ _ _ rfl).alloc _, PB.new (w.alloc _) _ _ _ (by simp), World.ownsRow_nil _ _ _ _, (((Below.refl _ _).alloc (Nat.le_refl _) _).alloc (by simp) _).drew⟩
  case round =>
    obtain ⟨k, a, v, l, hk, ha, hl, rfl, rfl, hat, hp0, hp1, hown, bel⟩ := hrel
    obtain ⟨ao, cap, rfl⟩ := own_form hown
    have c00 := hp0.c0
    have c01 := hp0.c1
    have c02 := hp0.c2
    have f0 := hp0.fz
    have c10 := hp1.c0
    have c11 := hp1.c1
    have c12 := hp1.c2
    have f1 := hp1.fz
    by_cases hcont : ∃ h : k < s.size, ¬ (s[k].toNat : Int) = 47
    · obtain ⟨hlt, hc⟩ := hcont
      have hb : ((s[k].toNat : Int) == 47) = false := by simpa using hc
      have hat' := W_hid (hat.out.go hlt hc)
      clear hc hat
      go_wp2
      go_roundw
      case rel => exact ⟨k + 1, a, _, l, by omega, ha, by omega, by go_num, rfl, hat', hp0, hp1, hown, bel⟩
      case measure => simp [intOf]; omega
    · have hc : ∀ h : k < s.size, (s[k].toNat : Int) = 47 := fun h => Classical.byContradiction fun hn => hcont ⟨h, hn⟩
      clear hcont
      by_cases hks : k ≤ s.size
      · have hak := hat.out.le hks
        obtain ⟨p, hp⟩ : ∃ p, p = s.extract a k := ⟨_, rfl⟩
        have hsl : ∀ w, (Instr.slice 9 (.string s) (some (.int .i64 (a : Int))) (some (.int .i64 (k : Int))) none).run Tryz.prog w = .ok (.string p) w := fun w => by
          rw [run_slice_string w _ s _ _ _ _ Tryz.underlying9 (by omega) (by omega) (by omega), hp]; rfl
        have hpz := cut_size s a k hak hks
        rw [← hp] at hpz
        have HP := W_hid hp
        clear hp
        by_cases h32 : 32 < k - a
        · have hn := W_hid (hat.out.stop hks hc h32)
          have h32' : 32 < p.size := by omega
          clear hat hpz
          have hb : k < s.size → (∀ h : k < s.size, ((s[k].toNat : Int) == 47) = true) := fun _ h => by simpa using hc h
          have hb := W_hid hb
          clear hc
          by_cases hlt : k < s.size
          · have hb' := hb.out hlt hlt
            go_wp2
            have hq := ((hp0.set0 false).set1 (.slice none 0 0)).set2 false
            have bel' := ((bel.setCell (p := ⟨w.heap.size, 0, none⟩) (Nat.le_refl _) (.bool false)).setCell (p := ⟨w.heap.size, 1, none⟩) (Nat.le_refl _) (.slice none 0 0)).setCell (p := ⟨w.heap.size, 2, none⟩) (Nat.le_refl _) (.bool false)
            refine bodyPost_ret (res_path Tryz.results49 _ _ rfl hq) rfl ?_
            obtain ⟨r1, r2, r3, r4⟩ := hno.out hn.out
            rw [r1, r2, r3, r4]
            exact ⟨_, rfl, World.ownsRow_nil _ _ _ _, bel'⟩
          · go_wp2
            have hq := ((hp0.set0 false).set1 (.slice none 0 0)).set2 false
            have bel' := ((bel.setCell (p := ⟨w.heap.size, 0, none⟩) (Nat.le_refl _) (.bool false)).setCell (p := ⟨w.heap.size, 1, none⟩) (Nat.le_refl _) (.slice none 0 0)).setCell (p := ⟨w.heap.size, 2, none⟩) (Nat.le_refl _) (.bool false)
            refine bodyPost_ret (res_path Tryz.results49 _ _ rfl hq) rfl ?_
            obtain ⟨r1, r2, r3, r4⟩ := hno.out hn.out
            rw [r1, r2, r3, r4]
            exact ⟨_, rfl, World.ownsRow_nil _ _ _ _, bel'⟩
        · have hat' := W_hid (hat.out.next hks hc h32)
          have h32' : p.size ≤ 32 := by omega
          have hb : k < s.size → (∀ h : k < s.size, ((s[k].toNat : Int) == 47) = true) := fun _ h => by simpa using hc h
          have hb := W_hid hb
          clear hc
          by_cases hka : k = a
          · subst hka
            obtain ⟨p1, p2⟩ := empty_facts (s := p) (by omega)
            have hat2 : Hid (At s (k + 1) (k + 1) l) := by have := hat'.out; rw [if_pos rfl] at this; exact this
            clear hat hpz hat'
            by_cases hlt : k < s.size
            · have hb' := hb.out hlt hlt
              go_wp2
              go_roundw
              case rel => exact ⟨k + 1, k + 1, _, l, by omega, by omega, by omega, by go_num, by go_num, hat2, hp0, hp1, hown, bel⟩
              case measure => simp [intOf]; omega
            · go_wp2
              go_roundw
              case rel => exact ⟨k + 1, k + 1, _, l, by omega, by omega, by omega, by go_num, by go_num, hat2, hp0, hp1, hown, bel⟩
              case measure => simp [intOf]; omega
          · obtain ⟨p1, p2⟩ := full_facts (s := p) (by omega)
            have hat2 : Hid (At s (k + 1) (k + 1) (l ++ [p])) := by have := hat'.out; rw [if_neg hka, ← HP.out] at this; exact this
            clear hat hpz hat'
            by_cases hlt : k < s.size
            · have hb' := hb.out hlt hlt
              go_wp2_with (at_builtin; apply Hid.out)
              refine W_hid ?_
              refine wpList_append_own_wide _ rfl (.tmp 58) (.tmp 60) 97 rfl (w.heap.size + 2) 9 i0 (.string ByteArray.empty) 1 16 Tryz.underlying97 hi hz0 hz1 hz2 rfl (by decide) _ l.length (scl l) rfl (hown.alloc _) ⟨wr.heap.size, 0, none⟩ 1 1 [.string p] rfl rfl (cell_one_new _ _ _) (by intro u hu; simp at hu; subst hu; rfl) (by unfold maxLen; omega) (by omega) (by simp; have := hp1.lt; omega) ?_
              intro v2 w2 hown2 hgrow2 hnn
              obtain ⟨ao2, cap2, rfl⟩ := own_form hown2
              obtain ⟨q0, q1, q2, q3, q4⟩ := append_keeps hp0 hp1 hown bel hown2 hgrow2
              clear hown2 hgrow2 hnn hown bel c00 c01 c02 f0 c10 c11 c12 f1 hp0 hp1
              have c1 := q1.c1
              have f1 := q1.fz
              go_wp2
              have q1' := q1.set1 (.slice ao2 (l.length + 1) cap2)
              have q0' := q0.far (p := ⟨w.heap.size + 1, 1, none⟩) (by simp) (.slice ao2 (l.length + 1) cap2)
              have q2' := own_set q2 (by simp) (.slice ao2 (l.length + 1) cap2) (p := ⟨w.heap.size + 1, 1, none⟩)
              have q3' := q3.setCell (p := ⟨w.heap.size + 1, 1, none⟩) (by simp) (.slice ao2 (l.length + 1) cap2)
              go_roundw
              case rel => exact ⟨k + 1, k + 1, _, l ++ [p], by omega, by omega, by simp; omega, by go_num, by go_num, hat2, q0', q1', (by rw [scl_append, List.length_append]; exact q2'), q3'⟩
              case measure => simp [intOf]; omega
            · go_wp2_with (at_builtin; apply Hid.out)
              refine W_hid ?_
              refine wpList_append_own_wide _ rfl (.tmp 58) (.tmp 60) 97 rfl (w.heap.size + 2) 9 i0 (.string ByteArray.empty) 1 16 Tryz.underlying97 hi hz0 hz1 hz2 rfl (by decide) _ l.length (scl l) rfl (hown.alloc _) ⟨wr.heap.size, 0, none⟩ 1 1 [.string p] rfl rfl (cell_one_new _ _ _) (by intro u hu; simp at hu; subst hu; rfl) (by unfold maxLen; omega) (by omega) (by simp; have := hp1.lt; omega) ?_
              intro v2 w2 hown2 hgrow2 hnn
              obtain ⟨ao2, cap2, rfl⟩ := own_form hown2
              obtain ⟨q0, q1, q2, q3, q4⟩ := append_keeps hp0 hp1 hown bel hown2 hgrow2
              clear hown2 hgrow2 hnn hown bel c00 c01 c02 f0 c10 c11 c12 f1 hp0 hp1
              have c1 := q1.c1
              have f1 := q1.fz
              go_wp2
              have q1' := q1.set1 (.slice ao2 (l.length + 1) cap2)
              have q0' := q0.far (p := ⟨w.heap.size + 1, 1, none⟩) (by simp) (.slice ao2 (l.length + 1) cap2)
              have q2' := own_set q2 (by simp) (.slice ao2 (l.length + 1) cap2) (p := ⟨w.heap.size + 1, 1, none⟩)
              have q3' := q3.setCell (p := ⟨w.heap.size + 1, 1, none⟩) (by simp) (.slice ao2 (l.length + 1) cap2)
              go_roundw
              case rel => exact ⟨k + 1, k + 1, _, l ++ [p], by omega, by omega, by simp; omega, by go_num, by go_num, hat2, q0', q1', (by rw [scl_append, List.length_append]; exact q2'), q3'⟩
              case measure => simp [intOf]; omega
      · obtain rfl : k = s.size + 1 := by omega
        have hsome : Hid (PM.split [] [] s.data.toList = some l) := by
          rcases hat.out with ⟨h, -⟩ | ⟨-, h⟩
          · omega
          · exact h
        clear hat hc
        go_wp2
        have hq := ((hp0.set0 (PM.first s)).set1 (.slice ao l.length cap)).set2 (PM.last s)
        have bel' := ((bel.setCell (p := ⟨w.heap.size, 0, none⟩) (Nat.le_refl _) (.bool (PM.first s))).setCell (p := ⟨w.heap.size, 1, none⟩) (Nat.le_refl _) (.slice ao l.length cap)).setCell (p := ⟨w.heap.size, 2, none⟩) (Nat.le_refl _) (.bool (PM.last s))
        have hown' := own_set (p := ⟨w.heap.size, 2, none⟩) (own_set (p := ⟨w.heap.size, 1, none⟩) (own_set (p := ⟨w.heap.size, 0, none⟩) hown (by simp) (.bool (PM.first s))) (by simp) (.slice ao l.length cap)) (by simp) (.bool (PM.last s))
        refine bodyPost_ret (res_path Tryz.results49 _ _ rfl hq) rfl ?_
        obtain ⟨r1, r2, r3, r4⟩ := hyes.out _ hsome.out
        rw [r1, r2, r3, r4]
        exact ⟨_, rfl, own_base (by omega) hown', bel'⟩

theorem perr_facts {s : ByteArray} {n : Int} (h : PM.perr s = n) (hn : n ≠ 0) : PM.perr s = n ∧ PM.pA s = false ∧ PM.pD s = false ∧ PM.pN s = [] := by
  refine ⟨h, ?_, ?_, ?_⟩
  · unfold PM.pA; rw [h, if_neg hn]
  · unfold PM.pD; rw [h, if_neg hn]
  · unfold PM.pN; rw [h, if_neg hn]

/-- What Parse answers. -/
def Parsed (s : ByteArray) (w : World) (e : Ending) (w' : World) : Prop := ∃ v, e = .returned (.tuple #[.agg #[.bool (PM.pA s), v, .bool (PM.pD s)], .int .i64 (PM.perr s)]) ∧
      w'.ownsRow w.heap.size 9 1 v (PM.pN s).length (scl (PM.pN s)) ∧ Below w.heap.size w w'

theorem parsed_no {s : ByteArray} {w w' : World} {n : Int} (h : PM.perr s = n) (hn : n ≠ 0) (hb : Below w.heap.size w w') : Parsed s w (.returned (.tuple #[.agg #[.bool false, .slice none 0 0, .bool false], .int .i64 n])) w' := by
  obtain ⟨r1, r2, r3, r4⟩ := perr_facts h hn
  unfold Parsed
  rw [r1, r2, r3, r4]
  exact ⟨_, rfl, World.ownsRow_nil _ _ _ _, hb⟩

set_option maxRecDepth 100000 in
set_option maxHeartbeats 1000000 in
theorem Parse_all (s : ByteArray) (w : World) (hs : s.size ≤ maxLen) : Calls Tryz.prog 49 #[.string s] w (Parsed s w) := by
  by_cases h1 : s.size = 0
  · have he : PM.perr s = 11 := by unfold PM.perr; rw [if_pos h1]
    have HE := W_hid (fun w' => @parsed_no s w w' 11 he (by decide))
    obtain ⟨e1, e2⟩ := empty_facts h1
    clear h1 he
    go_enter Tryz.func49, Tryz.ntmps49
    go_wp2_with fail
    exact bodyPost_ret (res_path Tryz.results49 _ _ rfl (PB.new w _ _ _ rfl)) rfl (HE.out _ ((Below.refl _ _).alloc (Nat.le_refl _) _))
  by_cases h2 : 256 < s.size
  · have he : PM.perr s = 17 := by unfold PM.perr; rw [if_neg h1, if_pos h2]
    have HE := W_hid (fun w' => @parsed_no s w w' 17 he (by decide))
    obtain ⟨e1, e2⟩ := full_facts h1
    have i4 : decide (256 < (s.size : Int)) = true := by simp; omega
    unfold maxLen at hs
    clear h1 he
    go_enter Tryz.func49, Tryz.ntmps49
    go_wp2_with fail
    exact bodyPost_ret (res_path Tryz.results49 _ _ rfl (PB.new w _ _ _ rfl)) rfl (HE.out _ ((Below.refl _ _).alloc (Nat.le_refl _) _))
  by_cases h0 : PM.has s 0 = true
  · have he : PM.perr s = 2 := by unfold PM.perr; rw [if_neg h1, if_neg h2, h0]; rfl
    have HE := W_hid (fun w' => @parsed_no s w w' 2 he (by decide))
    obtain ⟨e1, e2⟩ := full_facts h1
    have i4 : decide (256 < (s.size : Int)) = false := by simp; omega
    have H0 : Hid (∀ w, Calls Tryz.prog 89 #[.string s, .int .u8 0] w fun e w' => e = .returned (.bool true) ∧ w = w') := by
      intro w
      have := contains_any s 0 0 rfl w hs
      rwa [h0] at this
    unfold maxLen at hs
    clear h1 he h0
    go_enter Tryz.func49, Tryz.ntmps49
    go_wp2_with fail
    refine (H0.out _).mono ?_
    rintro e w' ⟨rfl, rfl⟩
    go_wp2_with fail
    exact bodyPost_ret (res_path Tryz.results49 _ _ rfl (PB.new w _ _ _ rfl)) rfl (HE.out _ ((Below.refl _ _).alloc (Nat.le_refl _) _))
  · exact Parse_any s w (by omega) (by omega) (by simpa using h0)

end Go.Proofs.YtbloiilinofklaaGreat

/- Contract of the document's own Parse: the path of a text, for every text. -/
namespace Go.Proofs.YtbloiilinofklaaGreat
open Go.ChangeShapes Go.WideShapes Go.ChangeAt Go.RowKit
set_option linter.unusedVariables false
set_option linter.unusedSimpArgs false

/-- 'append' to an owned row, as one step of a region that draws its order. -/
theorem step_append_wide {P : Program} {ops : Array Oper} {o : Oper} {a : Act} {w : World} {K : Act → World → Prop} {Q : Exit → Act → World → Prop} {E : Prop}
    (hg : o.guard = none) (s x : Operand) (t : TypeId) (hop : o.op = Op.call { callee := Callee.builtin Builtin.append, args := #[s, x], argTypes := #[t, t] })
    (base : Nat) (e : TypeId) (i : TypeInfo) (z : Value) (size bytes : Nat) (ht : P.underlying t = some (.slice e)) (hi : P.info? e = some i) (hz : i.zero = some z)
    (hsize : i.size = size) (hby : i.bytes = bytes) (hzs : z.cells.size = size) (hsz : 0 < size)
    (v : Value) (n : Nat) (xs : List Value) (hs : a.eval s = v) (hown : w.ownsRow base e size v n xs)
    (ad : Addr) (m c : Nat) (news : List Value) (hx : a.eval x = .slice (some ad) m c) (hl : news.length = m * size) (hnews : ∀ j u, news[j]? = some u → w.cell? (ad.add j) = some u) (h1 : ∀ u ∈ news, u.oneCell' = true)
    (h63 : n + m ≤ maxLen) (hbytes : ((n + m) + (n + m) / 4 + 192) * bytes ≤ 281474976710656) (hbase : base ≤ w.heap.size)
    (hK : ∀ v' w', w'.ownsRow base e size v' (n + m) (xs ++ news) → w.grownBy w' v.ownBlock → K (a.put o.dst v') w') :
    if Region.wanted o (yielded ops a.tmps) = true then Oper.wp P o a w K Q else E := by
  have hw : Region.wanted o (yielded ops a.tmps) = true := by simp [Region.wanted, hg]
  rw [if_pos hw]
  obtain ⟨v', w', hrun, r1, r2, -⟩ := run_append_own_wide (P := P) w base t o.type e i z size bytes ht hi hz hsize hby hzs hsz v n xs hown ad m c news hl hnews h1 h63 hbytes hbase
  unfold Oper.wp
  simp [execOp, hop, resolve, invoke, builtin, hs, hx, hrun, Result.andThen]
  exact hK v' w' r1 r2

theorem grown_undrew {w w' : World} {row : Option Nat} (h : w.drew.grownBy w' row) : w.grownBy w' row := ⟨h.os, h.tape, h.output, h.size, h.block⟩

set_option maxRecDepth 100000 in
set_option maxHeartbeats 1000000 in
theorem rParse_any (s : ByteArray) (w : World) (h1 : 0 < s.size) (h2 : s.size ≤ 256) (h0 : PM.has s 0 = false) :
    Calls Tryz.prog 47 #[.string s] w (Parsed s w) := by
  obtain ⟨i0, hi, hz0, hz1, hz2⟩ := info_parts info_str
  obtain ⟨e1, e2⟩ := full_facts (s := s) (by omega)
  have H0 : Hid (∀ k (h : k < s.size), ((s[k].toNat : Int) == 0) = false) := by
    intro k hk
    by_cases e : (s[k].toNat : Int) = 0
    · have := has_of (v := 0) hk (by simpa using e)
      rw [h0] at this; cases this
    · simpa using e
  have hno := W_hid (@perr_none s h1 h2 h0)
  have hyes := W_hid (fun l => @perr_some s l h1 h2 h0)
  have i1 : 1 ≤ (s.size : Int) := by omega
  have i2 : (s.size : Int) - 1 < s.size := by omega
  have i3 : ((s.size : Int) - 1).toNat = s.size - 1 := by omega
  have i4 : decide (256 < (s.size : Int)) = false := by simp; omega
  have iA := W_hid (first_eq s h1).symm
  have iD := W_hid (last_eq s h1).symm
  clear h0
  go_enter Tryz.func47, Tryz.ntmps47
  go_wp2_with fail
  go_loop [4] (fun i => ∃ k : Nat, k ≤ s.size ∧ i = .int .i64 k) (fun i => s.size - (intOf i).toNat)
  case atStart => exact ⟨0, Nat.zero_le _, rfl⟩
  case round =>
  obtain ⟨k, hk, rfl⟩ := hrel
  by_cases hlt : k < s.size
  · have hb := H0.out k hlt
    go_wp2
    go_round
    case rel => exact ⟨k + 1, by omega, by go_num⟩
    case measure => simp [intOf]; omega
  obtain rfl : k = s.size := by omega
  go_wp2
  have iA' := iA.out
  have iD' := iD.out
  go_region
  go_wp2
  clear i4 iA' iD'
  go_loopw [6, 7] (fun f i wr => ∃ (k a : Nat) (v : Value) (l : List ByteArray), k ≤ s.size + 1 ∧ a ≤ s.size + 1 ∧ l.length ≤ k ∧ i = .int .i64 k ∧ f = .int .i64 a ∧ Hid (At s k a l) ∧ PB wr w.heap.size false (.slice none 0 0) false ∧ PB wr (w.heap.size + 1) (PM.first s) v (PM.last s) ∧
    wr.ownsRow (w.heap.size + 2) 9 1 v l.length (scl l) ∧ Below w.heap.size w wr) (fun _ i _ => s.size + 1 - (intOf i).toNat)
  case atStart => exact ⟨0, 0, .slice none 0 0, [], by omega, by omega, Nat.le_refl _, rfl, rfl, At.start s, (PB.new w _ _ _ rfl).alloc _, PB.new (w.alloc _) _ _ _ (by simp), World.ownsRow_nil _ _ _ _, (((Below.refl _ _).alloc (Nat.le_refl _) _).alloc (by simp) _).drew⟩
  case round =>
    obtain ⟨k, a, v, l, hk, ha, hl, rfl, rfl, hat, hp0, hp1, hown, bel⟩ := hrel
    obtain ⟨ao, cap, rfl⟩ := own_form hown
    have c00 := hp0.c0
    have c01 := hp0.c1
    have c02 := hp0.c2
    have f0 := hp0.fz
    have c10 := hp1.c0
    have c11 := hp1.c1
    have c12 := hp1.c2
    have f1 := hp1.fz
    by_cases hcont : ∃ h : k < s.size, ¬ (s[k].toNat : Int) = 47
    · obtain ⟨hlt, hc⟩ := hcont
      have hb : ((s[k].toNat : Int) == 47) = false := by simpa using hc
      have hat' := W_hid (hat.out.go hlt hc)
      clear hc hat
      go_wp2
      go_roundw
      case rel => exact ⟨k + 1, a, _, l, by omega, ha, by omega, by go_num, rfl, hat', hp0, hp1, hown, bel⟩
      case measure => simp [intOf]; omega
    · have hc : ∀ h : k < s.size, (s[k].toNat : Int) = 47 := fun h => Classical.byContradiction fun hn => hcont ⟨h, hn⟩
      clear hcont
      by_cases hks : k ≤ s.size
      · have hak := hat.out.le hks
        obtain ⟨p, hp⟩ : ∃ p, p = s.extract a k := ⟨_, rfl⟩
        have hsl : ∀ w, (Instr.slice 9 (.string s) (some (.int .i64 (a : Int))) (some (.int .i64 (k : Int))) none).run Tryz.prog w = .ok (.string p) w := fun w => by
          rw [run_slice_string w _ s _ _ _ _ Tryz.underlying9 (by omega) (by omega) (by omega), hp]; rfl
        have HP := W_hid hp
        clear hp
        by_cases h32 : 32 < k - a
        · have hn := W_hid (hat.out.stop hks hc h32)
          have h32' : 32 < (k : Int) - a := by omega
          clear hat
          have hb : k < s.size → (∀ h : k < s.size, ((s[k].toNat : Int) == 47) = true) := fun _ h => by simpa using hc h
          have hb := W_hid hb
          clear hc
          by_cases hlt : k < s.size
          · have hb' := hb.out hlt hlt
            go_wp2
            have hq := ((hp0.set0 false).set1 (.slice none 0 0)).set2 false
            have bel' := ((bel.setCell (p := ⟨w.heap.size, 0, none⟩) (Nat.le_refl _) (.bool false)).setCell (p := ⟨w.heap.size, 1, none⟩) (Nat.le_refl _) (.slice none 0 0)).setCell (p := ⟨w.heap.size, 2, none⟩) (Nat.le_refl _) (.bool false)
            refine bodyPost_ret (res_path Tryz.results47 _ _ rfl hq) rfl ?_
            obtain ⟨r1, r2, r3, r4⟩ := hno.out hn.out
            unfold Parsed
            rw [r1, r2, r3, r4]
            exact ⟨_, rfl, World.ownsRow_nil _ _ _ _, bel'⟩
          · go_wp2
            have hq := ((hp0.set0 false).set1 (.slice none 0 0)).set2 false
            have bel' := ((bel.setCell (p := ⟨w.heap.size, 0, none⟩) (Nat.le_refl _) (.bool false)).setCell (p := ⟨w.heap.size, 1, none⟩) (Nat.le_refl _) (.slice none 0 0)).setCell (p := ⟨w.heap.size, 2, none⟩) (Nat.le_refl _) (.bool false)
            refine bodyPost_ret (res_path Tryz.results47 _ _ rfl hq) rfl ?_
            obtain ⟨r1, r2, r3, r4⟩ := hno.out hn.out
            unfold Parsed
            rw [r1, r2, r3, r4]
            exact ⟨_, rfl, World.ownsRow_nil _ _ _ _, bel'⟩
        · have hat' := W_hid (hat.out.next hks hc h32)
          have h32' : (k : Int) - a ≤ 32 := by omega
          have hb : k < s.size → (∀ h : k < s.size, ((s[k].toNat : Int) == 47) = true) := fun _ h => by simpa using hc h
          have hb := W_hid hb
          clear hc
          by_cases hka : k = a
          · subst hka
            have hat2 : Hid (At s (k + 1) (k + 1) l) := by have := hat'.out; rw [if_pos rfl] at this; exact this
            clear hat hat'
            by_cases hlt : k < s.size
            · have hb' := hb.out hlt hlt
              go_wp2
              go_roundw
              case rel => exact ⟨k + 1, k + 1, _, l, by omega, by omega, by omega, by go_num, by go_num, hat2, hp0, hp1, hown, bel⟩
              case measure => simp [intOf]; omega
            · go_wp2
              go_roundw
              case rel => exact ⟨k + 1, k + 1, _, l, by omega, by omega, by omega, by go_num, by go_num, hat2, hp0, hp1, hown, bel⟩
              case measure => simp [intOf]; omega
          · have hgt : a < k := by omega
            have hat2 : Hid (At s (k + 1) (k + 1) (l ++ [p])) := by have := hat'.out; rw [if_neg hka, ← HP.out] at this; exact this
            clear hat hat' hka
            by_cases hlt : k < s.size
            · have hb' := hb.out hlt hlt
              have d12 : ∀ o, (wr.alloc o).cell? ⟨w.heap.size + 1, 1, none⟩ = some (.slice ao l.length cap) := fun o => (hp1.alloc o).c1
              go_wp2
              go_region_law (refine step_append_wide rfl (.tmp 61) (.tmp 66) 97 rfl (w.heap.size + 2) 9 i0 (.string ByteArray.empty) 1 16 Tryz.underlying97 hi hz0 hz1 hz2 rfl (by decide) (.slice ao l.length cap) l.length (scl l) rfl (hown.alloc _) ⟨wr.heap.size, 0, none⟩ 1 1 [.string p] rfl rfl (cell_one_new _ _ _) (by intro u hu; simp at hu; subst hu; rfl) (by unfold maxLen; omega) (by omega) (by simp; have := hp1.lt; omega) ?_; intro v2 w2 hown2 hgrow2; obtain ⟨ao2, cap2, rfl⟩ := own_form hown2; obtain ⟨q0, q1, q2, q3, q4⟩ := append_keeps hp0 hp1 hown bel hown2 (grown_undrew hgrow2); have d1 := q1.c1; have d2 := q1.fz)
              all_goals
                clear hown2 hgrow2 hown bel c00 c01 c02 f0 c10 c11 c12 f1 hp0 hp1 d12 d1 d2
                go_wp2
                have q1' := q1.set1 (.slice ao2 (l.length + 1) cap2)
                have q0' := q0.far (p := ⟨w.heap.size + 1, 1, none⟩) (by simp) (.slice ao2 (l.length + 1) cap2)
                have q2' := own_set q2 (by simp) (.slice ao2 (l.length + 1) cap2) (p := ⟨w.heap.size + 1, 1, none⟩)
                have q3' := q3.setCell (p := ⟨w.heap.size + 1, 1, none⟩) (by simp) (.slice ao2 (l.length + 1) cap2)
                go_roundw
                case rel => exact ⟨k + 1, k + 1, _, l ++ [p], by omega, by omega, by simp; omega, by go_num, by go_num, hat2, q0', q1', (by rw [scl_append, List.length_append]; exact q2'), q3'⟩
                case measure => simp [intOf]; omega
            · have d12 : ∀ o, (wr.alloc o).cell? ⟨w.heap.size + 1, 1, none⟩ = some (.slice ao l.length cap) := fun o => (hp1.alloc o).c1
              go_wp2
              go_region_law (refine step_append_wide rfl (.tmp 61) (.tmp 66) 97 rfl (w.heap.size + 2) 9 i0 (.string ByteArray.empty) 1 16 Tryz.underlying97 hi hz0 hz1 hz2 rfl (by decide) (.slice ao l.length cap) l.length (scl l) rfl (hown.alloc _) ⟨wr.heap.size, 0, none⟩ 1 1 [.string p] rfl rfl (cell_one_new _ _ _) (by intro u hu; simp at hu; subst hu; rfl) (by unfold maxLen; omega) (by omega) (by simp; have := hp1.lt; omega) ?_; intro v2 w2 hown2 hgrow2; obtain ⟨ao2, cap2, rfl⟩ := own_form hown2; obtain ⟨q0, q1, q2, q3, q4⟩ := append_keeps hp0 hp1 hown bel hown2 (grown_undrew hgrow2); have d1 := q1.c1; have d2 := q1.fz)
              all_goals
                clear hown2 hgrow2 hown bel c00 c01 c02 f0 c10 c11 c12 f1 hp0 hp1 d12 d1 d2
                go_wp2
                have q1' := q1.set1 (.slice ao2 (l.length + 1) cap2)
                have q0' := q0.far (p := ⟨w.heap.size + 1, 1, none⟩) (by simp) (.slice ao2 (l.length + 1) cap2)
                have q2' := own_set q2 (by simp) (.slice ao2 (l.length + 1) cap2) (p := ⟨w.heap.size + 1, 1, none⟩)
                have q3' := q3.setCell (p := ⟨w.heap.size + 1, 1, none⟩) (by simp) (.slice ao2 (l.length + 1) cap2)
                go_roundw
                case rel => exact ⟨k + 1, k + 1, _, l ++ [p], by omega, by omega, by simp; omega, by go_num, by go_num, hat2, q0', q1', (by rw [scl_append, List.length_append]; exact q2'), q3'⟩
                case measure => simp [intOf]; omega
      · obtain rfl : k = s.size + 1 := by omega
        have hsome : Hid (PM.split [] [] s.data.toList = some l) := by
          rcases hat.out with ⟨h, -⟩ | ⟨-, h⟩
          · omega
          · exact h
        clear hat hc
        go_wp2
        have hq := ((hp0.set0 (PM.first s)).set1 (.slice ao l.length cap)).set2 (PM.last s)
        have bel' := ((bel.setCell (p := ⟨w.heap.size, 0, none⟩) (Nat.le_refl _) (.bool (PM.first s))).setCell (p := ⟨w.heap.size, 1, none⟩) (Nat.le_refl _) (.slice ao l.length cap)).setCell (p := ⟨w.heap.size, 2, none⟩) (Nat.le_refl _) (.bool (PM.last s))
        have hown' := own_set (p := ⟨w.heap.size, 2, none⟩) (own_set (p := ⟨w.heap.size, 1, none⟩) (own_set (p := ⟨w.heap.size, 0, none⟩) hown (by simp) (.bool (PM.first s))) (by simp) (.slice ao l.length cap)) (by simp) (.bool (PM.last s))
        refine bodyPost_ret (res_path Tryz.results47 _ _ rfl hq) rfl ?_
        obtain ⟨r1, r2, r3, r4⟩ := hyes.out _ hsome.out
        unfold Parsed
        rw [r1, r2, r3, r4]
        exact ⟨_, rfl, own_base (by omega) hown', bel'⟩

set_option maxRecDepth 100000 in
set_option maxHeartbeats 1000000 in
theorem rParse_all (s : ByteArray) (w : World) (hs : s.size ≤ maxLen) : Calls Tryz.prog 47 #[.string s] w (Parsed s w) := by
  by_cases h1 : s.size = 0
  · have he : PM.perr s = 11 := by unfold PM.perr; rw [if_pos h1]
    have HE := W_hid (fun w' => @parsed_no s w w' 11 he (by decide))
    obtain ⟨e1, e2⟩ := empty_facts h1
    clear h1 he
    go_enter Tryz.func47, Tryz.ntmps47
    go_wp2_with fail
    exact bodyPost_ret (res_path Tryz.results47 _ _ rfl (PB.new w _ _ _ rfl)) rfl (HE.out _ ((Below.refl _ _).alloc (Nat.le_refl _) _))
  by_cases h2 : 256 < s.size
  · have he : PM.perr s = 17 := by unfold PM.perr; rw [if_neg h1, if_pos h2]
    have HE := W_hid (fun w' => @parsed_no s w w' 17 he (by decide))
    obtain ⟨e1, e2⟩ := full_facts h1
    have i4 : decide (256 < (s.size : Int)) = true := by simp; omega
    unfold maxLen at hs
    clear h1 he
    go_enter Tryz.func47, Tryz.ntmps47
    go_wp2_with fail
    exact bodyPost_ret (res_path Tryz.results47 _ _ rfl (PB.new w _ _ _ rfl)) rfl (HE.out _ ((Below.refl _ _).alloc (Nat.le_refl _) _))
  by_cases h0 : PM.has s 0 = true
  · have he : PM.perr s = 2 := by unfold PM.perr; rw [if_neg h1, if_neg h2, h0]; rfl
    have HE := W_hid (fun w' => @parsed_no s w w' 2 he (by decide))
    obtain ⟨e1, e2⟩ := full_facts h1
    have i4 : decide (256 < (s.size : Int)) = false := by simp; omega
    have hn : Hid (¬ (s.data.toList.take s.size).any (fun c => c.toNat == 0) = false) := fun h => by rw [has_none h] at h0; cases h0
    unfold maxLen at hs
    clear h1 he h0
    go_enter Tryz.func47, Tryz.ntmps47
    go_wp2_with fail
    go_loop [4] (fun i => ∃ k : Nat, k ≤ s.size ∧ i = .int .i64 k ∧ Hid ((s.data.toList.take k).any (fun c => c.toNat == 0) = false)) (fun i => s.size - (intOf i).toNat)
    case atStart => exact ⟨0, Nat.zero_le _, rfl, rfl⟩
    case round =>
    obtain ⟨k, hk, rfl, hno⟩ := hrel
    by_cases hlt : k < s.size
    · by_cases hc : (s[k].toNat : Int) = 0
      · have hb : ((s[k].toNat : Int) == 0) = true := by simpa using hc
        clear hc
        go_wp2
        exact bodyPost_ret (res_path Tryz.results47 _ _ rfl (PB.new w _ _ _ rfl)) rfl (HE.out _ ((Below.refl _ _).alloc (Nat.le_refl _) _))
      · have hb : ((s[k].toNat : Int) == 0) = false := by simpa using hc
        have hn2 : Hid ((s.data.toList.take (k + 1)).any (fun c => c.toNat == 0) = false) := by
          have h0 := hno.out
          show _ = false
          rw [any_take_snoc _ _ _ hlt, h0]
          simp only [Bool.false_or, beq_eq_false_iff_ne, ne_eq]
          omega
        clear hc
        go_wp2
        go_round
        case rel => exact ⟨k + 1, by omega, by go_num, hn2⟩
        case measure => simp [intOf]; omega
    · obtain rfl : k = s.size := by omega
      exact absurd hno.out hn.out
  · exact rParse_any s w (by omega) (by omega) (by simpa using h0)

end Go.Proofs.YtbloiilinofklaaGreat

/- A slice value that reads as a list of strings; the contract of Same, for all paths. -/
namespace Go.Proofs.YtbloiilinofklaaGreat
open Go.ChangeShapes Go.WideShapes Go.ChangeAt Go.RowKit
set_option linter.unusedVariables false
set_option linter.unusedSimpArgs false

/-- A slice value of length n reads as the strings l in world w. -/
def SS (w : World) (ao : Option Addr) (n cap : Nat) (l : List ByteArray) : Prop :=
  l.length = n ∧ n ≤ cap ∧ cap ≤ maxLen ∧ (ao = none → cap = 0) ∧ ∀ a, ao = some a → ∀ j u, (scl l)[j]? = some u → w.cell? (a.add j) = some u

theorem SS.below {w w' : World} {ao : Option Addr} {n cap : Nat} {l : List ByteArray} (h : SS w ao n cap l) {B : Nat} (hb : Below B w w') (hB : w.heap.size ≤ B) : SS w' ao n cap l := by
  refine ⟨h.1, h.2.1, h.2.2.1, h.2.2.2.1, fun a ha j u hu => ?_⟩
  have hc := h.2.2.2.2 a ha j u hu
  rw [hb.cell (Nat.lt_of_lt_of_le (World.block_lt_of_cell? w _ hc) hB)]
  exact hc
theorem SS.nil (w : World) : SS w none 0 0 [] := ⟨rfl, Nat.le_refl _, Nat.zero_le _, fun _ => rfl, fun _ h => by cases h⟩
theorem SS.alloc {w : World} {ao : Option Addr} {n cap : Nat} {l : List ByteArray} (h : SS w ao n cap l) (o : Obj) : SS (w.alloc o) ao n cap l := h.below (Below.alloc (Below.refl _ _) (Nat.le_refl _) o) (Nat.le_refl _)
/-- What is owned reads so. -/
theorem SS_own {w : World} {base e : Nat} {n cap : Nat} {ao : Option Addr} {l : List ByteArray} (h : w.ownsRow base e 1 (.slice ao n cap) n (scl l)) : SS w ao n cap l := by
  have hl : l.length = n := by have := h.1; rw [scl_length] at this; omega
  rcases h.2 with ⟨h', h''⟩ | ⟨g', cap', cur, h', hb, hg, hnc, hcm, _⟩
  · simp only [Value.slice.injEq] at h'
    obtain ⟨rfl, rfl, rfl⟩ := h'
    obtain rfl := List.eq_nil_of_length_eq_zero hl
    exact SS.nil w
  · simp only [Value.slice.injEq, true_and] at h'
    obtain ⟨rfl, rfl⟩ := h'
    refine ⟨hl, hnc, hcm, (fun h => by cases h), fun a ha j u hu => ?_⟩
    obtain rfl := Option.some.inj ha
    exact h.cells (g := g') rfl j u hu
theorem SS.at_ {w : World} {ao : Option Addr} {n cap : Nat} {l : List ByteArray} (h : SS w ao n cap l) (hn : 0 < n) : ∃ blk off, ao = some ⟨blk, off, none⟩ ∧ ∀ j, (hj : j < n) → w.cell? ⟨blk, off + j, none⟩ = some (.string (l[j]'(by rw [h.1]; exact hj))) := by
  obtain ⟨hl, h1, h2, h3, h4⟩ := h
  cases ao with
  | none => have := h3 rfl; omega
  | some a =>
    have hcell : ∀ j, (hj : j < n) → w.cell? (a.add j) = some (.string (l[j]'(by rw [hl]; exact hj))) := fun j hj => by
      refine h4 a rfl j _ ?_
      rw [scl_get, List.getElem?_eq_getElem (by rw [hl]; exact hj)]; rfl
    obtain ⟨b, off, spot⟩ := a
    have h0 := hcell 0 hn
    have hs : spot = none := by simpa [Addr.add] using World.cell?_spot h0
    subst hs
    exact ⟨b, off, rfl, fun j hj => by have := hcell j hj; rwa [Addr.add_lit] at this⟩

/-- A path as a value. -/
def pathv (a : Bool) (v : Value) (d : Bool) : Value := .agg #[.bool a, v, .bool d]

def same (a1 : Bool) (l1 : List ByteArray) (d1 a2 : Bool) (l2 : List ByteArray) (d2 : Bool) : Bool := decide (a1 = a2) && decide (d1 = d2) && decide (l1 = l2)

end Go.Proofs.YtbloiilinofklaaGreat

/- Contracts of package names' walks: resolve, find, place. -/
namespace Go.Proofs.YtbloiilinofklaaGreat
open Go.ChangeShapes Go.WideShapes Go.ChangeAt Go.RowKit Go.Maps
set_option linter.unusedVariables false
set_option linter.unusedSimpArgs false
namespace NT
open IN (Keeps)
section
variable {base : Nat} {w w' : World} {tg sg mb : Nat} {A : Int → Option (Nat × Nat)} {D : Ds}

theorem goes_take (D : Ds) (n : Int) (l : List ByteArray) (k : Nat) (hk : k < l.length) {m : Int} (h : goes D n (l.take k) = .ok m) : goes D n (l.take (k + 1)) = step D m l[k] := by
  rw [PM.take_snoc l k hk, goes_snoc, h]
theorem goes_stop (D : Ds) (x : ByteArray) (xs : List ByteArray) : ∀ (ys : List ByteArray) (n : Int) (e : Int), goes D n ys = .error e → goes D n (ys ++ xs) = .error e
  | [], n, e, h => by cases h
  | y :: ys, n, e, h => by
    simp only [List.cons_append, goes] at h ⊢
    cases hs : step D n y with
    | error e' => rw [hs] at h; exact h
    | ok m => rw [hs] at h; exact goes_stop D x xs ys m e h

set_option maxRecDepth 100000 in
set_option maxHeartbeats 4000000 in
theorem resolve_any (l : List ByteArray) (ao : Option Addr) (n cap : Nat) (w : World) (h : TM base w tg sg mb A D) (hl : SS w ao n cap l) (hs : ∀ k ∈ l, NS.Sm k) :
    Calls Tryz.prog 90 #[.pointer (some ⟨tg, 0, none⟩), .slice ao n cap] w fun e w' => e = .returned (.tuple #[rv A (goes D 1 l), .int .i64 (er (goes D 1 l))]) ∧ Below w.heap.size w w' := by
  obtain ⟨pp, hpp⟩ := ptr_form (pa A 1)
  have hb := h.box
  rw [hpp] at hb
  have hln : l.length = n := hl.1
  have hlim : n ≤ 9223372036854775807 := by have := hl.2.1; have := hl.2.2.1; unfold maxLen at *; omega
  have t1 := fun o => (hb.alloc o).cell (j := 1) rfl
  have t2 := fun o => (hb.alloc o).cell (j := 2) rfl
  have H := W_hid h
  have HL := W_hid hl
  have hpp := W_hid hpp
  clear h hb hl
  go_enter Tryz.func90, Tryz.ntmps90
  go_wp2_with fail
  go_loopw [17] (fun v wr => ∃ (i : Nat) (m : Int) (pm : Option Addr), v = .int .i64 (i : Int) ∧ i ≤ n ∧ Hid (goes D 1 (l.take i) = .ok m) ∧ Hid (IS.ptr (pa A m) = .pointer pm) ∧ Hid (Blk wr w.heap.size 104 [.int .i64 0, .pointer none]) ∧ Hid (Blk wr (w.heap.size + 1) 104 [.int .i64 m, .pointer pm]) ∧ Hid (Below w.heap.size w wr)) (fun v _ => n - (intOf v).toNat)
  case atStart => exact ⟨0, 1, pp, rfl, Nat.zero_le _, W_hid rfl, hpp, W_hid ((Blk.new _ _ _ rfl).alloc _), W_hid (Blk.new _ _ _ (by simp)), W_hid (new2 _ _ _)⟩
  case round =>
    obtain ⟨i, m, pm, rfl, hin, hg, hpm, hR, hN, hB⟩ := hrel
    by_cases hi : i < n
    · obtain ⟨blk, off, rfl, hcell⟩ := HL.out.at_ (by omega)
      have hi' : i < l.length := by omega
      have ce : wr.cell? ⟨blk, off + i, none⟩ = some (.string l[i]) := by
        have := hcell i hi
        rw [hB.out.cell (World.block_lt_of_cell? w _ this)]
        exact this
      have cS := step_any m l[i] (hs _ (List.getElem_mem _)) wr (H.out.keep hB.out)
      unfold NS.nv at cS
      simp only [hpm.out] at cS
      have hnext := goes_take D 1 l i hi' hg.out
      obtain ⟨x, hx⟩ : ∃ x, l[i] = x := ⟨_, rfl⟩
      rw [hx] at ce cS hnext
      have n0 := hN.out.cell (j := 0) rfl
      have n1 := hN.out.cell (j := 1) rfl
      cases hst : step D m x with
      | error e =>
        rw [hst] at hnext cS
        have hall : goes D 1 l = .error e := by
          have := goes_stop D x (l.drop (i + 1)) (l.take (i + 1)) 1 e hnext
          rwa [List.take_append_drop] at this
        have he := W_hid (step_er hst)
        simp only [rv, er, NS.nv, IS.ptr] at cS
        have cS := W_hid cS
        have hall := W_hid hall
        have hne : (e == 0) = false := by simpa using he.out
        clear hst hnext hx hcell
        go_wp2_with fail
        refine cS.out.mono ?_
        rintro e' w1 ⟨rfl, b1⟩
        have r1 := (hR.out.keep b1).alloc (.cells #[.int .i64 0, .pointer none] 104)
        have c0 := r1.cell (j := 0) rfl
        have c1 := r1.cell (j := 1) rfl
        have f1 := r1.fz
        have N1 := W_hid ((r1.set 0 (.int .i64 0)).set 1 (.pointer none))
        have b2 : Below w.heap.size w w1 := hB.out.trans (b1.mono hB.out.size)
        have B2 := W_hid (((b2.alloc b2.size (.cells #[.int .i64 0, .pointer none] 104)).setCell (p := ⟨w.heap.size, 0, none⟩) (by simp) (.int .i64 0)).setCell (p := ⟨w.heap.size, 1, none⟩) (by simp) (.pointer none))
        clear b1 r1 b2 n0 n1 ce cS
        go_wp2_with fail
        refine bodyPost_ret (res_node Tryz.results90 _ _ rfl N1.out) rfl ?_
        refine ⟨?_, B2.out⟩
        rw [hall.out]
        rfl
      | ok m' =>
        rw [hst] at hnext cS
        obtain ⟨pm', hpm'⟩ := ptr_form (pa A m')
        simp only [rv, er, NS.nv, hpm'] at cS
        have cS := W_hid cS
        have hpm' := W_hid hpm'
        have hnext := W_hid hnext
        clear hst hx hcell
        go_wp2_with fail
        refine cS.out.mono ?_
        rintro e' w1 ⟨rfl, b1⟩
        have r1 := W_hid ((hR.out.keep b1).alloc (.cells #[.int .i64 m', .pointer pm'] 104))
        have q1 := (hN.out.keep b1).alloc (.cells #[.int .i64 m', .pointer pm'] 104)
        have c0 := q1.cell (j := 0) rfl
        have c1 := q1.cell (j := 1) rfl
        have f1 := q1.fz
        have N1 := W_hid ((q1.set 0 (.int .i64 m')).set 1 (.pointer pm'))
        have b2 : Below w.heap.size w w1 := hB.out.trans (b1.mono hB.out.size)
        have B2 := W_hid (((b2.alloc b2.size (.cells #[.int .i64 m', .pointer pm'] 104)).setCell (p := ⟨w.heap.size + 1, 0, none⟩) (by simp) (.int .i64 m')).setCell (p := ⟨w.heap.size + 1, 1, none⟩) (by simp) (.pointer pm'))
        have R2 := W_hid ((r1.out.far (p := ⟨w.heap.size + 1, 0, none⟩) (by simp) (.int .i64 m')).far (p := ⟨w.heap.size + 1, 1, none⟩) (by simp) (.pointer pm'))
        clear b1 r1 b2 n0 n1 ce cS q1
        go_wp2_with fail
        exact ⟨⟨i + 1, m', pm', by go_num, by omega, hnext, hpm', R2, N1, B2⟩, by simp [intOf]; omega⟩
    · obtain rfl : i = n := by omega
      have n0 := hN.out.cell (j := 0) rfl
      have n1 := hN.out.cell (j := 1) rfl
      have c0 := hR.out.cell (j := 0) rfl
      have c1 := hR.out.cell (j := 1) rfl
      have f1 := hR.out.fz
      have hall : goes D 1 l = .ok m := by
        have := hg.out
        rwa [List.take_of_length_le (by omega)] at this
      have hall := W_hid hall
      have N1 := W_hid ((hR.out.set 0 (.int .i64 m)).set 1 (.pointer pm))
      have B2 := W_hid ((hB.out.setCell (p := ⟨w.heap.size, 0, none⟩) (by simp) (.int .i64 m)).setCell (p := ⟨w.heap.size, 1, none⟩) (by simp) (.pointer pm))
      go_wp2_with fail
      refine bodyPost_ret (res_node Tryz.results90 _ _ rfl N1.out) rfl ?_
      refine ⟨?_, B2.out⟩
      rw [hall.out]
      simp only [rv, er, NS.nv, hpm.out]
      rfl

theorem find_er {D : Ds} {l : List ByteArray} {d : Bool} {e : Int} (h : find D l d = .error e) : e ≠ 0 := by
  unfold find at h
  split at h
  · rename_i e' he
    cases h
    exact goes_er he
  · split at h <;> cases h
    decide
theorem pa_none (h : TM base w tg sg mb A D) (n : Int) : (pa A n).isNone = decide (D n = none) := by
  have := h.dom n
  unfold pa
  cases hA : A n <;> cases hD : D n <;> simp_all

set_option maxRecDepth 100000 in
set_option maxHeartbeats 1000000 in
theorem none_nil (w : World) : Calls Tryz.prog 48 #[.pointer none] w fun e w' => e = .returned (.bool true) ∧ w' = w := by
  go_enter Tryz.func48, Tryz.ntmps48
  go_wp2_with fail
  go_ret
  exact ⟨rfl, rfl⟩
set_option maxRecDepth 100000 in
set_option maxHeartbeats 1000000 in
theorem none_some (w : World) (h : TM base w tg sg mb A D) : Calls Tryz.prog 48 #[.pointer (some ⟨tg, 0, none⟩)] w fun e w' => e = .returned (.bool false) ∧ Below w.heap.size w w' := by
  have c1 := h.box.cell (j := 1) rfl
  have c2 := h.box.cell (j := 2) rfl
  have hn := pa_none h 1
  have cF := fun w => isFile_any 1 (pa A 1) w
  rw [hn, decide_eq_false h.root] at cF
  obtain ⟨pp, hpp⟩ := ptr_form (pa A 1)
  simp only [hpp] at c2 cF
  replace cF := fun w => W_hid (cF w)
  clear h hn hpp
  go_enter Tryz.func48, Tryz.ntmps48
  go_wp2_with fail
  refine (cF _).out.mono ?_
  rintro e w1 ⟨rfl, b1⟩
  go_wp2_with fail
  go_ret
  exact ⟨rfl, b1⟩

/-- A path's value in a block of the call's own. -/
def bp (a : Bool) (ao : Option Addr) (n cap : Nat) (d : Bool) : Obj := .cells #[.bool a, .slice ao n cap, .bool d] 99

set_option maxRecDepth 100000 in
set_option maxHeartbeats 4000000 in
theorem find_any (a d : Bool) (l : List ByteArray) (ao : Option Addr) (n cap : Nat) (w : World) (h : TM base w tg sg mb A D) (hl : SS w ao n cap l) (hs : ∀ k ∈ l, NS.Sm k) :
    Calls Tryz.prog 50 #[.pointer (some ⟨tg, 0, none⟩), .agg #[.bool a, .slice ao n cap, .bool d]] w fun e w' => e = .returned (.tuple #[rv A (find D l d), .int .i64 (er (find D l d))]) ∧ Below w.heap.size w w' := by
  have b0 := new2 w (.cells #[.bool a, .slice ao n cap, .bool d] 99) (.cells #[.int .i64 0, .pointer none] 104)
  have cR := W_hid (resolve_any l ao n cap _ (h.keep b0) (hl.below b0 (Nat.le_refl _)) hs)
  have hpn := pa_none h
  have hp : Blk ((w.alloc (.cells #[.bool a, .slice ao n cap, .bool d] 99)).alloc (.cells #[.int .i64 0, .pointer none] 104)) w.heap.size 99 [.bool a, .slice ao n cap, .bool d] := (Blk.new _ _ _ rfl).alloc _
  clear h hl
  cases hg : goes D 1 l with
  | error e =>
    have hf : find D l d = .error e := by unfold find; rw [hg]
    rw [hg] at cR
    rw [hf]
    have hne : (e == 0) = false := by simpa using goes_er hg
    simp only [rv, er, NS.nv, IS.ptr] at cR ⊢
    clear hf hg hpn hp
    go_enter Tryz.func50, Tryz.ntmps50
    go_wp2_with fail
    refine cR.out.mono ?_
    rintro e' w1 ⟨rfl, b1⟩
    have n1 : Blk (w1.alloc (.cells #[.int .i64 0, .pointer none] 104)) (w.heap.size + 1) 104 [.int .i64 0, .pointer none] := ((Blk.new _ _ _ (by simp)).keep b1).alloc _
    have c0 := n1.cell (j := 0) rfl
    have c1 := n1.cell (j := 1) rfl
    have f1 := n1.fz
    have N1 := W_hid ((n1.set 0 (.int .i64 0)).set 1 (.pointer none))
    have b2 : Below w.heap.size w w1 := b0.trans (b1.mono b0.size)
    have B2 := W_hid (((b2.alloc b2.size (.cells #[.int .i64 0, .pointer none] 104)).setCell (p := ⟨w.heap.size + 1, 0, none⟩) (by simp) (.int .i64 0)).setCell (p := ⟨w.heap.size + 1, 1, none⟩) (by simp) (.pointer none))
    clear b1 n1 b2 cR b0
    go_wp2_with fail
    refine bodyPost_ret (res_node Tryz.results50 _ _ rfl N1.out) rfl ?_
    exact ⟨rfl, B2.out⟩
  | ok m =>
    rw [hg] at cR
    have hnp := hpn m
    obtain ⟨pm, hpm⟩ := ptr_form (pa A m)
    have cF := fun w => isFile_any m (pa A m) w
    rw [hnp] at cF
    simp only [rv, er, NS.nv, hpm] at cR cF
    replace cF := fun w => W_hid (cF w)
    have hfd : find D l d = if d = true ∧ D m = none then .error 13 else .ok m := by unfold find; rw [hg]
    clear hpn hnp hg
    have step1 : ∀ w1, Below _ _ w1 → Blk (w1.alloc (.cells #[.int .i64 m, .pointer pm] 104)) (w.heap.size + 1) 104 [.int .i64 0, .pointer none] ∧ Blk (w1.alloc (.cells #[.int .i64 m, .pointer pm] 104)) w.heap.size 99 [.bool a, .slice ao n cap, .bool d] ∧ Blk (w1.alloc (.cells #[.int .i64 m, .pointer pm] 104)) w1.heap.size 104 [.int .i64 m, .pointer pm] ∧ Below w.heap.size w (w1.alloc (.cells #[.int .i64 m, .pointer pm] 104)) := fun w1 b1 => by
      have b2 : Below w.heap.size w w1 := b0.trans (b1.mono b0.size)
      exact ⟨((Blk.new _ _ _ (by simp)).keep b1).alloc _, (hp.keep b1).alloc _, Blk.new _ _ _ rfl, b2.alloc b2.size _⟩
    replace step1 := W_hid step1
    replace hpm := W_hid hpm
    cases d with
    | false =>
      have hf : find D l false = .ok m := by rw [hfd]; simp
      rw [hf]
      simp only [rv, er, NS.nv]
      rw [hpm.out]
      clear hf hfd hp cF
      go_enter Tryz.func50, Tryz.ntmps50
      go_wp2_with fail
      refine cR.out.mono ?_
      rintro e' w1 ⟨rfl, b1⟩
      obtain ⟨n1, p1, q1, B1⟩ := step1.out w1 b1
      have c0 := n1.cell (j := 0) rfl
      have c1 := n1.cell (j := 1) rfl
      have f1 := n1.fz
      have p2 := p1.cell (j := 2) rfl
      have N1 := W_hid ((n1.set 0 (.int .i64 m)).set 1 (.pointer pm))
      have B2 := W_hid ((B1.setCell (p := ⟨w.heap.size + 1, 0, none⟩) (by simp) (.int .i64 m)).setCell (p := ⟨w.heap.size + 1, 1, none⟩) (by simp) (.pointer pm))
      clear b1 n1 p1 q1 B1 cR b0
      go_wp2_with fail
      refine bodyPost_ret (res_node Tryz.results50 _ _ rfl N1.out) rfl ?_
      exact ⟨rfl, B2.out⟩
    | true =>
      by_cases hD : D m = none
      · have hf : find D l true = .error 13 := by rw [hfd]; simp [hD]
        rw [decide_eq_true hD] at cF
        rw [hf]
        simp only [rv, er, NS.nv, IS.ptr]
        clear hf hfd hp hD
        go_enter Tryz.func50, Tryz.ntmps50
        go_wp2_with fail
        refine cR.out.mono ?_
        rintro e' w1 ⟨rfl, b1⟩
        obtain ⟨n1, p1, q1, B1⟩ := step1.out w1 b1
        have p2 := p1.cell (j := 2) rfl
        have q10 := q1.cell (j := 0) rfl
        have q11 := q1.cell (j := 1) rfl
        have n1 := W_hid n1
        have B1 := W_hid B1
        clear b1 p1 q1 cR b0
        go_wp2_with fail
        refine (cF _).out.mono ?_
        rintro e' w2 ⟨rfl, b2⟩
        have n2 := n1.out.keep b2
        have c0 := n2.cell (j := 0) rfl
        have c1 := n2.cell (j := 1) rfl
        have f1 := n2.fz
        have N1 := W_hid ((n2.set 0 (.int .i64 0)).set 1 (.pointer none))
        have B2 := W_hid (((B1.out.trans (b2.mono B1.out.size)).setCell (p := ⟨w.heap.size + 1, 0, none⟩) (by simp) (.int .i64 0)).setCell (p := ⟨w.heap.size + 1, 1, none⟩) (by simp) (.pointer none))
        clear b2 n2 n1
        go_wp2_with fail
        refine bodyPost_ret (res_node Tryz.results50 _ _ rfl N1.out) rfl ?_
        exact ⟨rfl, B2.out⟩
      · have hf : find D l true = .ok m := by rw [hfd]; simp [hD]
        rw [decide_eq_false hD] at cF
        rw [hf]
        simp only [rv, er, NS.nv]
        rw [hpm.out]
        clear hf hfd hp hD
        go_enter Tryz.func50, Tryz.ntmps50
        go_wp2_with fail
        refine cR.out.mono ?_
        rintro e' w1 ⟨rfl, b1⟩
        obtain ⟨n1, p1, q1, B1⟩ := step1.out w1 b1
        have p2 := p1.cell (j := 2) rfl
        have q10 := q1.cell (j := 0) rfl
        have q11 := q1.cell (j := 1) rfl
        have n1 := W_hid n1
        have B1 := W_hid B1
        have Q1 := W_hid q1
        clear b1 p1 q1 cR b0
        go_wp2_with fail
        refine (cF _).out.mono ?_
        rintro e' w2 ⟨rfl, b2⟩
        have n2 := n1.out.keep b2
        have c0 := n2.cell (j := 0) rfl
        have c1 := n2.cell (j := 1) rfl
        have f1 := n2.fz
        have q2 := Q1.out.keep b2
        have q20 := q2.cell (j := 0) rfl
        have q21 := q2.cell (j := 1) rfl
        have N1 := W_hid ((n2.set 0 (.int .i64 m)).set 1 (.pointer pm))
        have B2 := W_hid (((B1.out.trans (b2.mono B1.out.size)).setCell (p := ⟨w.heap.size + 1, 0, none⟩) (by simp) (.int .i64 m)).setCell (p := ⟨w.heap.size + 1, 1, none⟩) (by simp) (.pointer pm))
        clear b2 n2 n1 q2
        go_wp2_with fail
        refine bodyPost_ret (res_node Tryz.results50 _ _ rfl N1.out) rfl ?_
        exact ⟨rfl, B2.out⟩
end
end NT
end Go.Proofs.YtbloiilinofklaaGreat

/- Contracts of package names' places: target, place, vacant. -/
namespace Go.Proofs.YtbloiilinofklaaGreat
open Go.ChangeShapes Go.WideShapes Go.ChangeAt Go.RowKit Go.Maps
set_option linter.unusedVariables false
set_option linter.unusedSimpArgs false
namespace NT
open IN (Keeps)

/-- A slice of strings cut behind. -/
theorem wpList_takeS {P : Program} {w : World} {ops : Array Oper} {rest : List Oper} {o : Oper} {a : Act} {Q : Exit → Act → World → Prop} (hg : o.guard = none) (x hi : Operand) (t : TypeId) (hop : o.op = Op.slice t x none (some hi) none)
    (ht : P.underlying t = some (.slice (P.elem t))) (hs : (sizeOf (P.elem t)).run P w = .ok 1 w)
    (ao : Option Addr) (n cap : Nat) (l : List ByteArray) (hx : a.eval x = .slice ao n cap) (hb : SS w ao n cap l) (kh : IntKind) (z : Int) (H : Nat) (hh : a.eval hi = .int kh z) (hz : z = (H : Int)) (h2 : H ≤ n) (hn : 0 < n)
    (hK : SS w ao H cap (l.take H) → wpList P ops Q rest (a.put o.dst (.slice ao H cap)) w) :
    wpList P ops Q (o :: rest) a w := by
  subst hz
  refine wpList_plain hg fun K hK' => ?_
  have hcap := hb.2.1
  obtain ⟨blk, off, rfl, -⟩ := hb.at_ hn
  have hrun := run_slice_h (P := P) w t (some ⟨blk, off, none⟩) n cap ht kh (H : Int) (by omega) (by omega)
  rw [hs] at hrun
  simp only [Result.andThen, sliced, Int.toNat_natCast] at hrun
  have hrun2 : (Instr.sliceAt t (.slice (some ⟨blk, off, none⟩) n cap) none (some (.int kh (H : Int))) none).run P w = .ok (.slice (some ⟨blk, off, none⟩) H cap) w := by
    rw [run_sliceAt_slice (P := P) w t _ _ _ _ ht, hrun]
    have : ¬ cap = 0 := by omega
    simp [this, Addr.add]
  unfold Oper.wp
  simp only [execOp, hop, hx, hh, Option.map_some, Option.map_none, hrun2, Sem.run_bind, Sem.run_pure, Result.andThen, Oper.upon]
  refine hK' _ _ (hK ⟨by rw [List.length_take, hb.1]; omega, by omega, hb.2.2.1, fun h => (by cases h), fun a' ha j u hu => hb.2.2.2.2 a' ha j u ?_⟩)
  unfold scl at hu ⊢
  rw [List.map_take, List.getElem?_take] at hu
  split at hu
  · exact hu
  · cases hu

/-- A place as a value. -/
def plv (n : Int) (x : Option Nat) (k : ByteArray) (d : Bool) : Value := .agg #[.int .i64 n, IS.ptr x, .string k, .bool d]
def last (l : List ByteArray) : ByteArray := l.getD (l.length - 1) ByteArray.empty
/-- A place, if its name stands a check. -/
def placeC (D : Ds) (l : List ByteArray) (r : Int) (c : Int → Int) : Except Int Int := match place D l r with
  | .error e => .error e
  | .ok n => if c n = 0 then .ok n else .error (c n)
def pv (A : Int → Option (Nat × Nat)) (l : List ByteArray) (d : Bool) : Except Int Int → Value
  | .ok n => plv n (pa A n) (last l) d
  | .error _ => .agg #[.int .i64 0, .pointer none, .string ByteArray.empty, .bool false]

set_option maxRecDepth 100000 in
set_option maxHeartbeats 2000000 in
theorem target_any (n : Int) (g m : Nat) (u : Int) (pu : Option Nat) (M : ByteArray → Option (Int × Option Nat)) (k : ByteArray) (d : Bool) (hk : NS.Sm k) (w : World) (h : DB w g u pu m M) :
    Calls Tryz.prog 65 #[.agg #[.int .i64 n, .pointer (some ⟨g, 0, none⟩), .string k, .bool d]] w fun e w' => e = .returned (.tuple #[NS.nv ((M k).getD (0, none)), .bool (M k).isSome]) ∧ Below w.heap.size w w' := by
  have b0 := new2 w (.cells #[.int .i64 n, .pointer (some ⟨g, 0, none⟩), .string k, .bool d] 110) (.cells #[.int .i64 0, .pointer none] 104)
  have cG := W_hid (get_any g m u pu M k hk _ (h.keep b0))
  obtain ⟨r, hr⟩ : ∃ r, (M k).getD (0, none) = r := ⟨_, rfl⟩
  obtain ⟨b, hbb⟩ : ∃ b, (M k).isSome = b := ⟨_, rfl⟩
  rw [hr, hbb] at cG
  rw [hr, hbb]
  obtain ⟨r1, r2⟩ := r
  obtain ⟨pp, hpp⟩ := ptr_form r2
  simp only [NS.nv, hpp] at cG ⊢
  clear h hr hbb hpp
  go_enter Tryz.func65, Tryz.ntmps65
  go_wp2_with fail
  refine cG.out.mono ?_
  rintro e w1 ⟨rfl, b1⟩
  have n1 : Blk w1 (w.heap.size + 1) 104 [.int .i64 0, .pointer none] := (Blk.new _ _ _ (by simp)).keep b1
  have c0 := n1.cell (j := 0) rfl
  have c1 := n1.cell (j := 1) rfl
  have f1 := n1.fz
  have N1 := W_hid ((n1.set 0 (.int .i64 r1)).set 1 (.pointer pp))
  have B2 := W_hid (((b0.trans (b1.mono b0.size)).setCell (p := ⟨w.heap.size + 1, 0, none⟩) (by simp) (.int .i64 r1)).setCell (p := ⟨w.heap.size + 1, 1, none⟩) (by simp) (.pointer pp))
  clear b1 n1 cG b0
  go_wp2_with fail
  refine bodyPost_ret (res_node Tryz.results65 _ _ rfl N1.out) rfl ?_
  exact ⟨rfl, B2.out⟩

/-- A result that is a place in memory, beside another one. -/
theorem res_place {fn : Func} {r t : Tmp} (hres : fn.results = #[.cell r 110, .tmp t]) (tmps : Array Value) (w : World) {g : Nat} {n p k d : Value} (hr : tmps.getD r undef = .pointer (some ⟨g, 0, none⟩)) (h : Blk w g 110 [n, p, k, d]) :
    (results fn tmps).run Tryz.prog w = .ok (.tuple #[.agg #[n, p, k, d], tmps.getD t undef]) w := by
  have h0 := h.cell (j := 0) rfl
  have h1 := h.cell (j := 1) rfl
  have h2 := h.cell (j := 2) rfl
  have h3 := h.cell (j := 3) rfl
  rw [Array.getD_eq_getD_getElem?] at hr
  simp [results, hres, go_sem, hr, h0, h1, h2, h3]
theorem blk_set4 {w : World} {g : Nat} {e : TypeId} {a b c d a' b' c' d' : Value} (h : Blk w g e [a, b, c, d]) : Blk ((((w.setCell ⟨g, 0, none⟩ a').setCell ⟨g, 1, none⟩ b').setCell ⟨g, 2, none⟩ c').setCell ⟨g, 3, none⟩ d') g e [a', b', c', d'] :=
  (((h.set 0 a').set 1 b').set 2 c').set 3 d'
theorem below4 {w w' : World} {B g : Nat} (h : Below B w w') (hg : B ≤ g) (a b c d : Value) : Below B w ((((w'.setCell ⟨g, 0, none⟩ a).setCell ⟨g, 1, none⟩ b).setCell ⟨g, 2, none⟩ c).setCell ⟨g, 3, none⟩ d) :=
  (((h.setCell (p := ⟨g, 0, none⟩) hg a).setCell (p := ⟨g, 1, none⟩) hg b).setCell (p := ⟨g, 2, none⟩) hg c).setCell (p := ⟨g, 3, none⟩) hg d

section
variable {base : Nat} {w w' : World} {tg sg mb : Nat} {A : Int → Option (Nat × Nat)} {D : Ds}
set_option maxRecDepth 100000 in
set_option maxHeartbeats 4000000 in
/-- A path without names. -/
theorem place_none (a d : Bool) (r : Int) (t : Value) (ao : Option Addr) (cap : Nat) (k : Fn) (fi lb : Array Value) (w : World) :
    Calls Tryz.prog 52 #[t, .agg #[.bool a, .slice ao 0 cap, .bool d], .int .i64 r, .func k fi lb] w fun e w' => e = .returned (.tuple #[.agg #[.int .i64 0, .pointer none, .string ByteArray.empty, .bool false], .int .i64 r]) ∧ Below w.heap.size w w' := by
  go_enter Tryz.func52, Tryz.ntmps52
  go_wp2_with fail
  exact bodyPost_ret (res_place Tryz.results52 _ _ rfl (Blk.new _ _ [.int .i64 0, .pointer none, .string ByteArray.empty, .bool false] (by simp))) rfl ⟨rfl, new2 _ _ _⟩

theorem strs_elem : Tryz.prog.underlying 97 = some (.slice (Tryz.prog.elem 97)) := by kernel_rfl
theorem strs_size (w : World) : (sizeOf (Tryz.prog.elem 97)).run Tryz.prog w = .ok 1 w := by kernel_rfl
theorem SS_last {w : World} {ao : Option Addr} {n cap : Nat} {l : List ByteArray} (h : SS w ao n cap l) (hn : 0 < n) : ∃ blk off, ao = some ⟨blk, off, none⟩ ∧ w.cell? ⟨blk, off + (n - 1), none⟩ = some (.string (last l)) := by
  obtain ⟨blk, off, e, hc⟩ := h.at_ hn
  refine ⟨blk, off, e, ?_⟩
  have h1 := h.1
  rw [hc (n - 1) (by omega)]
  have hlt : n - 1 < l.length := by omega
  have e2 : last l = l[n - 1] := by
    unfold last
    have : l.length - 1 = n - 1 := by omega
    rw [this, List.getD_eq_getElem?_getD, List.getElem?_eq_getElem hlt]
    rfl
  rw [e2]

set_option maxRecDepth 100000 in
set_option maxHeartbeats 4000000 in
/-- The directory isn't there. -/
theorem place_no (a d : Bool) (r : Int) (l : List ByteArray) (ao : Option Addr) (n cap : Nat) (k : Fn) (fi lb : Array Value) (w : World) (h : TM base w tg sg mb A D) (hl : SS w ao n cap l) (hn : 0 < n) (hs : ∀ k ∈ l, NS.Sm k) (e : Int) (hp : place D l r = .error e) :
    Calls Tryz.prog 52 #[.pointer (some ⟨tg, 0, none⟩), .agg #[.bool a, .slice ao n cap, .bool d], .int .i64 r, .func k fi lb] w fun e' w' => e' = .returned (.tuple #[.agg #[.int .i64 0, .pointer none, .string ByteArray.empty, .bool false], .int .i64 e]) ∧ Below w.heap.size w w' := by
  have b0 := new2 w (.cells #[.bool a, .slice ao n cap, .bool d] 99) (.cells #[.int .i64 0, .pointer none, .string ⟨#[]⟩, .bool false] 110)
  have hlim : n ≤ 9223372036854775807 := by have := hl.2.1; have := hl.2.2.1; unfold maxLen at *; omega
  have hlen := hl.1
  have hl0 := hl.below b0 (Nat.le_refl _)
  have HL := W_hid hl0
  have cR := W_hid (fun (hl1 : SS _ ao (n - 1) cap (l.take (n - 1))) => resolve_any (l.take (n - 1)) ao (n - 1) cap _ (h.keep b0) hl1 (fun k hk => hs k (List.mem_of_mem_take hk)))
  have hdl : l.dropLast = l.take (n - 1) := by rw [List.dropLast_eq_take, hlen]
  have hpn := pa_none h
  have hne : ¬ l = [] := fun e => by rw [e] at hlen; simp at hlen; omega
  unfold place at hp
  rw [if_neg hne, hdl] at hp
  clear h hl hl0 hdl hs
  cases hg : goes D 1 (l.take (n - 1)) with
  | error e1 =>
    rw [hg] at hp cR
    simp only [Except.error.injEq] at hp
    subst hp
    have hne : (e1 == 0) = false := by simpa using goes_er hg
    simp only [rv, er, NS.nv, IS.ptr] at cR
    clear hg hpn
    go_enter Tryz.func52, Tryz.ntmps52
    go_wp2_with (with_reducible show wpList _ _ _ _ _ _; (refine wpList_takeS rfl (.tmp 26) (.tmp 27) 97 rfl strs_elem (strs_size _) ao n cap l rfl HL.out .i64 _ (n - 1) rfl (by omega) (by omega) hn ?_); intro hl1; have cR1 := W_hid (cR.out hl1); clear hl1)
    refine cR1.out.mono ?_
    rintro e' w1 ⟨rfl, b1⟩
    have n1 : Blk (w1.alloc (.cells #[.int .i64 0, .pointer none] 104)) (w.heap.size + 1) 110 [.int .i64 0, .pointer none, .string ⟨#[]⟩, .bool false] := ((Blk.new _ _ _ (by simp)).keep b1).alloc _
    have c0 := n1.cell (j := 0) rfl
    have c1 := n1.cell (j := 1) rfl
    have c2 := n1.cell (j := 2) rfl
    have c3 := n1.cell (j := 3) rfl
    have f1 := n1.fz
    have N1 := W_hid (blk_set4 n1 (a' := .int .i64 0) (b' := .pointer none) (c' := .string ⟨#[]⟩) (d' := .bool false))
    have b2 : Below w.heap.size w w1 := b0.trans (b1.mono b0.size)
    have B2 := W_hid (below4 (b2.alloc b2.size (.cells #[.int .i64 0, .pointer none] 104)) (g := w.heap.size + 1) (by simp) (.int .i64 0) (.pointer none) (.string ⟨#[]⟩) (.bool false))
    clear b1 n1 b2 cR cR1 b0
    go_wp2_with fail
    exact bodyPost_ret (res_place Tryz.results52 _ _ rfl N1.out) rfl ⟨rfl, B2.out⟩
  | ok m =>
    rw [hg] at hp cR
    simp only at hp
    by_cases hD : D m = none
    · rw [if_pos hD] at hp
      simp only [Except.error.injEq] at hp
      subst hp
      have cF := fun w => isFile_any m (pa A m) w
      rw [hpn m, decide_eq_true hD] at cF
      obtain ⟨pm, hpm⟩ := ptr_form (pa A m)
      simp only [rv, er, NS.nv, hpm] at cR cF
      replace cF := fun w => W_hid (cF w)
      clear hg hpn hD hpm
      go_enter Tryz.func52, Tryz.ntmps52
      go_wp2_with (with_reducible show wpList _ _ _ _ _ _; (refine wpList_takeS rfl (.tmp 26) (.tmp 27) 97 rfl strs_elem (strs_size _) ao n cap l rfl HL.out .i64 _ (n - 1) rfl (by omega) (by omega) hn ?_); intro hl1; have cR1 := W_hid (cR.out hl1); clear hl1)
      refine cR1.out.mono ?_
      rintro e' w1 ⟨rfl, b1⟩
      have n1 : Blk (w1.alloc (.cells #[.int .i64 m, .pointer pm] 104)) (w.heap.size + 1) 110 [.int .i64 0, .pointer none, .string ⟨#[]⟩, .bool false] := ((Blk.new _ _ _ (by simp)).keep b1).alloc _
      have b2 : Below w.heap.size w w1 := b0.trans (b1.mono b0.size)
      have B2 := W_hid (b2.alloc b2.size (.cells #[.int .i64 m, .pointer pm] 104))
      have n1 := W_hid n1
      clear b1 b2 cR cR1 b0
      go_wp2_with fail
      refine (cF _).out.mono ?_
      rintro e' w2 ⟨rfl, b2⟩
      have n2 := n1.out.keep b2
      have c0 := n2.cell (j := 0) rfl
      have c1 := n2.cell (j := 1) rfl
      have c2 := n2.cell (j := 2) rfl
      have c3 := n2.cell (j := 3) rfl
      have f1 := n2.fz
      have N1 := W_hid (blk_set4 n2 (a' := .int .i64 0) (b' := .pointer none) (c' := .string ⟨#[]⟩) (d' := .bool false))
      have B3 := W_hid (below4 (B2.out.trans (b2.mono B2.out.size)) (g := w.heap.size + 1) (by simp) (.int .i64 0) (.pointer none) (.string ⟨#[]⟩) (.bool false))
      clear b2 n2 n1
      go_wp2_with fail
      exact bodyPost_ret (res_place Tryz.results52 _ _ rfl N1.out) rfl ⟨rfl, B3.out⟩
    · rw [if_neg hD] at hp
      cases hp

set_option maxRecDepth 100000 in
set_option maxHeartbeats 4000000 in
/-- The directory is there: its check decides. -/
theorem place_yes (a d : Bool) (r : Int) (l : List ByteArray) (ao : Option Addr) (n cap : Nat) (k : Nat) (lb : Array Value) (w : World) (h : TM base w tg sg mb A D) (hl : SS w ao n cap l) (hn : 0 < n) (hs : ∀ k ∈ l, NS.Sm k) (m : Int) (hp : place D l r = .ok m)
    (ek : ∀ args w, (callFunc k args).run Tryz.prog w = .ok (.enter k args) w) (c : Int) (hc : ∀ W, Below w.heap.size w W → Calls Tryz.prog k (#[plv m (pa A m) (last l) d] ++ lb) W fun e W' => e = .returned (.int .i64 c) ∧ Below W.heap.size W W') :
    Calls Tryz.prog 52 #[.pointer (some ⟨tg, 0, none⟩), .agg #[.bool a, .slice ao n cap, .bool d], .int .i64 r, .func (.func k) #[] lb] w fun e' w' => e' = .returned (.tuple #[if c = 0 then plv m (pa A m) (last l) d else .agg #[.int .i64 0, .pointer none, .string ByteArray.empty, .bool false], .int .i64 c]) ∧ Below w.heap.size w w' := by
  have b0 := new2 w (.cells #[.bool a, .slice ao n cap, .bool d] 99) (.cells #[.int .i64 0, .pointer none, .string ⟨#[]⟩, .bool false] 110)
  have hlim : n ≤ 9223372036854775807 := by have := hl.2.1; have := hl.2.2.1; unfold maxLen at *; omega
  have hlen := hl.1
  have hl0 := hl.below b0 (Nat.le_refl _)
  obtain ⟨blk, off, rfl, hlast⟩ := SS_last hl0 hn
  have HL := W_hid hl0
  have cR := W_hid (fun (hl1 : SS _ (some ⟨blk, off, none⟩) (n - 1) cap (l.take (n - 1))) => resolve_any (l.take (n - 1)) (some ⟨blk, off, none⟩) (n - 1) cap _ (h.keep b0) hl1 (fun k hk => hs k (List.mem_of_mem_take hk)))
  have hdl : l.dropLast = l.take (n - 1) := by rw [List.dropLast_eq_take, hlen]
  have hpn := pa_none h
  have hne : ¬ l = [] := fun e => by rw [e] at hlen; simp at hlen; omega
  unfold place at hp
  rw [if_neg hne, hdl] at hp
  clear h hl hl0 hdl hs
  have hg : goes D 1 (l.take (n - 1)) = .ok m ∧ ¬ D m = none := by
    cases hg : goes D 1 (l.take (n - 1)) with
    | error e1 => rw [hg] at hp; cases hp
    | ok m' =>
      rw [hg] at hp
      simp only at hp
      by_cases hD : D m' = none
      · rw [if_pos hD] at hp; cases hp
      · rw [if_neg hD] at hp
        cases hp
        exact ⟨rfl, hD⟩
  obtain ⟨hg, hD⟩ := hg
  rw [hg] at cR
  have cF := fun w => isFile_any m (pa A m) w
  rw [hpn m, decide_eq_false hD] at cF
  obtain ⟨pm, hpm⟩ := ptr_form (pa A m)
  obtain ⟨z, hz⟩ : ∃ z, last l = z := ⟨_, rfl⟩
  unfold plv at hc ⊢
  rw [hz] at hlast hc ⊢
  simp only [rv, er, NS.nv, hpm] at cR cF hc ⊢
  replace cF := fun w => W_hid (cF w)
  replace hc := W_hid hc
  replace ek := W_hid ek
  have hn1 : (n : Int) - 1 = ((n - 1 : Nat) : Int) := by omega
  clear hg hpn hD hpm hp hz
  go_enter Tryz.func52, Tryz.ntmps52
  go_wp2_with (with_reducible show wpList _ _ _ _ _ _; (refine wpList_takeS rfl (.tmp 26) (.tmp 27) 97 rfl strs_elem (strs_size _) (some ⟨blk, off, none⟩) n cap l rfl HL.out .i64 _ (n - 1) rfl (by omega) (by omega) hn ?_); intro hl1; have cR1 := W_hid (cR.out hl1); clear hl1)
  refine cR1.out.mono ?_
  rintro e' w1 ⟨rfl, b1⟩
  have n1 : Blk (w1.alloc (.cells #[.int .i64 m, .pointer pm] 104)) (w.heap.size + 1) 110 [.int .i64 0, .pointer none, .string ⟨#[]⟩, .bool false] := ((Blk.new _ _ _ (by simp)).keep b1).alloc _
  have p1 : Blk (w1.alloc (.cells #[.int .i64 m, .pointer pm] 104)) w.heap.size 99 [.bool a, .slice (some ⟨blk, off, none⟩) n cap, .bool d] := (((Blk.new _ _ _ rfl).alloc _).keep b1).alloc _
  have q1 : Blk (w1.alloc (.cells #[.int .i64 m, .pointer pm] 104)) w1.heap.size 104 [.int .i64 m, .pointer pm] := Blk.new _ _ _ rfl
  have hlast1 : w1.cell? ⟨blk, off + (n - 1), none⟩ = some (.string z) := by
    rw [b1.cell (World.block_lt_of_cell? _ _ hlast)]
    exact hlast
  have hlast1a : (w1.alloc (.cells #[.int .i64 m, .pointer pm] 104)).cell? ⟨blk, off + (n - 1), none⟩ = some (.string z) := by
    rw [((Below.refl w1.heap.size w1).alloc (Nat.le_refl _) _).cell (World.block_lt_of_cell? _ _ hlast1)]
    exact hlast1
  have b2 : Below w.heap.size w w1 := b0.trans (b1.mono b0.size)
  have B2 := W_hid (b2.alloc b2.size (.cells #[.int .i64 m, .pointer pm] 104))
  have n1 := W_hid n1
  have p1 := W_hid p1
  have q1 := W_hid q1
  have hl2 := W_hid hlast1a
  clear b1 b2 cR cR1 b0 hlast1 hlast1a hlast
  go_wp2_with fail
  refine (cF _).out.mono ?_
  rintro e' w2 ⟨rfl, b2⟩
  have n2 := n1.out.keep b2
  have p2 := p1.out.keep b2
  have q2 := q1.out.keep b2
  have hl3 : w2.cell? ⟨blk, off + (n - 1), none⟩ = some (.string z) := by
    rw [b2.cell (World.block_lt_of_cell? _ _ hl2.out)]
    exact hl2.out
  have pc1 := p2.cell (j := 1) rfl
  have pc2 := p2.cell (j := 2) rfl
  have qc0 := q2.cell (j := 0) rfl
  have qc1 := q2.cell (j := 1) rfl
  have pc1a := fun o => (p2.alloc o).cell (j := 1) rfl
  have pc2a := fun o => (p2.alloc o).cell (j := 2) rfl
  have qc0a := fun o => (q2.alloc o).cell (j := 0) rfl
  have qc1a := fun o => (q2.alloc o).cell (j := 1) rfl
  have hl3a : ∀ o, (w2.alloc o).cell? ⟨blk, off + (n - 1), none⟩ = some (.string z) := fun o => by
    rw [((Below.refl w2.heap.size w2).alloc (Nat.le_refl _) o).cell (World.block_lt_of_cell? _ _ hl3)]
    exact hl3
  have hb1 : n - 1 < n := by omega
  have B3 := W_hid (B2.out.trans (b2.mono B2.out.size))
  have n2 := W_hid n2
  clear b2 n1 p1 q1 p2 q2 hl2 B2
  go_wp2_with fail
  go_region
  obtain ⟨W, hW⟩ : ∃ W, (w2.alloc (.cells #[.int .i64 m, .pointer pm, .string z, .bool d] 110)).drew = W := ⟨_, rfl⟩
  have n3 : Blk W (w.heap.size + 1) 110 [.int .i64 0, .pointer none, .string ⟨#[]⟩, .bool false] := by rw [← hW]; exact n2.out.alloc _
  have q3 : Blk W w2.heap.size 110 [.int .i64 m, .pointer pm, .string z, .bool d] := by rw [← hW]; exact Blk.new w2 _ _ rfl
  have B4 : Below w.heap.size w W := by rw [← hW]; exact ((B3.out).alloc B3.out.size _).drew
  rw [hW]
  have r0 := q3.cell (j := 0) rfl
  have r1 := q3.cell (j := 1) rfl
  have r2 := q3.cell (j := 2) rfl
  have r3 := q3.cell (j := 3) rfl
  have cC := W_hid (hc.out W B4)
  have n3 := W_hid n3
  have q3 := W_hid q3
  have B4 := W_hid B4
  have hcf := fun w => ek.out (#[.agg #[.int .i64 m, .pointer pm, .string z, .bool d]] ++ lb) w
  clear hl3 hl3a pc1 pc1a pc2 pc2a qc0 qc0a qc1 qc1a n2 B3 hc ek
  go_wp2_with fail
  refine cC.out.mono ?_
  rintro e' w4 ⟨rfl, b4⟩
  have q4 := q3.out.keep b4
  have n4 := n3.out.keep b4
  have s0 := q4.cell (j := 0) rfl
  have s1 := q4.cell (j := 1) rfl
  have s2 := q4.cell (j := 2) rfl
  have s3 := q4.cell (j := 3) rfl
  have c0 := n4.cell (j := 0) rfl
  have c1 := n4.cell (j := 1) rfl
  have c2 := n4.cell (j := 2) rfl
  have c3 := n4.cell (j := 3) rfl
  have f4 := n4.fz
  by_cases hc0 : c = 0
  · subst hc0
    have N1 := W_hid (blk_set4 n4 (a' := .int .i64 m) (b' := .pointer pm) (c' := .string z) (d' := .bool d))
    have B5 := W_hid (below4 (B4.out.trans (b4.mono B4.out.size)) (g := w.heap.size + 1) (by simp) (.int .i64 m) (.pointer pm) (.string z) (.bool d))
    clear b4 q4 n4 n3 q3 cC
    go_wp2_with fail
    exact bodyPost_ret (res_place Tryz.results52 _ _ rfl N1.out) rfl ⟨rfl, B5.out⟩
  · have hne2 : (c == 0) = false := by simpa using hc0
    have N1 := W_hid (blk_set4 n4 (a' := .int .i64 0) (b' := .pointer none) (c' := .string ⟨#[]⟩) (d' := .bool false))
    have B5 := W_hid (below4 (B4.out.trans (b4.mono B4.out.size)) (g := w.heap.size + 1) (by simp) (.int .i64 0) (.pointer none) (.string ⟨#[]⟩) (.bool false))
    have hc0 := W_hid hc0
    clear b4 q4 n4 n3 q3 cC
    go_wp2_with fail
    refine bodyPost_ret (res_place Tryz.results52 _ _ rfl N1.out) rfl ⟨?_, B5.out⟩
    first
      | rfl
      | (rw [if_neg hc0.out]; rfl)

theorem place_er {D : Ds} {l : List ByteArray} {r e : Int} (h : place D l r = .error e) : e = r ∨ e ≠ 0 := by
  unfold place at h
  split at h
  · cases h; exact .inl rfl
  · split at h
    · rename_i e' he
      cases h
      exact .inr (goes_er he)
    · split at h <;> cases h
      exact .inr (by decide)
/-- A path's place, whatever it is. -/
theorem place_all (a d : Bool) (r : Int) (l : List ByteArray) (ao : Option Addr) (n cap : Nat) (k : Nat) (lb : Array Value) (w : World) (h : TM base w tg sg mb A D) (hl : SS w ao n cap l) (hs : ∀ k ∈ l, NS.Sm k)
    (ek : ∀ args w, (callFunc k args).run Tryz.prog w = .ok (.enter k args) w) (c : Int → Int) (hc : ∀ m, place D l r = .ok m → ∀ W, Below w.heap.size w W → Calls Tryz.prog k (#[plv m (pa A m) (last l) d] ++ lb) W fun e W' => e = .returned (.int .i64 (c m)) ∧ Below W.heap.size W W') :
    Calls Tryz.prog 52 #[.pointer (some ⟨tg, 0, none⟩), .agg #[.bool a, .slice ao n cap, .bool d], .int .i64 r, .func (.func k) #[] lb] w fun e' w' => e' = .returned (.tuple #[pv A l d (placeC D l r c), .int .i64 (er (placeC D l r c))]) ∧ Below w.heap.size w w' := by
  by_cases hn : n = 0
  · have hl0 : l = [] := List.eq_nil_of_length_eq_zero (by rw [hl.1, hn])
    subst hn hl0
    exact (place_none a d r _ ao cap (.func k) #[] lb w).mono fun e w' h => h
  · cases hp : place D l r with
    | error e =>
      have e1 : placeC D l r c = .error e := by unfold placeC; rw [hp]
      rw [e1]
      exact place_no a d r l ao n cap (.func k) #[] lb w h hl (by omega) hs e hp
    | ok m =>
      have cc := place_yes a d r l ao n cap k lb w h hl (by omega) hs m hp ek (c m) (hc m hp)
      by_cases h0 : c m = 0
      · have e1 : placeC D l r c = .ok m := by unfold placeC; rw [hp]; simp [h0]
        rw [e1]
        rw [if_pos h0, h0] at cc
        exact cc
      · have e1 : placeC D l r c = .error (c m) := by unfold placeC; rw [hp]; simp [h0]
        rw [e1]
        rw [if_neg h0] at cc
        exact cc
end
end NT
end Go.Proofs.YtbloiilinofklaaGreat

namespace Go.Proofs.YtbloiilinofklaaGreat
open Go.ChangeShapes Go.WideShapes Go.ChangeAt Go.RowKit Go.Maps
set_option linter.unusedVariables false
set_option linter.unusedSimpArgs false
namespace NT
open IN (Keeps)
/-- Why a name may not be made. -/
def vacR (M : ByteArray → Option (Int × Option Nat)) (k : ByteArray) (kind : Int) (d : Bool) : Int := if (M k).isSome = true ∨ PM.name k = false then 12 else if kind = 1 ∧ d = true then 14 else 0

set_option maxRecDepth 100000 in
set_option maxHeartbeats 4000000 in
theorem vac1_any (n : Int) (g m kb : Nat) (u : Int) (pu : Option Nat) (M : ByteArray → Option (Int × Option Nat)) (k : ByteArray) (d : Bool) (kind : Int) (hk : NS.Sm k) (w : World) (h : DB w g u pu m M) (hkb : w.cell? ⟨kb, 0, none⟩ = some (.int .i64 kind)) :
    Calls Tryz.prog 99 #[.agg #[.int .i64 n, .pointer (some ⟨g, 0, none⟩), .string k, .bool d], .pointer (some ⟨kb, 0, none⟩)] w fun e w' => e = .returned (.int .i64 (vacR M k kind d)) ∧ Below w.heap.size w w' := by
  have b0 : Below w.heap.size w (w.alloc (.cells #[.int .i64 n, .pointer (some ⟨g, 0, none⟩), .string k, .bool d] 110)) := (Below.refl _ w).alloc (Nat.le_refl _) _
  have cT := W_hid (target_any n g m u pu M k d hk _ (h.keep b0))
  have cN := fun w => IsName_any k w hk
  have hp : Blk (w.alloc (.cells #[.int .i64 n, .pointer (some ⟨g, 0, none⟩), .string k, .bool d] 110)) w.heap.size 110 [.int .i64 n, .pointer (some ⟨g, 0, none⟩), .string k, .bool d] := Blk.new _ _ _ rfl
  have hv := W_hid (show vacR M k kind d = _ from rfl)
  obtain ⟨r, hr⟩ : ∃ r, (M k).getD (0, none) = r := ⟨_, rfl⟩
  obtain ⟨b, hbb⟩ : ∃ b, (M k).isSome = b := ⟨_, rfl⟩
  obtain ⟨y, hy⟩ : ∃ y, PM.name k = y := ⟨_, rfl⟩
  rw [hr, hbb] at cT
  rw [hy] at cN
  replace cN := fun w => W_hid (cN w)
  unfold vacR
  rw [hbb, hy]
  obtain ⟨r1, r2⟩ := r
  obtain ⟨pp, hpp⟩ := ptr_form r2
  simp only [NS.nv, hpp] at cT
  have fin : ∀ w1 : World, Below _ (w.alloc (.cells #[.int .i64 n, .pointer (some ⟨g, 0, none⟩), .string k, .bool d] 110)) w1 → Blk (w1.alloc (.cells #[.int .i64 r1, .pointer pp] 104)) w.heap.size 110 [.int .i64 n, .pointer (some ⟨g, 0, none⟩), .string k, .bool d] ∧ (w1.alloc (.cells #[.int .i64 r1, .pointer pp] 104)).cell? ⟨kb, 0, none⟩ = some (.int .i64 kind) ∧ Below w.heap.size w (w1.alloc (.cells #[.int .i64 r1, .pointer pp] 104)) := fun w1 b1 => by
    have b2 : Below w.heap.size w w1 := b0.trans (b1.mono b0.size)
    refine ⟨(hp.keep b1).alloc _, ?_, b2.alloc b2.size _⟩
    rw [(b2.alloc b2.size _).cell (World.block_lt_of_cell? _ _ hkb)]
    exact hkb
  replace fin := W_hid fin
  clear h hr hbb hpp hp b0 hkb hy hv
  go_enter Tryz.func99, Tryz.ntmps99
  go_wp2_with fail
  refine cT.out.mono ?_
  rintro e w1 ⟨rfl, b1⟩
  obtain ⟨p1, k1, B1⟩ := fin.out w1 b1
  have c1 := p1.cell (j := 1) rfl
  have c2 := p1.cell (j := 2) rfl
  have c3 := p1.cell (j := 3) rfl
  have B1 := W_hid B1
  clear p1 b1 cT fin
  cases b with
  | true =>
    go_wp2_with fail
    go_ret
    exact ⟨by simp, B1.out⟩
  | false =>
    cases y with
    | false =>
      go_wp2_with fail
      refine (cN _).out.mono ?_
      rintro e w2 ⟨rfl, rfl⟩
      go_wp2_with fail
      go_ret
      exact ⟨by simp, B1.out⟩
    | true =>
      go_wp2_with fail
      refine (cN _).out.mono ?_
      rintro e w2 ⟨rfl, rfl⟩
      by_cases hk1 : kind = 1
      · subst hk1
        cases d with
        | true =>
          go_wp2_with fail
          go_ret
          exact ⟨by simp, B1.out⟩
        | false =>
          go_wp2_with fail
          go_ret
          exact ⟨by simp, B1.out⟩
      · have hne : (kind == 1) = false := by simpa using hk1
        go_wp2_with fail
        go_ret
        exact ⟨by simp [hk1], B1.out⟩
section
variable {base : Nat} {w w' : World} {tg sg mb : Nat} {A : Int → Option (Nat × Nat)} {D : Ds}
theorem place_dir {D : Ds} {l : List ByteArray} {r m : Int} (h : place D l r = .ok m) : D m ≠ none := by
  unfold place at h
  split at h
  · cases h
  · split at h
    · cases h
    · split at h
      · cases h
      · rename_i e
        cases h
        exact e
theorem last_mem {l : List ByteArray} (h : l ≠ []) : last l ∈ l := by
  unfold last
  have : l.length - 1 < l.length := by have := List.length_pos_iff.2 h; omega
  rw [List.getD_eq_getElem?_getD, List.getElem?_eq_getElem this]
  exact List.getElem_mem _
theorem last_sm {l : List ByteArray} (hs : ∀ k ∈ l, NS.Sm k) : NS.Sm (last l) := by
  by_cases h : l = []
  · subst h; show ByteArray.size _ ≤ maxLen; decide
  · exact hs _ (last_mem h)
/-- Why a name may not be made in a directory. -/
def vac (D : Ds) (kind : Int) (k : ByteArray) (d : Bool) (m : Int) : Int := if at_ D m k ≠ none ∨ PM.name k = false then 12 else if kind = 1 ∧ d = true then 14 else 0
theorem at_nm (h : TM base w tg sg mb A D) {n : Int} {d : Dr} (hD : D n = some d) (k : ByteArray) : nm A d.l k = (at_ D n k).map fun j => (j, pa A j) := by
  unfold nm at_
  rw [hD]
/-- A directory in memory. -/
theorem TM.db (h : TM base w tg sg mb A D) {n : Int} {d : Dr} (hD : D n = some d) : ∃ g m, A n = some (g, m) ∧ pa A n = some g ∧ DB w g d.up (pa A d.up) m (nm A d.l) := by
  obtain ⟨g, m, hA, h1, h2⟩ := h.has hD
  exact ⟨g, m, hA, by unfold pa; rw [hA]; rfl, h1, h2⟩

theorem enters_vac1 : ∀ args w, (callFunc 99 args).run Tryz.prog w = .ok (.enter 99 args) w :=
  fun args w => by kernel_rfl

set_option maxRecDepth 100000 in
set_option maxHeartbeats 4000000 in
theorem vacant_any (a d : Bool) (kind : Int) (l : List ByteArray) (ao : Option Addr) (n cap : Nat) (w : World) (h : TM base w tg sg mb A D) (hl : SS w ao n cap l) (hs : ∀ k ∈ l, NS.Sm k) :
    Calls Tryz.prog 59 #[.pointer (some ⟨tg, 0, none⟩), .agg #[.bool a, .slice ao n cap, .bool d], .int .i64 kind] w fun e' w' => e' = .returned (.tuple #[pv A l d (placeC D l 12 (vac D kind (last l) d)), .int .i64 (er (placeC D l 12 (vac D kind (last l) d)))]) ∧ Below w.heap.size w w' := by
  have b0 := new3 w (.cells #[.bool a, .slice ao n cap, .bool d] 99) (.cells #[.int .i64 kind] 3) (.cells #[.int .i64 0, .pointer none, .string ⟨#[]⟩, .bool false] 110)
  have hK : (((w.alloc (.cells #[.bool a, .slice ao n cap, .bool d] 99)).alloc (.cells #[.int .i64 kind] 3)).alloc (.cells #[.int .i64 0, .pointer none, .string ⟨#[]⟩, .bool false] 110)).cell? ⟨w.heap.size + 1, 0, none⟩ = some (.int .i64 kind) := Blk.cell (j := 0) (l := [.int .i64 kind]) ((Blk.new _ _ _ (by simp)).alloc _) rfl
  have cP := W_hid (place_all a d 12 l ao n cap 99 #[.pointer (some ⟨w.heap.size + 1, 0, none⟩)] _ (h.keep b0) (hl.below b0 (Nat.le_refl _)) hs enters_vac1 (vac D kind (last l) d) (fun m hp W hW => by
    have hD := place_dir hp
    cases hd : D m with
    | none => exact absurd hd hD
    | some dr =>
      obtain ⟨g, mm, hA, hpa, hdb⟩ := ((h.keep b0).keep hW).db hd
      unfold plv
      rw [hpa]
      have c := vac1_any m g mm (w.heap.size + 1) dr.up (pa A dr.up) (nm A dr.l) (last l) d kind (last_sm hs) W hdb (by rw [hW.cell (World.block_lt_of_cell? _ _ hK)]; exact hK)
      have e1 : vacR (nm A dr.l) (last l) kind d = vac D kind (last l) d m := by
        unfold vacR vac
        rw [at_nm h hd]
        cases at_ D m (last l) <;> simp
      rw [e1] at c
      exact c))
  obtain ⟨R, hR⟩ : ∃ R, placeC D l 12 (vac D kind (last l) d) = R := ⟨_, rfl⟩
  rw [hR] at cP ⊢
  have hv : ∃ v1 v2 v3 v4, pv A l d R = .agg #[.int .i64 v1, .pointer v2, .string v3, .bool v4] := by
    cases R with
    | error e => exact ⟨_, _, _, _, rfl⟩
    | ok m =>
      obtain ⟨pp, hpp⟩ := ptr_form (pa A m)
      exact ⟨m, pp, last l, d, by show plv m (pa A m) (last l) d = _; unfold plv; rw [hpp]⟩
  obtain ⟨v1, v2, v3, v4, hv⟩ := hv
  rw [hv] at cP ⊢
  obtain ⟨z, hz⟩ : ∃ z, er R = z := ⟨_, rfl⟩
  rw [hz] at cP ⊢
  clear h hl hR hv hz hK
  go_enter Tryz.func59, Tryz.ntmps59
  go_wp2_with fail
  refine cP.out.mono ?_
  rintro e w1 ⟨rfl, b1⟩
  have n1 : Blk w1 (w.heap.size + 2) 110 [.int .i64 0, .pointer none, .string ⟨#[]⟩, .bool false] := (Blk.new _ _ _ (by simp)).keep b1
  have c0 := n1.cell (j := 0) rfl
  have c1 := n1.cell (j := 1) rfl
  have c2 := n1.cell (j := 2) rfl
  have c3 := n1.cell (j := 3) rfl
  have f1 := n1.fz
  have N1 := W_hid (blk_set4 n1 (a' := .int .i64 v1) (b' := .pointer v2) (c' := .string v3) (d' := .bool v4))
  have B5 := W_hid (below4 (b0.trans (b1.mono b0.size)) (g := w.heap.size + 2) (by simp) (.int .i64 v1) (.pointer v2) (.string v3) (.bool v4))
  clear b1 n1 cP b0
  go_wp2_with fail
  exact bodyPost_ret (res_place Tryz.results59 _ _ rfl N1.out) rfl ⟨rfl, B5.out⟩
end
end NT
end Go.Proofs.YtbloiilinofklaaGreat

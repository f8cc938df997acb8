/- Contracts of package radix: span, mapping, none, and the search that goes down from the root. -/
import Derived.Test.YthiojnbnhagcgaaDoorRadMath
import Derived.Test.YthiojnbnhagcgaaDoorRadMap
import Derived.Test.YthiojnbnhagcgaaDoorEntryCode
import Derived.Test.YthiojnbnhagcgaaDoorEntryIdx
import Derived.Deep.RegionHeld3
import Derived.Deep.MidRow
namespace Go.Proofs.YthiojnbnhagcgaaDoor
open Go.ChangeShapes Go.WideShapes Go.ChangeAt Go.RowKit
set_option linter.unusedVariables false
set_option linter.unusedSimpArgs false

/-- A tree's own memory. -/
structure TM (w : World) (g pg r b : Nat) (M : Nat → Option (Nat → Nat)) : Prop where
  box : Blk w g 53 [.pointer (some ⟨pg, 0, none⟩), .int .u64 (r : Int), .map (some b)]
  mb : MB w b M
  kt : KT w
theorem TM.keep {w w' : World} {g pg r b : Nat} {M : Nat → Option (Nat → Nat)} (h : TM w g pg r b M) (hb : Below w.heap.size w w') : TM w' g pg r b M := ⟨h.box.keep hb, h.mb.keep hb, h.kt.keep hb⟩

/-- A way, as cells. -/
def wl (va : Nat) (fr : Nat → Nat) (L : Nat) (e : Bool × Bool × Int × Nat) (p : Bool) : List Value :=
  [.int .u64 (va : Int), .int .u64 (fr 0 : Int), .int .u64 (fr 1 : Int), .int .u64 (fr 2 : Int), .int .u64 (fr 3 : Int), .int .u64 (fr 4 : Int), .int .i64 (L : Int), .bool e.1, .bool e.2.1, .int .i64 e.2.2.1, .int .u64 (e.2.2.2 : Int), .bool p]

set_option maxRecDepth 100000 in
set_option maxHeartbeats 400000 in
theorem span_any (l : Nat) (h1 : 1 ≤ l) (h4 : l ≤ 4) (w : World) :
    Calls Tryd.prog 27 #[.int .i64 (l : Int)] w fun e w' => e = .returned (.int .u64 ((EN.sz (l - 1) : Nat) : Int)) ∧ w = w' := by
  have hl : l = 1 ∨ l = 2 ∨ l = 3 ∨ l = 4 := by omega
  rcases hl with rfl | rfl | rfl | rfl <;>
  · go_enter Tryd.func27, Tryd.ntmps27
    go_wp2
    go_ret
    exact ⟨rfl, rfl⟩

theorem none_nilT (w : World) : Calls Tryd.prog 24 #[.pointer none] w fun e w' => e = .returned (.bool true) ∧ w = w' := by
  go_enter Tryd.func24, Tryd.ntmps24
  go_wp2
  go_ret
  exact ⟨rfl, rfl⟩
set_option maxRecDepth 100000 in
theorem none_tree (g pg r b : Nat) (M : Nat → Option (Nat → Nat)) (w : World) (h : TM w g pg r b M) : Calls Tryd.prog 24 #[.pointer (some ⟨g, 0, none⟩)] w fun e w' => e = .returned (.bool false) ∧ w = w' := by
  have c2 := h.box.cell (j := 2) rfl
  have H := W_hid h
  have hb : ∀ w, (binOp .eql 51 (.map (some b)) (.map none)).run Tryd.prog w = .ok (.bool false) w := fun w => by kernel_rfl
  clear h
  go_enter Tryd.func24, Tryd.ntmps24
  go_wp2
  go_ret
  exact ⟨rfl, rfl⟩

theorem res_way {fn : Func} {r : Tmp} (hres : fn.results = #[.cell r 59]) (tmps : Array Value) (w : World) {g : Nat} {l : List Value} (hr : tmps.getD r undef = .pointer (some ⟨g, 0, none⟩)) (hp : Blk w g 59 l) (hl : l.length = 12) :
    (results fn tmps).run Tryd.prog w = .ok (.agg l.toArray) w :=
  results_cell_row hres tmps w g _ _ _ _ hr hp Tryd.underlying59 rfl (by simp only [List.size_toArray, hl]; kernel_rfl)
theorem res_map {fn : Func} {r : Tmp} (hres : fn.results = #[.cell r 24]) (tmps : Array Value) (w : World) {g : Nat} {l : List Value} (hr : tmps.getD r undef = .pointer (some ⟨g, 0, none⟩)) (hp : Blk w g 24 l) (hl : l.length = 4) :
    (results fn tmps).run Tryd.prog w = .ok (.agg l.toArray) w :=
  results_cell_row hres tmps w g _ _ _ _ hr hp Tryd.underlying24 rfl (by simp only [List.size_toArray, hl]; kernel_rfl)

set_option maxRecDepth 100000 in
set_option maxHeartbeats 400000 in
theorem mapping_any (va p f : Int) (t h : Bool) (w : World) :
    Calls Tryd.prog 44 #[.int .u64 va, .agg #[.bool t, .bool h, .int .i64 p, .int .u64 f]] w fun e w' => e = .returned (.agg #[.int .u64 va, .int .u64 f, .int .i64 p, .bool h]) ∧ Below w.heap.size w w' := by
  go_enter Tryd.func44, Tryd.ntmps44
  go_wp2
  refine bodyPost_ret (res_map rfl _ _ rfl (Blk.new (w.alloc _) _ [.int .u64 va, .int .u64 f, .int .i64 p, .bool h] (by simp)) rfl) rfl ⟨rfl, ((Below.refl _ _).alloc (Nat.le_refl _) _).alloc (by simp) _⟩

/-- What an entry says of a word of ours. -/
theorem decode_word {F : RX.Tabs} {G : RX.Pags} {r n l c f0 : Nat} (I : RX.Inv F G r n) (h0 : F l (c / 512) = some f0) (w : World) (hk : KT w) :
    Calls Tryd.prog 52 #[.int .u64 ((RX.word F G l c : Nat) : Int), .int .i64 (l : Int)] w fun e w' =>
      e = .returned (.tuple #[.agg #[.bool (RX.ent F G l c).1, .bool (RX.ent F G l c).2.1, .int .i64 (RX.ent F G l c).2.2.1, .int .u64 ((RX.ent F G l c).2.2.2 : Int)], .bool (RX.pres F G l c), .int .i64 0]) ∧ Below w.heap.size w w' := by
  obtain ⟨h1, h2, h3⟩ := RX.word_rd I h0
  have hl := I.lev h0
  cases hp : RX.pres F G l c with
  | true => exact Decode_some _ _ h3 _ _ _ _ (h1 hp) w hk
  | false =>
    obtain ⟨e1, e2⟩ := h2 hp
    rw [e1, e2]
    exact Decode_zero _ (by omega) w

/-- A number in a cell. -/
def cn (w : World) (g i : Nat) : Nat := match w.cell? ⟨g, i, none⟩ with
  | some (.int _ x) => x.toNat
  | _ => 0
def cut (fr : Nat → Nat) (k : Nat) : Nat → Nat := fun i => if k ≤ i then fr i else 0

/-- The tree's block and its map are as they were, and so are the first seven cells of block x. -/
structure PS (g b x : Nat) (w w' : World) : Prop where
  hg : w'.heap[g]? = w.heap[g]?
  hb : w'.heap[b]? = w.heap[b]?
  hx : ∀ j, j ≤ 6 → w'.cell? ⟨x, j, none⟩ = w.cell? ⟨x, j, none⟩
theorem PS.below {g b x : Nat} {w w' : World} (h1 : g < w.heap.size) (h2 : b < w.heap.size) (h3 : x < w.heap.size) (h : Below w.heap.size w w') : PS g b x w w' :=
  ⟨h.block g h1, h.block b h2, fun j _ => by simp only [World.cell?]; rw [h.block x h3]⟩
theorem PS.set {g b x : Nat} {w w' : World} (h : PS g b x w w') (j : Nat) (v : Value) (hj : 7 ≤ j) (h1 : g ≠ x) (h2 : b ≠ x) : PS g b x w (w'.setCell ⟨x, j, none⟩ v) :=
  ⟨(Below.heap_setCell w' ⟨x, j, none⟩ v g h1).trans h.hg, (Below.heap_setCell w' ⟨x, j, none⟩ v b h2).trans h.hb, fun i hi => by
    have e : (⟨x, j, none⟩ : Addr) ≠ ⟨x, i, none⟩ := by intro e; simp only [Addr.mk.injEq, true_and, and_true] at e; omega
    exact (World.cell?_setCell_other _ _ _ _ e).trans (h.hx i hi)⟩
theorem PS.row {g b x y : Nat} {w w' : World} (h : PS g b x w w') (cs : Array Value) (h1 : g ≠ y) (h2 : b ≠ y) (h3 : x ≠ y) : PS g b x w (w'.setRow y cs) :=
  ⟨(setRow_other w' y g cs h1).trans h.hg, (setRow_other w' y b cs h2).trans h.hb, fun j hj => (cell_setRow_other w' y cs _ h3).trans (h.hx j hj)⟩
theorem Blk.cells {g : Nat} {t : TypeId} : ∀ (vs : List Value) {w : World} (pre old : List Value) (o : Nat), Blk w g t (pre ++ old) → pre.length = o → old.length = vs.length → Blk (w.setCells g o vs) g t (pre ++ vs)
  | [], w, pre, old, o, h, _, hl => by
    have : old = [] := List.length_eq_zero_iff.1 hl
    subst this; exact h
  | v :: vs, w, pre, [], o, h, _, hl => by simp at hl
  | v :: vs, w, pre, x :: old, o, h, hp, hl => by
    have h1 := h.set o v
    have e1 : (pre ++ x :: old).set o v = (pre ++ [v]) ++ old := by subst hp; simp
    rw [e1] at h1
    have := Blk.cells vs (pre ++ [v]) old (o + 1) h1 (by simp; omega) (by simpa using hl)
    rw [List.append_assoc] at this
    exact this
theorem Blk.cells0 {w : World} {g : Nat} {t : TypeId} {old : List Value} (h : Blk w g t old) (vs : List Value) (hl : old.length = vs.length) : Blk (w.setCells g 0 vs) g t vs := Blk.cells vs [] old 0 h rfl hl
theorem setCells_far {g k : Nat} (hk : k ≠ g) : ∀ (vs : List Value) (o : Nat) (w : World), (w.setCells g o vs).heap[k]? = w.heap[k]?
  | [], _, _ => rfl
  | v :: vs, o, w => (setCells_far hk vs (o + 1) _).trans (Below.heap_setCell w ⟨g, o, none⟩ v k hk)
theorem below_cells {B g : Nat} (hg : B ≤ g) : ∀ (vs : List Value) (o : Nat) {w w' : World}, Below B w w' → Below B w (w'.setCells g o vs)
  | [], _, _, _, h => h
  | v :: vs, o, w, w', h => below_cells hg vs (o + 1) (h.setCell (p := ⟨g, o, none⟩) hg v)
theorem Blk.there {w : World} {g : Nat} {t : TypeId} {l : List Value} (h : Blk w g t l) (n : Nat) (hn : n = l.length) : w.there g 0 n := fun j hj => by
  refine ⟨?_, h.fz _⟩
  rw [Nat.zero_add]
  have : l[j]? = some l[j] := List.getElem?_eq_getElem (by omega)
  rw [h.cell this]; rfl
theorem cell_heap {w w' : World} {g : Nat} (h : w'.heap[g]? = w.heap[g]?) (j : Nat) : w'.cell? ⟨g, j, none⟩ = w.cell? ⟨g, j, none⟩ := by simp only [World.cell?]; rw [h]
/-- The world at hand is given a letter, and what is known of it. -/
theorem then_world {K : Act → World → Prop} {Q : Exit → Act → World → Prop} {a : Act} {W : World} (R : World → Prop) (h : R W) (k : ∀ W, R W → Exit.then K Q Exit.normal a W) : Exit.then K Q Exit.normal a W := k W h
theorem Blk.row {w : World} {g : Nat} {e : TypeId} {l : List Value} (h : Blk w g e l) (cs : List Value) : Blk (w.setRow g cs.toArray) g e cs := setRow_heap w g _ _ _ _ h
theorem Blk.rowFar {w : World} {g k : Nat} {e : TypeId} {l : List Value} (h : Blk w k e l) (hk : k ≠ g) (cs : Array Value) : Blk (w.setRow g cs) k e l := (setRow_other w g k cs hk).trans h
theorem below_row {B : Nat} {w w' : World} (h : Below B w w') {g : Nat} (hg : B ≤ g) (cs : Array Value) : Below B w (w'.setRow g cs) :=
  ⟨h.os, h.tape, h.output, by rw [setRow_size]; exact h.size, fun k hk => (setRow_other w' g k cs (by omega)).trans (h.block k hk)⟩
/-- A whole block is written: the world is a letter behind it. -/
theorem wpList_store_b {P : Program} {ops : Array Oper} {rest : List Oper} {o : Oper} {a : Act} {w : World} {Q : Exit → Act → World → Prop} (hgd : o.guard = none) (ty : TypeId) (x y : Operand) (ho : o.op = .store ty x y)
    (g : Nat) (cells : List Value) (hx : a.eval x = .pointer (some ⟨g, 0, none⟩)) (hy : a.eval y = .agg cells.toArray) (t : TypeId) (old : List Value) (hg : Blk w g t old) (hi : (P.info? ty).map (·.size) = some cells.toArray.size)
    (hold : old.toArray.size = cells.toArray.size) (h1 : cells.toArray.all (·.oneCell') = true)
    (h : ∀ w', Blk w' g t cells → (∀ B w0, B ≤ g → Below B w0 w → Below B w0 w') → Hid (w' = w.setRow g cells.toArray) → wpList P ops Q rest (a.put o.dst undef) w') : wpList P ops Q (o :: rest) a w :=
  wpList_store_row hgd ty x y ho g cells.toArray hx hy t _ hg hi hold h1 (h _ (hg.row _) (fun B w0 hB hb => below_row hb hB _) (W_hid rfl))
theorem step_store_b {P : Program} {ops : Array Oper} {o : Oper} {a : Act} {w : World} {K : Act → World → Prop} {Q : Exit → Act → World → Prop} {E : Prop} (hgd : o.guard = none) (ty : TypeId) (x y : Operand) (ho : o.op = .store ty x y)
    (g : Nat) (cells : List Value) (hx : a.eval x = .pointer (some ⟨g, 0, none⟩)) (hy : a.eval y = .agg cells.toArray) (t : TypeId) (old : List Value) (hg : Blk w g t old) (hi : (P.info? ty).map (·.size) = some cells.toArray.size)
    (hold : old.toArray.size = cells.toArray.size) (h1 : cells.toArray.all (·.oneCell') = true)
    (hK : ∀ w', Blk w' g t cells → (∀ B w0, B ≤ g → Below B w0 w → Below B w0 w') → Hid (w' = w.setRow g cells.toArray) → K (a.put o.dst undef) w') :
    if Region.wanted o (yielded ops a.tmps) = true then Oper.wp P o a w K Q else E := by
  have hw : Region.wanted o (yielded ops a.tmps) = true := by simp [Region.wanted, hgd]
  rw [if_pos hw]
  exact wp_store_row ty x y ho g cells.toArray hx hy t _ hg hi hold h1 (hK _ (hg.row _) (fun B w0 hB hb => below_row hb hB _) (W_hid rfl))
theorem step_alloc_b {P : Program} {ops : Array Oper} {o : Oper} {a : Act} {w : World} {K : Act → World → Prop} {Q : Exit → Act → World → Prop} {E : Prop} (hgd : o.guard = none) (ty : TypeId) (ho : o.op = .alloc ty) (cells : List Value)
    (hrun : ∀ w : World, (Instr.alloc ty true (.tuple #[])).run P w = .ok (.pointer (some ⟨w.heap.size, 0, none⟩)) (w.alloc (.cells cells.toArray ty))) (x : Nat) (hx : w.heap.size = x)
    (hK : ∀ w', Blk w' x ty cells → Hid (w' = w.alloc (.cells cells.toArray ty)) → K (a.put o.dst (.pointer (some ⟨x, 0, none⟩))) w') :
    if Region.wanted o (yielded ops a.tmps) = true then Oper.wp P o a w K Q else E := by
  have hw : Region.wanted o (yielded ops a.tmps) = true := by simp [Region.wanted, hgd]
  rw [if_pos hw]
  unfold Oper.wp
  simp [execOp, ho, hrun, hx, Result.andThen]
  exact hK _ (Blk.new w _ _ hx.symm) (W_hid rfl)
theorem still_load_row {P : Program} {ops : Array Oper} {o : Oper} {a : Act} {w : World} {K : Act → Prop} (hgd : o.guard = none) (ty : TypeId) (x : Operand) (ho : o.op = .load ty x)
    (g : Nat) (hx : a.eval x = .pointer (some ⟨g, 0, none⟩)) (t : TypeId) (cs : List Value) (d : TypeDesc) (hg : Blk w g t cs)
    (hu : P.underlying ty = some d) (hd : (match d with | .struct _ | .array _ _ => true | _ => false) = true) (hi : (P.info? ty).map (·.size) = some cs.toArray.size)
    (h : K (a.put o.dst (.agg cs.toArray))) : if Region.wanted o (yielded ops a.tmps) then o.still P a w K else K (a.put o.dst undef) := by
  have hw : Region.wanted o (yielded ops a.tmps) = true := by simp [Region.wanted, hgd]
  rw [if_pos hw]
  unfold Oper.still execOp
  simp only [ho, hx, Instr.loadAt, Instr.sureAddr, Sem.run_bind, Sem.run_pure, Result.andThen_ok, run_loadVar_row w g t ty cs.toArray (0, 0) d hg hu hd hi]
  exact ⟨rfl, h⟩
/-- A store into the map of tables, at the operation. -/
theorem wpList_put_b {ops : Array Oper} {rest : List Oper} {o : Oper} {a : Act} {w : World} {Q : Exit → Act → World → Prop} (hg : o.guard = none) (m x v : Operand) (hop : o.op = Op.mapUpdate 51 m x v)
    (b f : Nat) (ws : Nat → Nat) (M : Nat → Option (Nat → Nat)) (hm : a.eval m = .map (some b)) (hx : a.eval x = .int .u64 (f : Int)) (hv : a.eval v = .agg (tw ws).toArray) (h : MB w b M) (hf : f < 65536)
    (hK : ∀ w', MB w' b (upd M f (some ws)) → w.grownBy w' (some b) → w'.heap.size = w.heap.size → wpList Tryd.prog ops Q rest (a.put o.dst undef) w') : wpList Tryd.prog ops Q (o :: rest) a w := by
  refine wpList_plain hg fun K' hK' => ?_
  obtain ⟨w', hrun, r1, r2, r3⟩ := h.put f ws hf
  unfold Oper.wp
  simp [execOp, hop, hm, hx, hv, hrun, Result.andThen]
  exact hK' _ _ (hK w' r1 r2 r3)
theorem two_grown {b : Nat} {w w1 w2 : World} (h : Below w.heap.size w w1) (hg : w1.grownBy w2 (some b)) : Two b b w w2 :=
  ⟨hg.os.trans h.os, hg.tape.trans h.tape, hg.output.trans h.output, Nat.le_trans h.size hg.size, fun k hk h1 _ => (hg.block k (Nat.lt_of_lt_of_le hk h.size) (fun e => h1 (Option.some.inj e))).trans (h.block k hk)⟩
theorem store_far {w w' : World} {g k : Nat} {e : TypeId} {l : List Value} {cs : Array Value} (he : w' = w.setRow g cs) (h : Blk w k e l) (hk : k ≠ g) : Blk w' k e l := by rw [he]; exact h.rowFar hk cs
theorem wl_info (va : Nat) (fr : Nat → Nat) (L : Nat) (e : Bool × Bool × Int × Nat) (p : Bool) : (Tryd.prog.info? 59).map (·.size) = some (wl va fr L e p).toArray.size := by
  show _ = some 12
  kernel_rfl
theorem wl_one (va : Nat) (fr : Nat → Nat) (L : Nat) (e : Bool × Bool × Int × Nat) (p : Bool) : (wl va fr L e p).toArray.all (·.oneCell') = true := by simp [wl, Value.oneCell']
theorem wl_get {va L m : Nat} {fr : Nat → Nat} {e : Bool × Bool × Int × Nat} {p : Bool} (hm : m ≤ 4) : (wl va fr L e p)[1 + m]? = some (.int .u64 (fr m : Int)) := by
  have : m = 0 ∨ m = 1 ∨ m = 2 ∨ m = 3 ∨ m = 4 := by omega
  rcases this with rfl | rfl | rfl | rfl | rfl <;> rfl
theorem wl_step {va m : Nat} {fr : Nat → Nat} {e : Bool × Bool × Int × Nat} {p : Bool} (hm : m ≤ 3) :
    ((wl va (cut fr (m + 1)) (m + 1) e p).set 6 (.int .i64 (m : Int))).set (1 + m) (.int .u64 (fr m : Int)) = wl va (cut fr m) m e p := by
  have : m = 0 ∨ m = 1 ∨ m = 2 ∨ m = 3 := by omega
  rcases this with rfl | rfl | rfl | rfl <;> simp [wl, cut]
theorem cn_of {w : World} {g i : Nat} {k : IntKind} {x : Int} {n : Nat} (h : w.cell? ⟨g, i, none⟩ = some (.int k x)) (hx : x = n) : cn w g i = n := by
  unfold cn; rw [h, hx]; rfl
theorem wl_set (va : Nat) (fr : Nat → Nat) (L : Nat) (e e' : Bool × Bool × Int × Nat) (p p' : Bool) :
    (((((wl va fr L e p).set 7 (.bool e'.1)).set 8 (.bool e'.2.1)).set 9 (.int .i64 e'.2.2.1)).set 10 (.int .u64 (e'.2.2.2 : Int))).set 11 (.bool p') = wl va fr L e' p' := rfl
theorem cut_cell {va k L : Nat} {fr : Nat → Nat} {e : Bool × Bool × Int × Nat} {p : Bool} (hk : k ≤ 4) (hL : L ≤ k) : (wl va (cut fr L) k e p)[1 + k]? = some (.int .u64 (fr k : Int)) := by
  have : k = 0 ∨ k = 1 ∨ k = 2 ∨ k = 3 ∨ k = 4 := by omega
  rcases this with rfl | rfl | rfl | rfl | rfl <;> simp [wl, cut, hL]
theorem tw_index (ws : Nat → Nat) (i : Nat) (hi : i < 512) (w : World) : (Instr.index 50 (.agg (tw ws).toArray) (.int .i64 (i : Int))).run Tryd.prog w = .ok (.int .u64 ((ws i : Nat) : Int)) w := by
  have h := tw_get ws i hi
  simp [Instr.index, go_sem, hi, h]
end Go.Proofs.YthiojnbnhagcgaaDoor

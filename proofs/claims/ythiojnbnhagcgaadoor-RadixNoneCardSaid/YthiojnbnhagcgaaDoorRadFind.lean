/- Contracts of package radix: find and vacant. -/
import Derived.Test.YthiojnbnhagcgaaDoorRadDesc
import Derived.WalkLawsBesides
import Derived.BigQuiet
namespace Go.Proofs.YthiojnbnhagcgaaDoor
open Go.ChangeShapes Go.WideShapes Go.ChangeAt Go.RowKit
set_option linter.unusedVariables false
set_option linter.unusedSimpArgs false

def fault (c : Int) : List PanicEntry := [{ v := .iface 27 (.int .i64 c), recovered := false }]
def wzero : List Value := [.int .u64 0, .int .u64 0, .int .u64 0, .int .u64 0, .int .u64 0, .int .u64 0, .int .i64 0, .bool false, .bool false, .int .i64 0, .int .u64 0, .bool false]

set_option maxRecDepth 100000 in
set_option maxHeartbeats 2000000 in
theorem find_yes (g pg r b n va L : Nat) (c : Int) (fr : Nat → Nat) (M : Nat → Option (Nat → Nat)) (F : RX.Tabs) (G : RX.Pags) (I : RX.Inv F G r n) (R : RX.Rep M F G) (hva : va < 140737488355328) (hd : RX.Desc F va 1 L fr)
    (hp : RX.pres F G L (va / EN.sz (L - 1)) = true) (w : World) (h : TM w g pg r b M) :
    Calls Tryd.prog 19 #[.pointer (some ⟨g, 0, none⟩), .int .u64 (va : Int), .int .i64 c] w fun e w' =>
      e = .returned (.agg (wl va fr L (RX.ent F G L (va / EN.sz (L - 1))) true).toArray) ∧ Below w.heap.size w w' := by
  have hD := W_hid (fun w h => descend_any g pg r b n va 1 L fr M F G I R hva hd w h)
  rw [hp] at hD
  generalize RX.ent F G L (va / EN.sz (L - 1)) = E at *
  have H := W_hid h
  clear h hp hd
  go_enter Tryd.func19, Tryd.ntmps19
  go_wp2_with fail
  refine (hD.out _ (H.out.keep ((Below.refl _ _).alloc (Nat.le_refl _) _))).mono ?_
  rintro e w1 ⟨rfl, bel⟩
  have hZ : Blk w1 w.heap.size 59 wzero := Blk.keep (Blk.new w _ _ rfl) bel
  have bel1 : Below w.heap.size w (w1.alloc (.cells wzero.toArray 59)) := (((Below.refl w.heap.size w).alloc (Nat.le_refl _) (.cells wzero.toArray 59)).trans (bel.mono (by simp))).alloc (by have := hZ.lt; omega) _
  replace bel1 := W_hid bel1
  have hX : Hid (Blk (w1.alloc (.cells wzero.toArray 59)) w1.heap.size 59 wzero) := W_hid (Blk.new w1 _ _ rfl)
  have hZ1 := W_hid (hZ.alloc (.cells wzero.toArray 59))
  have hne : Hid (w.heap.size < w1.heap.size) := W_hid hZ.lt
  clear bel hZ
  go_wp2_with (first
    | (refine wpList_store_b rfl 59 _ _ rfl w1.heap.size (wl va fr L E true) rfl rfl _ _ hX.out (wl_info _ _ _ _ _) rfl (wl_one _ _ _ _ _) ?_; intro w2 hX2 hb2 he2; have hZ2 := W_hid (store_far he2.out hZ1.out (Nat.ne_of_lt hne.out)); have bel2 := W_hid (hb2 _ _ (Nat.le_of_lt hne.out) bel1.out); have c11 := hX2.cell (j := 11) rfl; replace hX2 := W_hid hX2; clear hb2 he2)
    | (refine wpList_load_row rfl 59 _ rfl w1.heap.size rfl _ _ _ _ hX2.out Tryd.underlying59 rfl (wl_info _ _ _ _ _) ?_)
    | (refine wpList_store_b rfl 59 _ _ rfl w.heap.size (wl va fr L E true) rfl rfl _ _ hZ2.out (wl_info _ _ _ _ _) rfl (wl_one _ _ _ _ _) ?_; intro w3 hZ3 hb3 he3; have bel3 := W_hid (hb3 _ _ (Nat.le_refl _) bel2.out); replace hZ3 := W_hid hZ3; clear hb3 he3))
  exact bodyPost_ret (res_way rfl _ _ rfl hZ3.out rfl) rfl ⟨rfl, bel3.out⟩

set_option maxRecDepth 100000 in
set_option maxHeartbeats 2000000 in
theorem find_no (g pg r b n va L : Nat) (c : Int) (fr : Nat → Nat) (M : Nat → Option (Nat → Nat)) (F : RX.Tabs) (G : RX.Pags) (I : RX.Inv F G r n) (R : RX.Rep M F G) (hva : va < 140737488355328) (hd : RX.Desc F va 1 L fr)
    (hp : RX.pres F G L (va / EN.sz (L - 1)) = false) (w : World) (h : TM w g pg r b M) :
    Calls Tryd.prog 19 #[.pointer (some ⟨g, 0, none⟩), .int .u64 (va : Int), .int .i64 c] w fun e w' =>
      e = .panicked (fault c) ∧ Below w.heap.size w w' := by
  have hD := W_hid (fun w h => descend_any g pg r b n va 1 L fr M F G I R hva hd w h)
  rw [hp] at hD
  generalize RX.ent F G L (va / EN.sz (L - 1)) = E at *
  have H := W_hid h
  clear h hp hd
  go_enter Tryd.func19, Tryd.ntmps19
  go_wp2_with fail
  refine (hD.out _ (H.out.keep ((Below.refl _ _).alloc (Nat.le_refl _) _))).mono ?_
  rintro e w1 ⟨rfl, bel⟩
  have hZ : Blk w1 w.heap.size 59 wzero := Blk.keep (Blk.new w _ _ rfl) bel
  have bel1 : Below w.heap.size w (w1.alloc (.cells wzero.toArray 59)) := (((Below.refl w.heap.size w).alloc (Nat.le_refl _) (.cells wzero.toArray 59)).trans (bel.mono (by simp))).alloc (by have := hZ.lt; omega) _
  replace bel1 := W_hid bel1
  have hX : Hid (Blk (w1.alloc (.cells wzero.toArray 59)) w1.heap.size 59 wzero) := W_hid (Blk.new w1 _ _ rfl)
  have hZ1 := W_hid (hZ.alloc (.cells wzero.toArray 59))
  have hne : Hid (w.heap.size < w1.heap.size) := W_hid hZ.lt
  clear bel hZ
  go_wp2_with (first
    | (refine wpList_store_b rfl 59 _ _ rfl w1.heap.size (wl va fr L E false) rfl rfl _ _ hX.out (wl_info _ _ _ _ _) rfl (wl_one _ _ _ _ _) ?_; intro w2 hX2 hb2 he2; have hZ2 := W_hid (store_far he2.out hZ1.out (Nat.ne_of_lt hne.out)); have bel2 := W_hid (hb2 _ _ (Nat.le_of_lt hne.out) bel1.out); have c11 := hX2.cell (j := 11) rfl; replace hX2 := W_hid hX2; clear hb2 he2)
    | (refine wpList_load_row rfl 59 _ rfl w1.heap.size rfl _ _ _ _ hX2.out Tryd.underlying59 rfl (wl_info _ _ _ _ _) ?_)
    | (refine wpList_store_b rfl 59 _ _ rfl w.heap.size (wl va fr L E false) rfl rfl _ _ hZ2.out (wl_info _ _ _ _ _) rfl (wl_one _ _ _ _ _) ?_; intro w3 hZ3 hb3 he3; have bel3 := W_hid (hb3 _ _ (Nat.le_refl _) bel2.out); replace hZ3 := W_hid hZ3; clear hb3 he3))
  exact ⟨rfl, rfl, bel2.out⟩

set_option maxRecDepth 100000 in
set_option maxHeartbeats 2000000 in
theorem vacant_yes (g pg r b n va L : Nat) (lo : Nat) (fr : Nat → Nat) (M : Nat → Option (Nat → Nat)) (F : RX.Tabs) (G : RX.Pags) (I : RX.Inv F G r n) (R : RX.Rep M F G) (hva : va < 140737488355328) (hd : RX.Desc F va lo L fr)
    (hp : RX.pres F G L (va / EN.sz (L - 1)) = false) (w : World) (h : TM w g pg r b M) :
    Calls Tryd.prog 30 #[.pointer (some ⟨g, 0, none⟩), .int .u64 (va : Int), .int .i64 (lo : Int)] w fun e w' =>
      e = .returned (.agg (wl va fr L (RX.ent F G L (va / EN.sz (L - 1))) false).toArray) ∧ Below w.heap.size w w' := by
  have hD := W_hid (fun w h => descend_any g pg r b n va lo L fr M F G I R hva hd w h)
  rw [hp] at hD
  generalize RX.ent F G L (va / EN.sz (L - 1)) = E at *
  have H := W_hid h
  clear h hp hd
  go_enter Tryd.func30, Tryd.ntmps30
  go_wp2_with fail
  refine (hD.out _ (H.out.keep ((Below.refl _ _).alloc (Nat.le_refl _) _))).mono ?_
  rintro e w1 ⟨rfl, bel⟩
  have hZ : Blk w1 w.heap.size 59 wzero := Blk.keep (Blk.new w _ _ rfl) bel
  have bel1 : Below w.heap.size w (w1.alloc (.cells wzero.toArray 59)) := (((Below.refl w.heap.size w).alloc (Nat.le_refl _) (.cells wzero.toArray 59)).trans (bel.mono (by simp))).alloc (by have := hZ.lt; omega) _
  replace bel1 := W_hid bel1
  have hX : Hid (Blk (w1.alloc (.cells wzero.toArray 59)) w1.heap.size 59 wzero) := W_hid (Blk.new w1 _ _ rfl)
  have hZ1 := W_hid (hZ.alloc (.cells wzero.toArray 59))
  have hne : Hid (w.heap.size < w1.heap.size) := W_hid hZ.lt
  clear bel hZ
  go_wp2_with (first
    | (refine wpList_store_b rfl 59 _ _ rfl w1.heap.size (wl va fr L E false) rfl rfl _ _ hX.out (wl_info _ _ _ _ _) rfl (wl_one _ _ _ _ _) ?_; intro w2 hX2 hb2 he2; have hZ2 := W_hid (store_far he2.out hZ1.out (Nat.ne_of_lt hne.out)); have bel2 := W_hid (hb2 _ _ (Nat.le_of_lt hne.out) bel1.out); have c11 := hX2.cell (j := 11) rfl; replace hX2 := W_hid hX2; clear hb2 he2)
    | (refine wpList_load_row rfl 59 _ rfl w1.heap.size rfl _ _ _ _ hX2.out Tryd.underlying59 rfl (wl_info _ _ _ _ _) ?_)
    | (refine wpList_store_b rfl 59 _ _ rfl w.heap.size (wl va fr L E false) rfl rfl _ _ hZ2.out (wl_info _ _ _ _ _) rfl (wl_one _ _ _ _ _) ?_; intro w3 hZ3 hb3 he3; have bel3 := W_hid (hb3 _ _ (Nat.le_refl _) bel2.out); replace hZ3 := W_hid hZ3; clear hb3 he3))
  exact bodyPost_ret (res_way rfl _ _ rfl hZ3.out rfl) rfl ⟨rfl, bel3.out⟩

set_option maxRecDepth 100000 in
set_option maxHeartbeats 2000000 in
theorem vacant_no (g pg r b n va L : Nat) (lo : Nat) (fr : Nat → Nat) (M : Nat → Option (Nat → Nat)) (F : RX.Tabs) (G : RX.Pags) (I : RX.Inv F G r n) (R : RX.Rep M F G) (hva : va < 140737488355328) (hd : RX.Desc F va lo L fr)
    (hp : RX.pres F G L (va / EN.sz (L - 1)) = true) (w : World) (h : TM w g pg r b M) :
    Calls Tryd.prog 30 #[.pointer (some ⟨g, 0, none⟩), .int .u64 (va : Int), .int .i64 (lo : Int)] w fun e w' =>
      e = .panicked (fault 102) ∧ Below w.heap.size w w' := by
  have hD := W_hid (fun w h => descend_any g pg r b n va lo L fr M F G I R hva hd w h)
  rw [hp] at hD
  generalize RX.ent F G L (va / EN.sz (L - 1)) = E at *
  have H := W_hid h
  clear h hp hd
  go_enter Tryd.func30, Tryd.ntmps30
  go_wp2_with fail
  refine (hD.out _ (H.out.keep ((Below.refl _ _).alloc (Nat.le_refl _) _))).mono ?_
  rintro e w1 ⟨rfl, bel⟩
  have hZ : Blk w1 w.heap.size 59 wzero := Blk.keep (Blk.new w _ _ rfl) bel
  have bel1 : Below w.heap.size w (w1.alloc (.cells wzero.toArray 59)) := (((Below.refl w.heap.size w).alloc (Nat.le_refl _) (.cells wzero.toArray 59)).trans (bel.mono (by simp))).alloc (by have := hZ.lt; omega) _
  replace bel1 := W_hid bel1
  have hX : Hid (Blk (w1.alloc (.cells wzero.toArray 59)) w1.heap.size 59 wzero) := W_hid (Blk.new w1 _ _ rfl)
  have hZ1 := W_hid (hZ.alloc (.cells wzero.toArray 59))
  have hne : Hid (w.heap.size < w1.heap.size) := W_hid hZ.lt
  clear bel hZ
  go_wp2_with (first
    | (refine wpList_store_b rfl 59 _ _ rfl w1.heap.size (wl va fr L E true) rfl rfl _ _ hX.out (wl_info _ _ _ _ _) rfl (wl_one _ _ _ _ _) ?_; intro w2 hX2 hb2 he2; have hZ2 := W_hid (store_far he2.out hZ1.out (Nat.ne_of_lt hne.out)); have bel2 := W_hid (hb2 _ _ (Nat.le_of_lt hne.out) bel1.out); have c11 := hX2.cell (j := 11) rfl; replace hX2 := W_hid hX2; clear hb2 he2)
    | (refine wpList_load_row rfl 59 _ rfl w1.heap.size rfl _ _ _ _ hX2.out Tryd.underlying59 rfl (wl_info _ _ _ _ _) ?_)
    | (refine wpList_store_b rfl 59 _ _ rfl w.heap.size (wl va fr L E true) rfl rfl _ _ hZ2.out (wl_info _ _ _ _ _) rfl (wl_one _ _ _ _ _) ?_; intro w3 hZ3 hb3 he3; have bel3 := W_hid (hb3 _ _ (Nat.le_refl _) bel2.out); replace hZ3 := W_hid hZ3; clear hb3 he3))
  exact ⟨rfl, rfl, bel2.out⟩
end Go.Proofs.YthiojnbnhagcgaaDoor

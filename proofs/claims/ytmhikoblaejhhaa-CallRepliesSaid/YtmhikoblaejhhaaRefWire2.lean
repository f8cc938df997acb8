/- Contracts of the document's own answers of layer 2, continued: Number, Text, TakeNumber, TakeText. -/
import Derived.Test.YtmhikoblaejhhaaRefWire
import Derived.Deep.DeepAppendWide
namespace Go.Proofs.Ytmhikoblaejhhaa
open Go.ChangeShapes Go.WideShapes Go.ChangeAt Go.RowKit
set_option linter.unusedVariables false

theorem u8_slice : Try.prog.underlying 50 = some (.slice (Try.prog.elem 50)) := by kernel_rfl
theorem u8_size (w : World) : (sizeOf (Try.prog.elem 50)).run Try.prog w = .ok 1 w := by kernel_rfl

theorem rNumber_any (ao : Option Addr) (n cap : Nat) (l : List UInt8) (k : Nat) (hk : k < 18446744073709551616) (w : World) (hb : BS w ao n cap l) (hs : n + 8 ≤ 281474976710656) :
    Calls Try.prog 23 #[.slice ao n cap, .int .u64 k] w fun e w' => ∃ g, e = .returned (.slice (some ⟨g, 0, none⟩) (n + 8) (n + 8)) ∧
      w'.ownsRow w.heap.size 5 1 (.slice (some ⟨g, 0, none⟩) (n + 8) (n + 8)) (n + 8) (cel (l ++ le 8 k)) ∧ Below w.heap.size w w' := by
  go_enter Try.func23, Try.ntmps23
  go_wp2_with fail
  refine (low_any ao n cap l k 8 8 rfl hk w hb hs).mono ?_
  rintro e w1 ⟨g, rfl, hown, bel⟩
  go_wp2_with fail
  go_ret
  exact ⟨g, rfl, hown, bel⟩

theorem strCells_list (s : ByteArray) : cel s.data.toList = Lib.strCells s := rfl

/-- 'append' of a string's bytes onto a row that is owned, whether there is room or not: what is grown takes at most 2^48 bytes. -/
theorem run_append_string_wide {P : Program} (w : World) (base : Nat) (t u ty e : TypeId) (i : TypeInfo) (ht : P.underlying t = some (.slice e)) (hu : P.underlying u = some .string) (hi : P.info? e = some i) (hz : i.zero = some (.int .u8 0)) (hs1 : i.size = 1) (hby : i.bytes = 1)
    (g k cap : Nat) (xs : List Value) (hown : w.ownsRow base e 1 (.slice (some ⟨g, 0, none⟩) k cap) k xs) (s : ByteArray) (hbytes : k + s.size + (k + s.size) / 4 + 192 ≤ 281474976710656) (hbase : base ≤ w.heap.size) :
    ∃ g' cap' w', (Builtin.append_ #[t, u] ty #[.slice (some ⟨g, 0, none⟩) k cap, .string s]).run P w = .ok (.slice (some ⟨g', 0, none⟩) (k + s.size) cap') w' ∧
      w'.ownsRow base e 1 (.slice (some ⟨g', 0, none⟩) (k + s.size) cap') (k + s.size) (xs ++ Lib.strCells s) ∧ w.grownBy w' (some g) := by
  have hxl : xs.length = k := by simpa using hown.1
  have hlen : (xs ++ Lib.strCells s).length = (k + s.size) * 1 := by rw [List.length_append, hxl, Lib.strCells_length, Nat.mul_one]
  have h63 : k + s.size ≤ maxLen := by unfold maxLen; omega
  rcases hown.2 with ⟨h', _⟩ | ⟨g', cap', cur, h', hbg, hgr, hnc, hcm, hcs, htake⟩
  · simp at h'
  · simp only [Value.slice.injEq, Option.some.injEq, Addr.mk.injEq, and_true, true_and] at h'
    obtain ⟨rfl, rfl⟩ := h'
    have hcs' : cur.size = cap := by simpa using hcs
    have ht' : cur.toList.take k = xs := by simpa using htake
    by_cases hroom : k + s.size ≤ cap
    · have hrun := Lib.run_append_room_string (P := P) w t u ty e i ht hu hi hs1 g k cap cur hgr s hroom (by omega)
      refine ⟨g, cap, _, hrun, ⟨hlen, .inr ⟨g, cap, _, rfl, hbg, setRow_heap w g cur _ e _ hgr, hroom, hcm, ?_, ?_⟩⟩, ⟨rfl, rfl, rfl, by simp, fun j _ hj => setRow_other w g j _ (fun e => hj (by rw [e]))⟩⟩
      · simp only [List.size_toArray, List.length_append, List.length_take, List.length_drop, Array.length_toList, Lib.strCells_length]
        omega
      · show List.take ((k + s.size) * 1) (cur.toList.take k ++ Lib.strCells s ++ cur.toList.drop (k + s.size)) = _
        rw [ht', ← hlen]
        exact List.take_left
    · have holds : ∀ j u, xs[j]? = some u → w.cell? ((⟨g, 0, none⟩ : Addr).add j) = some u := hown.cells (g := g) rfl
      have hgf := growslice_fits_wide (need := k + s.size) (old := cap) (bytes := 1) (by omega) (by omega)
      have hrun := Lib.run_append_grow_string (P := P) w t u ty e i (.int .u8 0) ht hu hi hz ⟨g, 0, none⟩ k cap xs (by rw [hs1]; simpa using hxl) holds s (by omega) (by unfold maxLen at h63; omega) (by rw [hby]; exact hgf)
      have hge := grownCap_ge w (k + s.size) cap e
      have hcm2 : grownCap w (k + s.size) cap e ≤ maxLen := grownCap_le_maxLen w (k + s.size) cap e h63
      refine ⟨_, _, _, hrun, ⟨hlen, .inr ⟨w.heap.size, _, _, rfl, hbase, heap_alloc_new w.drew _, hge, hcm2, ?_, ?_⟩⟩, ⟨rfl, rfl, rfl, by simp, fun j hj _ => Below.heap_alloc w.drew _ j hj⟩⟩
      · have hz1 : (Value.int IntKind.u8 0).cells.size = 1 := rfl
        simp only [Array.size_append, List.size_toArray, size_zeroCells, hz1, hxl, Lib.strCells_length]
        omega
      · simp only [Array.toList_append, List.append_assoc]
        rw [← List.append_assoc, ← hlen]
        exact List.take_left

theorem wpList_append_string_wide {P : Program} (w : World) {ops : Array Oper} {rest : List Oper} {o : Oper} {a : Act} {Q : Exit → Act → World → Prop}
    (hg : o.guard = none) (sl x : Operand) (t u : TypeId) (hop : o.op = Op.call { callee := Callee.builtin Builtin.append, args := #[sl, x], argTypes := #[t, u] })
    (base : Nat) (e : TypeId) (i : TypeInfo) (ht : P.underlying t = some (.slice e)) (hu : P.underlying u = some .string) (hi : P.info? e = some i) (hz : i.zero = some (.int .u8 0)) (hs1 : i.size = 1) (hby : i.bytes = 1)
    (g k cap : Nat) (xs : List Value) (hs : a.eval sl = .slice (some ⟨g, 0, none⟩) k cap) (hown : w.ownsRow base e 1 (.slice (some ⟨g, 0, none⟩) k cap) k xs) (s : ByteArray) (hx : a.eval x = .string s) (hbytes : k + s.size + (k + s.size) / 4 + 192 ≤ 281474976710656) (hbase : base ≤ w.heap.size)
    (hK : ∀ g' cap' w', w'.ownsRow base e 1 (.slice (some ⟨g', 0, none⟩) (k + s.size) cap') (k + s.size) (xs ++ Lib.strCells s) → w.grownBy w' (some g) → wpList P ops Q rest (a.put o.dst (.slice (some ⟨g', 0, none⟩) (k + s.size) cap')) w') :
    wpList P ops Q (o :: rest) a w := by
  obtain ⟨g', cap', w', hrun, r1, r2⟩ := run_append_string_wide (P := P) w base t u o.type e i ht hu hi hz hs1 hby g k cap xs hown s hbytes hbase
  refine wpList_plain hg fun K hK' => ?_
  unfold Oper.wp
  simp [execOp, hop, resolve, invoke, builtin, hs, hx, hrun, Result.andThen]
  exact hK' _ _ (hK _ _ _ r1 r2)

theorem rText_over (ao : Option Addr) (n cap : Nat) (s : ByteArray) (w : World) (hs : 1048576 < s.size) (hm : s.size ≤ maxLen) :
    Calls Try.prog 24 #[.slice ao n cap, .string s] w fun e w' => e = .returned (.tuple #[.slice none 0 0, .int .i64 2]) ∧ Below w.heap.size w w' := by
  unfold maxLen at hm
  go_enter Try.func24, Try.ntmps24
  go_wp2
  go_ret2
  exact ⟨rfl, Below.refl _ _⟩

set_option maxRecDepth 100000 in
set_option maxHeartbeats 400000 in
theorem rText_fits (ao : Option Addr) (n cap : Nat) (l : List UInt8) (s : ByteArray) (w : World) (hb : BS w ao n cap l) (hm : s.size ≤ 1048576) (hs : n ≤ 140737488355328) :
    Calls Try.prog 24 #[.slice ao n cap, .string s] w fun e w' => ∃ g c, e = .returned (.tuple #[.slice (some ⟨g, 0, none⟩) (n + 4 + s.size) c, .int .i64 0]) ∧
      w'.ownsRow w.heap.size 5 1 (.slice (some ⟨g, 0, none⟩) (n + 4 + s.size) c) (n + 4 + s.size) (cel (l ++ le 4 s.size ++ s.data.toList)) ∧ Below w.heap.size w w' := by
  obtain ⟨i0, hi, hz0, hz1, hz2⟩ := info_parts info_u8
  go_enter Try.func24, Try.ntmps24
  go_wp2_with fail
  refine (low_any ao n cap l s.size 4 4 rfl (by omega) w hb (by omega)).mono ?_
  rintro e w1 ⟨g, rfl, hown1, bel1⟩
  have hg := own_le hown1
  go_wp2_with (at_builtin; refine wpList_append_string_wide _ rfl (.tmp 13) (.tmp 14) 50 9 rfl w.heap.size 5 i0 Try.underlying50 Try.underlying9 hi hz0 hz1 hz2 g (n + 4) (n + 4) _ rfl hown1 s rfl (by omega) bel1.size ?_; intro g2 c2 w2 hown2 hgrow2)
  have bel2 : Below w.heap.size w w2 := bel1.grown hgrow2 bel1.size (fun k h => by cases h; exact hg.1)
  go_ret2
  refine ⟨g2, c2, rfl, ?_, bel2⟩
  rw [cel_append]
  exact hown2

theorem rTakeNumber_no (ao : Option Addr) (n cap : Nat) (l : List UInt8) (x : Int) (w : World) (hb : BS w ao n cap l) (hno : x < 0 ∨ (n : Int) < x ∨ (n : Int) - x < 8) :
    Calls Try.prog 28 #[.slice ao n cap, .int .i64 x] w fun e w' => e = .returned (.tuple #[.int .u64 0, .int .i64 0, .int .i64 100]) ∧ Below w.heap.size w w' := by
  have hn : n ≤ 9223372036854775807 := by have h1 := hb.2.2.1; have h2 := hb.2.1; unfold maxLen at h1; omega
  go_enter Try.func28, Try.ntmps28
  go_wp2_with fail
  refine (left_no ao n cap x 8 8 rfl w hn hno).mono ?_
  rintro e w1 ⟨rfl, rfl⟩
  go_wp2_with fail
  go_ret3
  exact ⟨rfl, Below.refl _ _⟩

set_option maxRecDepth 100000 in
set_option maxHeartbeats 400000 in
theorem rTakeNumber_yes (ao : Option Addr) (n cap : Nat) (l : List UInt8) (x : Nat) (w : World) (hb : BS w ao n cap l) (hx : x + 8 ≤ n) :
    Calls Try.prog 28 #[.slice ao n cap, .int .i64 x] w fun e w' =>
      e = .returned (.tuple #[.int .u64 ((num ((l.drop x).take 8) : Nat) : Int), .int .i64 ((x : Int) + 8), .int .i64 0]) ∧ Below w.heap.size w w' := by
  have hn : n ≤ 9223372036854775807 := by have h1 := hb.2.2.1; have h2 := hb.2.1; unfold maxLen at h1; omega
  go_enter Try.func28, Try.ntmps28
  go_wp2_with fail
  refine (left_yes ao n cap x 8 8 rfl w hn hx).mono ?_
  rintro e w1 ⟨rfl, rfl⟩
  go_wp2_with (with_reducible show wpList _ _ _ _ _ _; (refine wpList_cut rfl (.tmp 13) (.tmp 14) (.tmp 16) 50 5 rfl u8_slice (u8_size _) ao n cap l rfl hb .i64 .i64 x (x + 8) rfl (by simp [Act.eval]) (by omega) hx ?_); intro ao1 hb1; rw [Nat.add_sub_cancel_left, List.drop_take, Nat.add_sub_cancel_left] at hb1)
  refine (said_any ao1 8 (cap - x) _ w hb1 (by omega)).mono ?_
  rintro e w1 ⟨rfl, rfl⟩
  go_wp2_with fail
  go_ret3
  exact ⟨rfl, Below.refl _ _⟩

theorem rTakeText_no1 (ao : Option Addr) (n cap : Nat) (l : List UInt8) (x most : Int) (w : World) (hb : BS w ao n cap l) (hno : x < 0 ∨ (n : Int) < x ∨ (n : Int) - x < 4) :
    Calls Try.prog 29 #[.slice ao n cap, .int .i64 x, .int .i64 most] w fun e w' => e = .returned (.tuple #[.string ByteArray.empty, .int .i64 0, .int .i64 100]) ∧ Below w.heap.size w w' := by
  have hn : n ≤ 9223372036854775807 := by have h1 := hb.2.2.1; have h2 := hb.2.1; unfold maxLen at h1; omega
  go_enter Try.func29, Try.ntmps29
  go_wp2_with fail
  refine (left_no ao n cap x 4 4 rfl w hn hno).mono ?_
  rintro e w1 ⟨rfl, rfl⟩
  go_wp2_with fail
  go_ret3
  exact ⟨rfl, Below.refl _ _⟩

set_option maxRecDepth 100000 in
set_option maxHeartbeats 400000 in
theorem rTakeText_no2 (ao : Option Addr) (n cap : Nat) (l : List UInt8) (x z : Nat) (most : Int) (w : World) (hb : BS w ao n cap l) (hx : x + 4 ≤ n) (hz : Hid (num ((l.drop x).take 4) = z)) (hzl : z < 4294967296) (hno : most < z) :
    Calls Try.prog 29 #[.slice ao n cap, .int .i64 x, .int .i64 most] w fun e w' => e = .returned (.tuple #[.string ByteArray.empty, .int .i64 0, .int .i64 100]) ∧ Below w.heap.size w w' := by
  have hn : n ≤ 9223372036854775807 := by have h1 := hb.2.2.1; have h2 := hb.2.1; unfold maxLen at h1; omega
  have sai : ∀ ao1, BS w ao1 4 (cap - x) ((l.drop x).take 4) → Calls Try.prog 37 #[.slice ao1 4 (cap - x)] w fun e w' => e = .returned (.int .u64 (z : Int)) ∧ w = w' := fun ao1 h => by
    have := said_any ao1 4 (cap - x) _ w h (by omega)
    rwa [hz.out] at this
  go_enter Try.func29, Try.ntmps29
  go_wp2_with fail
  refine (left_yes ao n cap x 4 4 rfl w hn hx).mono ?_
  rintro e w1 ⟨rfl, rfl⟩
  go_wp2_with (with_reducible show wpList _ _ _ _ _ _; (refine wpList_cut rfl (.tmp 16) (.tmp 17) (.tmp 19) 50 5 rfl u8_slice (u8_size _) ao n cap l rfl hb .i64 .i64 x (x + 4) rfl (by simp [Act.eval]) (by omega) hx ?_); intro ao1 hb1; rw [Nat.add_sub_cancel_left, List.drop_take, Nat.add_sub_cancel_left] at hb1)
  refine (sai ao1 hb1).mono ?_
  rintro e w1 ⟨rfl, rfl⟩
  go_wp2_with fail
  go_ret3
  exact ⟨rfl, Below.refl _ _⟩

set_option maxRecDepth 100000 in
set_option maxHeartbeats 400000 in
theorem rTakeText_no3 (ao : Option Addr) (n cap : Nat) (l : List UInt8) (x z : Nat) (most : Int) (w : World) (hb : BS w ao n cap l) (hx : x + 4 ≤ n) (hz : Hid (num ((l.drop x).take 4) = z)) (hzl : z < 4294967296) (hmost : (z : Int) ≤ most) (hno : n < x + 4 + z) :
    Calls Try.prog 29 #[.slice ao n cap, .int .i64 x, .int .i64 most] w fun e w' => e = .returned (.tuple #[.string ByteArray.empty, .int .i64 0, .int .i64 100]) ∧ Below w.heap.size w w' := by
  have hn : n ≤ 9223372036854775807 := by have h1 := hb.2.2.1; have h2 := hb.2.1; unfold maxLen at h1; omega
  have sai : ∀ ao1, BS w ao1 4 (cap - x) ((l.drop x).take 4) → Calls Try.prog 37 #[.slice ao1 4 (cap - x)] w fun e w' => e = .returned (.int .u64 (z : Int)) ∧ w = w' := fun ao1 h => by
    have := said_any ao1 4 (cap - x) _ w h (by omega)
    rwa [hz.out] at this
  have hd : (n : Int) - (x : Int) - 4 < (z : Int) := by omega
  go_enter Try.func29, Try.ntmps29
  go_wp2_with fail
  refine (left_yes ao n cap x 4 4 rfl w hn hx).mono ?_
  rintro e w1 ⟨rfl, rfl⟩
  go_wp2_with (with_reducible show wpList _ _ _ _ _ _; (refine wpList_cut rfl (.tmp 16) (.tmp 17) (.tmp 19) 50 5 rfl u8_slice (u8_size _) ao n cap l rfl hb .i64 .i64 x (x + 4) rfl (by simp [Act.eval]) (by omega) hx ?_); intro ao1 hb1; rw [Nat.add_sub_cancel_left, List.drop_take, Nat.add_sub_cancel_left] at hb1)
  refine (sai ao1 hb1).mono ?_
  rintro e w1 ⟨rfl, rfl⟩
  go_wp2_with fail
  go_ret3
  exact ⟨rfl, Below.refl _ _⟩

set_option maxRecDepth 100000 in
set_option maxHeartbeats 400000 in
theorem rTakeText_yes (ao : Option Addr) (n cap : Nat) (l : List UInt8) (x z : Nat) (most : Int) (w : World) (hb : BS w ao n cap l) (hz : Hid (num ((l.drop x).take 4) = z)) (hzl : z < 4294967296) (hmost : (z : Int) ≤ most) (hx : x + 4 + z ≤ n) :
    Calls Try.prog 29 #[.slice ao n cap, .int .i64 x, .int .i64 most] w fun e w' => e = .returned (.tuple #[.string (strOf ((l.drop (x + 4)).take z)), .int .i64 ((x : Int) + 4 + z), .int .i64 0]) ∧ Below w.heap.size w w' := by
  have hn : n ≤ 9223372036854775807 := by have h1 := hb.2.2.1; have h2 := hb.2.1; unfold maxLen at h1; omega
  have sai : ∀ ao1, BS w ao1 4 (cap - x) ((l.drop x).take 4) → Calls Try.prog 37 #[.slice ao1 4 (cap - x)] w fun e w' => e = .returned (.int .u64 (z : Int)) ∧ w = w' := fun ao1 h => by
    have := said_any ao1 4 (cap - x) _ w h (by omega)
    rwa [hz.out] at this
  have hd : (z : Int) ≤ (n : Int) - (x : Int) - 4 := by omega
  go_enter Try.func29, Try.ntmps29
  go_wp2_with fail
  refine (left_yes ao n cap x 4 4 rfl w hn (by omega)).mono ?_
  rintro e w1 ⟨rfl, rfl⟩
  go_wp2_with (with_reducible show wpList _ _ _ _ _ _; (refine wpList_cut rfl (.tmp 16) (.tmp 17) (.tmp 19) 50 5 rfl u8_slice (u8_size _) ao n cap l rfl hb .i64 .i64 x (x + 4) rfl (by simp [Act.eval]) (by omega) (by omega) ?_); intro ao1 hb1; rw [Nat.add_sub_cancel_left, List.drop_take, Nat.add_sub_cancel_left] at hb1)
  refine (sai ao1 hb1).mono ?_
  rintro e w1 ⟨rfl, rfl⟩
  go_wp2_with (with_reducible show wpList _ _ _ _ _ _; (refine wpList_cut rfl (.tmp 35) (.tmp 37) (.tmp 41) 50 5 rfl u8_slice (u8_size _) ao n cap l rfl hb .i64 .i64 (x + 4) (x + 4 + z) (by simp [Act.eval]) (by simp [Act.eval]) (by omega) hx ?_); intro ao2 hb2; rw [Nat.add_sub_cancel_left, List.drop_take, Nat.add_sub_cancel_left] at hb2; have hcv := run_conv (P := Try.prog) 50 5 Try.underlying50 Try.underlying5 9 Try.underlying9 hb2)
  go_ret3
  exact ⟨rfl, Below.refl _ _⟩

end Go.Proofs.Ytmhikoblaejhhaa

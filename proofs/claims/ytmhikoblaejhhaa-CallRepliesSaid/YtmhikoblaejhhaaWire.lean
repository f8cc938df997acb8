/- Contracts of the functions of package wire: what each returns, for all arguments; memory that was there is unchanged. -/
import Derived.Test.YtmhikoblaejhhaaHid
import Derived.Test.YtmhikoblaejhhaaBytes
import Derived.Deep.RegionLaw
namespace Go.Proofs.Ytmhikoblaejhhaa
open Go.ChangeShapes Go.WideShapes Go.ChangeAt Go.RowKit
set_option linter.unusedVariables false

theorem info_u8 : (Try.prog.info? 5).map (fun i => (i.zero, i.size, i.bytes)) = some (some (.int .u8 0), 1, 1) := by kernel_rfl

theorem le8_cells (k : Nat) (hk : k < 18446744073709551616) : (#[Value.int .u8 ((k : Int) % 256), Value.int .u8 ((k : Int) / 256 % 256), Value.int .u8 ((k : Int) / 65536 % 256), Value.int .u8 ((k : Int) / 16777216 % 256), Value.int .u8 ((k : Int) / 4294967296 % 256),
    Value.int .u8 ((k : Int) / 1099511627776 % 256), Value.int .u8 ((k : Int) / 281474976710656 % 256), Value.int .u8 ((k : Int) / 72057594037927936)] : Array Value) = (cel (le 8 k)).toArray := by
  simp only [cel, le, List.map_cons, List.map_nil, Nat.div_div_eq_div_mul, UInt8.toNat_ofNat']
  congr 1
  simp only [List.cons.injEq, Value.int.injEq, true_and, and_true]
  refine ⟨?_, ?_, ?_, ?_, ?_, ?_, ?_, ?_⟩ <;> omega

set_option maxRecDepth 100000 in
set_option maxHeartbeats 1000000 in
theorem spread_any (k : Nat) (hk : k < 18446744073709551616) (w : World) :
    Calls Try.prog 30 #[.int .u64 k] w fun e w' => e = .returned (.agg (cel (le 8 k)).toArray) ∧ Below w.heap.size w w' := by
  go_enter Try.func30, Try.ntmps30
  go_wp2
  refine wp_loop_rounds 9 ?_
  iterate 9 (rw [rounds_succ]; go_wp2)
  refine bodyPost_ret (results_cell_row rfl _ _ w.heap.size 65 _ (0, 0) _ rfl (by rw [Below.heap_alloc _ _ _ (by simp)]; exact heap_alloc_new _ _) Try.underlying65 rfl (by kernel_rfl)) rfl ?_
  rw [le8_cells k hk]
  exact ⟨rfl, ((Below.refl _ _).alloc (Nat.le_refl _) _).alloc (by simp) _⟩

theorem BS.none {w : World} {ao : Option Addr} {n cap : Nat} {l : List UInt8} (h : BS w ao n cap l) : ao = none → n = 0 ∧ cap = 0 := fun e => by
  have := h.2.2.2.1 e; have := h.2.1; omega

set_option maxRecDepth 100000 in
set_option maxHeartbeats 400000 in
theorem copied_any (ao : Option Addr) (n cap : Nat) (l : List UInt8) (room : Nat) (r : Int) (hr : r = (room : Int)) (w : World) (hb : BS w ao n cap l) (hs : n + room ≤ 281474976710656) :
    Calls Try.prog 31 #[.slice ao n cap, .int .i64 r] w fun e w' => ∃ g, e = .returned (.slice (some ⟨g, 0, none⟩) n (n + room)) ∧
      w'.ownsRow w.heap.size 5 1 (.slice (some ⟨g, 0, none⟩) n (n + room)) n (cel l) ∧ Below w.heap.size w w' := by
  obtain ⟨i0, hi, hz0, hz1, hz2⟩ := info_parts info_u8
  have hm : n + room ≤ maxLen := by unfold maxLen; omega
  have hlen := hb.1
  subst hr
  go_enter Try.func31, Try.ntmps31
  go_wp2_with (first
    | (at_make; refine wpList_make_own _ rfl _ _ 50 rfl w.heap.size 5 i0 (.int .u8 0) 1 Try.underlying50 hi hz0 hz1 .i64 .i64 _ (n + room) rfl rfl (by omega) (by rw [hz2]; omega) hm (Nat.le_refl _) ?_; intro w1 hown1 hgrow1)
    | (at_builtin; refine wpList_append_fits_any _ rfl (.tmp 9) (.tmp 10) 50 rfl w.heap.size 5 i0 1 Try.underlying50 hi hz1 _ 0 (n + room) [] rfl hown1 ao n cap (cel l) rfl (by rw [cel_length]; omega) hb.none (hb.below ((Below.refl _ _).grown hgrow1 (Nat.le_refl _) (fun k h => by cases h)) (Nat.le_refl _)).2.2.2.2 (cel_one l) (by omega) ?_; intro w2 hown2 hgrow2))
  simp only [Nat.zero_add, List.nil_append] at hown2
  have bel : Below w.heap.size w w2 := ((Below.refl _ _).grown hgrow1 (Nat.le_refl _) (fun k h => by cases h)).grown hgrow2 hgrow1.size (fun k h => by cases h; exact Nat.le_refl _)
  go_ret
  exact ⟨_, rfl, hown2, bel⟩

theorem list8 {α : Type} (l : List α) (h : l.length = 8) : ∃ a b c d e f g i, l = [a, b, c, d, e, f, g, i] := by
  match l, h with
  | [a, b, c, d, e, f, g, i], _ => exact ⟨a, b, c, d, e, f, g, i, rfl⟩

theorem cells_of_block {w : World} {g t : Nat} {l : List Value} (h : w.heap[g]? = some (.cells l.toArray t (0, 0))) : ∀ j u, l[j]? = some u → w.cell? ((⟨g, 0, none⟩ : Addr).add j) = some u := by
  intro j u hu
  rw [Addr.add_lit, cell_of_row w g (0 + j) l.toArray t (0, 0) h]
  simpa using hu

/-- 'append' of what has room, as one step of a region that draws its order. -/
theorem step_append_fits {P : Program} {ops : Array Oper} {o : Oper} {a : Act} {w : World} {K : Act → World → Prop} {Q : Exit → Act → World → Prop} {E : Prop}
    (hg : o.guard = none) (s x : Operand) (t : TypeId) (hop : o.op = Op.call { callee := Callee.builtin Builtin.append, args := #[s, x], argTypes := #[t, t] })
    (base : Nat) (e : TypeId) (i : TypeInfo) (size : Nat) (h1 : P.underlying t = some (.slice e)) (h2 : P.info? e = some i) (h4 : i.size = size)
    (g k cap : Nat) (xs : List Value) (hs : a.eval s = .slice (some ⟨g, 0, none⟩) k cap) (hown : w.ownsRow base e size (.slice (some ⟨g, 0, none⟩) k cap) k xs) (ad : Addr) (m c : Nat) (news : List Value) (hx : a.eval x = .slice (some ad) m c) (hn : news.length = m * size)
    (hc : ∀ j u, news[j]? = some u → w.cell? (ad.add j) = some u) (h1c : ∀ u ∈ news, u.oneCell' = true) (b1 : k + m ≤ cap)
    (hK : ∀ w', w'.ownsRow base e size (.slice (some ⟨g, 0, none⟩) (k + m) cap) (k + m) (xs ++ news) → w.grownBy w' (some g) → K (a.put o.dst (.slice (some ⟨g, 0, none⟩) (k + m) cap)) w') :
    if Region.wanted o (yielded ops a.tmps) = true then Oper.wp P o a w K Q else E := by
  have hw : Region.wanted o (yielded ops a.tmps) = true := by simp [Region.wanted, hg]
  rw [if_pos hw]
  obtain ⟨w', hrun, r1, r2⟩ := run_append_fits (P := P) w base t o.type e i size h1 h2 h4 g k cap xs hown ad m c news hn hc h1c b1
  unfold Oper.wp
  simp [execOp, hop, resolve, invoke, builtin, hs, hx, hrun, Result.andThen]
  exact hK w' r1 r2

theorem own_le {w : World} {base e size g n cap : Nat} {xs : List Value} (hown : w.ownsRow base e size (.slice (some ⟨g, 0, none⟩) n cap) n xs) : base ≤ g ∧ g < w.heap.size := hown.lt g rfl

set_option maxRecDepth 100000 in
set_option maxHeartbeats 400000 in
theorem Number_any (ao : Option Addr) (n cap : Nat) (l : List UInt8) (k : Nat) (hk : k < 18446744073709551616) (w : World) (hb : BS w ao n cap l) (hs : n + 8 ≤ 281474976710656) :
    Calls Try.prog 20 #[.slice ao n cap, .int .u64 k] w fun e w' => ∃ g, e = .returned (.slice (some ⟨g, 0, none⟩) (n + 8) (n + 8)) ∧
      w'.ownsRow w.heap.size 5 1 (.slice (some ⟨g, 0, none⟩) (n + 8) (n + 8)) (n + 8) (cel (l ++ le 8 k)) ∧ Below w.heap.size w w' := by
  obtain ⟨i0, hi, hz0, hz1, hz2⟩ := info_parts info_u8
  go_enter Try.func20, Try.ntmps20
  go_wp2_with fail
  refine (spread_any k hk _).mono ?_
  rintro e w1 ⟨rfl, bel1⟩
  obtain ⟨b0, b1, b2, b3, b4, b5, b6, b7, h8⟩ := list8 (le 8 k) (le_length 8 k)
  rw [h8]
  have H8 : Hid _ := h8
  clear h8
  simp only [cel, List.map_cons, List.map_nil]
  have hb1 := hb.below bel1 (Nat.le_refl _)
  go_wp2_with fail
  have hcl : ∀ (wx : World), Below (w1.heap.size + 1) (w1.alloc (.cells #[.int .u8 b0.toNat, .int .u8 b1.toNat, .int .u8 b2.toNat, .int .u8 b3.toNat, .int .u8 b4.toNat, .int .u8 b5.toNat, .int .u8 b6.toNat, .int .u8 b7.toNat] 65)) wx →
      ∀ j u, (cel [b0, b1, b2, b3, b4, b5, b6, b7])[j]? = some u → wx.cell? ((⟨w1.heap.size, 0, none⟩ : Addr).add j) = some u := fun wx hbel => by
    refine cells_of_block (t := 65) ?_
    rw [hbel.block _ (by simp)]
    exact heap_alloc_new _ _
  go_region_law (first
    | (refine step_append_fits rfl (.tmp 9) (.tmp 10) 50 rfl _ 5 i0 1 Try.underlying50 hi hz1 _ n (n + 8) (cel l) rfl hown2 ⟨w1.heap.size, 0, none⟩ 8 8 (cel [b0, b1, b2, b3, b4, b5, b6, b7]) rfl rfl (hcl _ bel2q) (cel_one _) (Nat.le_refl _) ?_; intro w3 hown3 hgrow3)
    | (go_simp; go_at_call 31; (refine (copied_any ao n cap l 8 8 rfl _ (hb1.below (Below.drew (Below.alloc (Below.refl _ _) (Nat.le_refl _) _)) (Nat.le_refl _)) hs).mono ?_; rintro e w2 ⟨g, rfl, hown2, bel2⟩; have bel2q : Below (w1.heap.size + 1) (w1.alloc _) w2 := (Below.drew (Below.refl _ _)).trans (bel2.mono (by simp)))))
  have hg2 := own_le hown3
  have bel3 : Below w.heap.size w w3 := (((bel1.alloc bel1.size _).drew).trans (bel2.mono (by simp; have := bel1.size; omega))).grown hgrow3 (by have h1 := bel1.size; have h2 := bel2.size; simp at h2; omega) (fun k h => by cases h; simp at hg2; have := bel1.size; omega)
  go_wp2
  go_ret
  refine ⟨g, rfl, ?_, bel3⟩
  rw [H8.out, cel_append]
  exact own_base (by simp; have := bel1.size; omega) hown3

/-- 'append' of a string's bytes that have room. -/
theorem wpList_append_fits_string {P : Program} (w : World) {ops : Array Oper} {rest : List Oper} {o : Oper} {a : Act} {Q : Exit → Act → World → Prop}
    (hg : o.guard = none) (sl x : Operand) (t u : TypeId) (hop : o.op = Op.call { callee := Callee.builtin Builtin.append, args := #[sl, x], argTypes := #[t, u] })
    (base : Nat) (e : TypeId) (i : TypeInfo) (ht : P.underlying t = some (.slice e)) (hu : P.underlying u = some .string) (hi : P.info? e = some i) (hs1 : i.size = 1)
    (g k cap : Nat) (xs : List Value) (hs : a.eval sl = .slice (some ⟨g, 0, none⟩) k cap) (hown : w.ownsRow base e 1 (.slice (some ⟨g, 0, none⟩) k cap) k xs) (s : ByteArray) (hx : a.eval x = .string s) (b1 : k + s.size ≤ cap)
    (hK : ∀ w', w'.ownsRow base e 1 (.slice (some ⟨g, 0, none⟩) (k + s.size) cap) (k + s.size) (xs ++ Lib.strCells s) → w.grownBy w' (some g) → wpList P ops Q rest (a.put o.dst (.slice (some ⟨g, 0, none⟩) (k + s.size) cap)) w') :
    wpList P ops Q (o :: rest) a w := by
  rcases hown.2 with ⟨h', _⟩ | ⟨g', cap', cur, h', hbg, hgr, hnc, hcm, hcs, htake⟩
  · simp at h'
  · simp only [Value.slice.injEq, Option.some.injEq, Addr.mk.injEq, and_true, true_and] at h'
    obtain ⟨rfl, rfl⟩ := h'
    have hxl : xs.length = k := by simpa using hown.1
    have hcs' : cur.size = cap := by simpa using hcs
    have hrun := Lib.run_append_room_string (P := P) w t u o.type e i ht hu hi hs1 g k cap cur hgr s b1 (by omega)
    have hlen : (xs ++ Lib.strCells s).length = (k + s.size) * 1 := by rw [List.length_append, hxl, Lib.strCells_length, Nat.mul_one]
    have ht' : cur.toList.take k = xs := by simpa using htake
    refine wpList_plain hg fun K hK' => ?_
    unfold Oper.wp
    simp [execOp, hop, resolve, invoke, builtin, hs, hx, hrun, Result.andThen]
    refine hK' _ _ (hK _ ⟨hlen, .inr ⟨g, cap, _, rfl, hbg, setRow_heap w g cur _ e _ hgr, b1, hcm, ?_, ?_⟩⟩ ⟨rfl, rfl, rfl, by simp, fun j _ hj => setRow_other w g j _ (fun e => hj (by rw [e]))⟩)
    · simp only [List.size_toArray, List.length_append, List.length_take, List.length_drop, Array.length_toList, Lib.strCells_length]
      omega
    · show List.take ((k + s.size) * 1) (cur.toList.take k ++ (Lib.strCells s ++ cur.toList.drop (k + s.size))) = _
      rw [ht', ← hlen, ← List.append_assoc]
      exact List.take_left

theorem Text_over (ao : Option Addr) (n cap : Nat) (s : ByteArray) (w : World) (hs : 1048576 < s.size) (hm : s.size ≤ maxLen) :
    Calls Try.prog 21 #[.slice ao n cap, .string s] w fun e w' => e = .returned (.tuple #[.slice none 0 0, .int .i64 2]) ∧ Below w.heap.size w w' := by
  unfold maxLen at hm
  go_enter Try.func21, Try.ntmps21
  go_wp2
  go_ret2
  exact ⟨rfl, Below.refl _ _⟩

set_option maxRecDepth 100000 in
set_option maxHeartbeats 400000 in
theorem Text_fits (ao : Option Addr) (n cap : Nat) (l : List UInt8) (s : ByteArray) (w : World) (hb : BS w ao n cap l) (hm : s.size ≤ 1048576) (hs : n + (4 + s.size) ≤ 281474976710656) :
    Calls Try.prog 21 #[.slice ao n cap, .string s] w fun e w' => ∃ g, e = .returned (.tuple #[.slice (some ⟨g, 0, none⟩) (n + (4 + s.size)) (n + (4 + s.size)), .int .i64 0]) ∧
      w'.ownsRow w.heap.size 5 1 (.slice (some ⟨g, 0, none⟩) (n + (4 + s.size)) (n + (4 + s.size))) (n + (4 + s.size)) (cel (l ++ le 4 s.size ++ s.data.toList)) ∧ Below w.heap.size w w' := by
  obtain ⟨i0, hi, hz0, hz1, hz2⟩ := info_parts info_u8
  go_enter Try.func21, Try.ntmps21
  go_wp2_with fail
  refine (spread_any s.size (by omega) _).mono ?_
  rintro e w1 ⟨rfl, bel1⟩
  obtain ⟨b0, b1, b2, b3, b4, b5, b6, b7, h8⟩ := list8 (le 8 s.size) (le_length 8 s.size)
  have h4 : Hid (le 4 s.size = [b0, b1, b2, b3]) := by rw [← le_take 4 8 s.size (by omega), h8]; exact rfl
  rw [h8]
  clear h8
  simp only [cel, List.map_cons, List.map_nil]
  have hb1 := hb.below bel1 (Nat.le_refl _)
  go_wp2_with fail
  have hcl : ∀ (wx : World), Below (w1.heap.size + 1) (w1.alloc (.cells #[.int .u8 b0.toNat, .int .u8 b1.toNat, .int .u8 b2.toNat, .int .u8 b3.toNat, .int .u8 b4.toNat, .int .u8 b5.toNat, .int .u8 b6.toNat, .int .u8 b7.toNat] 65)) wx →
      ∀ j u, (cel [b0, b1, b2, b3])[j]? = some u → wx.cell? ((⟨w1.heap.size, 0, none⟩ : Addr).add j) = some u := fun wx hbel j u hu => by
    refine cells_of_block (t := 65) (l := cel [b0, b1, b2, b3, b4, b5, b6, b7]) ?_ j u ?_
    · rw [hbel.block _ (by simp)]
      exact heap_alloc_new _ _
    · rw [cel_get] at hu ⊢
      match j, hu with
      | 0, hu => exact hu
      | 1, hu => exact hu
      | 2, hu => exact hu
      | 3, hu => exact hu
  go_region_law (first
    | (refine step_append_fits rfl (.tmp 19) (.tmp 20) 50 rfl _ 5 i0 1 Try.underlying50 hi hz1 _ n (n + (4 + s.size)) (cel l) rfl hown2 ⟨w1.heap.size, 0, none⟩ 4 8 (cel [b0, b1, b2, b3]) rfl rfl (hcl _ bel2q) (cel_one _) (by omega) ?_; intro w3 hown3 hgrow3)
    | (go_simp; go_at_call 31; (refine (copied_any ao n cap l (4 + s.size) _ (by rw [IntKind.wrap_i64]; omega) _ (hb1.below (Below.drew (Below.alloc (Below.refl _ _) (Nat.le_refl _) _)) (Nat.le_refl _)) hs).mono ?_; rintro e w2 ⟨g, rfl, hown2, bel2⟩; have bel2q : Below (w1.heap.size + 1) (w1.alloc _) w2 := (Below.drew (Below.refl _ _)).trans (bel2.mono (by simp)))))
  have hg2 := own_le hown3
  have bel3 : Below w.heap.size w w3 := (((bel1.alloc bel1.size _).drew).trans (bel2.mono (by simp; have := bel1.size; omega))).grown hgrow3 (by have h1 := bel1.size; have h2 := bel2.size; simp at h2; omega) (fun k h => by cases h; simp at hg2; have := bel1.size; omega)
  go_wp2_with (at_builtin; refine wpList_append_fits_string _ rfl (.tmp 22) (.tmp 23) 50 9 rfl _ 5 i0 Try.underlying50 Try.underlying9 hi hz1 g (n + 4) (n + (4 + s.size)) _ rfl hown3 s rfl (by omega) ?_; intro w4 hown4 hgrow4)
  have bel4 : Below w.heap.size w w4 := bel3.grown hgrow4 bel3.size (fun k h => by cases h; simp at hg2; have := bel1.size; omega)
  go_ret2
  have e : n + 4 + s.size = n + (4 + s.size) := by omega
  rw [e] at hown4
  refine ⟨g, by rw [e]; rfl, ?_, bel4⟩
  rw [h4.out, cel_append, cel_append]
  exact own_base (by simp; have := bel1.size; omega) hown4

end Go.Proofs.Ytmhikoblaejhhaa

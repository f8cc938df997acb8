/- What a call of the tree's turns. -/
import Derived.Test.YtbloiilinofklaaGreatNA01
import Derived.Lib.UnsafeStr
import Derived.Lib.BufferWrite
import Derived.Laws.MakeOwn
import Derived.Test.YtbloiilinofklaaGreatNA02
import Derived.Deep.RegionHeld3

/- strings.Clone: the same bytes. -/
namespace Go.Proofs.YtbloiilinofklaaGreat
open Go.ChangeShapes Go.WideShapes Go.ChangeAt Go.RowKit
set_option linter.unusedVariables false
set_option linter.unusedSimpArgs false
namespace NT

theorem u8_under : Tryz.prog.underlying 181 = some (.slice 5) := by kernel_rfl
theorem u8_info : (Tryz.prog.info? 5).map (fun i => (i.zero, i.size, i.bytes)) = some (some (.int .u8 0), 1, 1) := by kernel_rfl
theorem pu8_under : Tryz.prog.underlying 182 = some (.pointer 5) := by kernel_rfl

set_option maxRecDepth 100000 in
set_option maxHeartbeats 4000000 in
theorem clone_any (s : ByteArray) (w : World) (hlim : s.size ≤ 281474976710656) :
    Calls Tryz.prog 115 #[.string s] w fun e w' => e = .returned (.string s) ∧ Below w.heap.size w w' := by
  by_cases h0 : s.size = 0
  · have hs : s = ⟨#[]⟩ := ByteArray.ext (Array.eq_empty_of_size_eq_zero h0)
    subst hs
    go_enter Tryz.func115, Tryz.ntmps115
    go_wp2_with fail
    go_ret
    exact ⟨rfl, Below.refl _ _⟩
  · obtain ⟨i0, hi, hz0, hz1, hz2⟩ := info_parts u8_info
    have hinfo : (Tryz.prog.info? 5).map (·.size) = some 1 := by rw [hi]; simp [hz1]
    have hco : Tryz.prog.cellsOf 5 = 1 := by simp [Program.cellsOf, hi, hz1]
    obtain ⟨N, hN⟩ : ∃ N, N = madeCells (Value.int .u8 0).cells (((s.size : Nat) : Int).toNat * i0.size) := ⟨_, rfl⟩
    have hNs : N.size = s.size := by rw [hN, size_madeCells, hz1]; simp
    have hmk : ∀ W : World, (Instr.makeSlice 181 (.int .i64 (s.size : Int)) (.int .i64 (s.size : Int))).run Tryz.prog W = .ok (.slice (some ⟨W.heap.size, 0, none⟩) s.size s.size) (W.alloc (.cells N 5)) := fun W => by
      have h := run_make (P := Tryz.prog) W 181 5 i0 (.int .u8 0) u8_under hi hz0 .i64 .i64 (s.size : Int) (s.size : Int) (by omega) (by omega) (by rw [hz2]; omega) (by omega)
      rw [← hN] at h
      simpa using h
    clear hN
    have hcp := Lib.run_copy_row_string (P := Tryz.prog) (w.alloc (.cells N 5)) 181 9 3 5 w.heap.size 0 s.size s.size s N 5 u8_under hinfo (heap_alloc_new w _) (Nat.le_refl _) (by omega)
    obtain ⟨Y, hY⟩ : ∃ Y, Y = (N.toList.take 0 ++ Lib.byteCells s.data.toList ++ N.toList.drop (0 + s.size)).toArray := ⟨_, rfl⟩
    rw [← hY] at hcp
    have hYl : Y.toList = Lib.byteCells s.data.toList := by
      rw [hY, List.toList_toArray, List.take_zero, List.nil_append, List.drop_of_length_le (by rw [Array.length_toList]; omega), List.append_nil]
    have hYs : Y.size = s.size := by rw [← Array.length_toList, hYl, Lib.byteCells_length, ← Lib.size_eq]
    have hgY : ((w.alloc (.cells N 5)).setRow w.heap.size Y).heap[w.heap.size]? = some (.cells Y 5 (0, 0)) := setRow_heap _ _ N _ 5 (0, 0) (heap_alloc_new w _)
    have hne : s.data.toList ≠ [] := fun e => h0 (by rw [Lib.size_eq, e]; rfl)
    have hUS := Lib.run_unsafeString_row (P := Tryz.prog) ((w.alloc (.cells N 5)).setRow w.heap.size Y) 182 3 9 5 pu8_under hco w.heap.size Y.size (by unfold World.shape?; rw [hgY]) s.data.toList hne (by rw [← Lib.size_eq]; omega) (by rw [← Lib.size_eq]; omega)
      (fun j x hx => Lib.cells_of_row hgY Y.size j _ (by rw [List.take_of_length_le (by rw [Array.length_toList]; exact Nat.le_refl _), hYl]; simp [Lib.byteCells, hx]))
    rw [← Lib.size_eq] at hUS
    clear hY
    go_enter Tryz.func115, Tryz.ntmps115
    go_wp2
    go_ret
    have hb1 : Below w.heap.size w (w.alloc (.cells N 5)) := (Below.refl _ w).alloc (Nat.le_refl _) _
    have hb2 : Below w.heap.size (w.alloc (.cells N 5)) ((w.alloc (.cells N 5)).setRow w.heap.size Y) := ⟨rfl, rfl, rfl, by simp, fun k hk => setRow_other _ _ _ _ (by omega)⟩
    exact ⟨rfl, Lib.below_freeze (hb1.trans hb2) (p := ⟨w.heap.size, 0, none⟩) (Nat.le_refl _) _⟩

set_option maxRecDepth 100000 in
set_option maxHeartbeats 1000000 in
theorem Clone_any (s : ByteArray) (w : World) (hlim : s.size ≤ 281474976710656) :
    Calls Tryz.prog 100 #[.string s] w fun e w' => e = .returned (.string s) ∧ Below w.heap.size w w' := by
  have c := W_hid (clone_any s w hlim)
  go_enter Tryz.func100, Tryz.ntmps100
  go_wp2_with fail
  refine c.out.mono ?_
  rintro e w1 ⟨rfl, b1⟩
  go_wp2_with fail
  go_ret
  exact ⟨rfl, b1⟩
end NT
end Go.Proofs.YtbloiilinofklaaGreat

/- Contracts of package names' newNode, put, remove: what they leave of the map of names. -/
namespace Go.Proofs.YtbloiilinofklaaGreat
open Go.ChangeShapes Go.WideShapes Go.ChangeAt Go.RowKit Go.Maps
set_option linter.unusedVariables false
set_option linter.unusedSimpArgs false
namespace NT
open IN (Keeps)

/-- Only one map of those that were there has turned. -/
def One (m k : Nat) (o : Obj) : Prop := k = m ∧ ∃ es c, o = .map es c
/-- Only one directory's own block. -/
def OneD (g k : Nat) (o : Obj) : Prop := k = g ∧ ∃ c s, o = .cells c 126 s

set_option maxRecDepth 100000 in
set_option maxHeartbeats 4000000 in
theorem remove_any (base g m : Nat) (u : Int) (pu : Option Nat) (M : ByteArray → Option (Int × Option Nat)) (k : ByteArray) (hk : NS.Sm k) (w : World) (h : DB w g u pu m M) (hb : base ≤ m) :
    Calls Tryz.prog 93 #[.pointer (some ⟨g, 0, none⟩), .string k] w fun e w' => e = .returned (.tuple #[]) ∧ NS.MB w' m (NS.upd M k none) ∧ Keeps base (One m) w w' := by
  have c2 := h.1.cell (j := 2) rfl
  have hd := fun ty => h.2.del k hk ty
  obtain ⟨es, c, hm⟩ := h.2.obj
  have hd2 : ∃ w2, (∀ ty, (Builtin.delete_ #[124, 9] ty #[.map (some m), .string k]).run Tryz.prog w = .ok (.tuple #[]) w2) ∧ NS.MB w2 m (NS.upd M k none) ∧ w.grownBy w2 (some m) := by
    obtain ⟨w2, h1, h2, h3, -⟩ := hd 0
    refine ⟨w2, fun ty => ?_, h2, h3⟩
    exact h1
  obtain ⟨w2, h1, h2, h3⟩ := hd2
  have hK := W_hid ((Keeps.refl base (One m) w).grown hm ⟨rfl, _, _, rfl⟩ hb h3)
  have h2 := W_hid h2
  clear h hd hm h3
  go_enter Tryz.func93, Tryz.ntmps93
  go_wp2_with fail
  go_end0
  exact ⟨rfl, h2.out, hK.out⟩

set_option maxRecDepth 100000 in
set_option maxHeartbeats 4000000 in
theorem put_any (base g m : Nat) (u : Int) (pu : Option Nat) (M : ByteArray → Option (Int × Option Nat)) (k : ByteArray) (hk : k.size ≤ 281474976710656) (n : Int) (x : Option Nat) (w : World) (h : DB w g u pu m M) (hb : base ≤ m) (hfew : ∀ ss, NS.Nums M ss → ss.length < 65536) :
    Calls Tryz.prog 60 #[.pointer (some ⟨g, 0, none⟩), .string k, NS.nv (n, x)] w fun e w' => e = .returned (.tuple #[]) ∧ NS.MB w' m (NS.upd M k (some (n, x))) ∧ Keeps base (One m) w w' := by
  have hk2 : NS.Sm k := by unfold NS.Sm maxLen; omega
  have cC := fun w => W_hid (Clone_any k w hk)
  have b0 : Below w.heap.size w (w.alloc (.cells #[.int .i64 n, IS.ptr x] 104)) := (Below.refl _ w).alloc (Nat.le_refl _) _
  have hlow : base ≤ w.heap.size := Nat.le_trans hb (Nat.le_of_lt h.2.lt)
  have fin : ∀ w1, Below (w.alloc (.cells #[.int .i64 n, IS.ptr x] 104)).drew.heap.size (w.alloc (.cells #[.int .i64 n, IS.ptr x] 104)).drew w1 → w1.cell? ⟨g, 2, none⟩ = some (.map (some m)) ∧ w1.cell? ⟨w.heap.size, 0, none⟩ = some (.int .i64 n) ∧ w1.cell? ⟨w.heap.size, 1, none⟩ = some (IS.ptr x) ∧ ∃ w2, (Instr.mapUpdate 124 (.map (some m)) (.string k) (NS.nv (n, x))).run Tryz.prog w1 = .ok () w2 ∧ Hid (NS.MB w2 m (NS.upd M k (some (n, x))) ∧ Keeps base (One m) w w2) := fun w1 b1 => by
    have b1' : Below w.heap.size w w1 := b0.trans ((bundrew b1).mono b0.size)
    have h1 := h.keep b1'
    have n1 : Blk w1 w.heap.size 104 [.int .i64 n, IS.ptr x] := (Blk.new _ _ _ rfl).keep (bundrew b1)
    obtain ⟨w2, r1, r2, r3, -⟩ := h1.2.put k (n, x) hk2 hfew
    obtain ⟨es, c, hm⟩ := h1.2.obj
    exact ⟨h1.1.cell (j := 2) rfl, n1.cell (j := 0) rfl, n1.cell (j := 1) rfl, w2, r1, W_hid ⟨r2, (Keeps.new b1' hlow).grown hm ⟨rfl, _, _, rfl⟩ hb r3⟩⟩
  have c2 := fun o => (h.1.alloc o).cell (j := 2) rfl
  unfold NS.nv at fin ⊢
  obtain ⟨pp, hpp⟩ := ptr_form x
  simp only [hpp] at fin ⊢
  replace fin := W_hid fin
  clear h b0 hpp
  go_enter Tryz.func60, Tryz.ntmps60
  go_wp2_with fail
  go_region_with (go_at_call 100; refine (cC _).out.mono ?_; rintro e w1 ⟨rfl, b1⟩; obtain ⟨d2, d0, d1, w2, hrun, hpost⟩ := fin.out w1 b1; clear b1)
  all_goals
    go_end0
    exact ⟨rfl, hpost.out.1, hpost.out.2⟩

theorem newMB (w : World) {x : Nat} (hx : x = w.heap.size) : NS.MB (w.alloc (.map #[] 0)) x (fun _ => none) := by subst hx; exact NS.MB.new w
/-- A result that is a node in memory. -/
theorem res_node1 {fn : Func} {r : Tmp} (hres : fn.results = #[.cell r 104]) (tmps : Array Value) (w : World) {g : Nat} {n p : Value} (hr : tmps.getD r undef = .pointer (some ⟨g, 0, none⟩)) (h : Blk w g 104 [n, p]) :
    (results fn tmps).run Tryz.prog w = .ok (.agg #[n, p]) w := by
  have h0 := h.cell (j := 0) rfl
  have h1 := h.cell (j := 1) rfl
  rw [Array.getD_eq_getD_getElem?] at hr
  simp [results, hres, go_sem, hr, h0, h1]

set_option maxRecDepth 100000 in
set_option maxHeartbeats 4000000 in
theorem newNode_file (n : Int) (u : Int) (pp : Option Addr) (w : World) :
    Calls Tryz.prog 61 #[.int .i64 n, .int .i64 1, .agg #[.int .i64 u, .pointer pp]] w fun e w' => e = .returned (NS.nv (n, none)) ∧ Below w.heap.size w w' := by
  go_enter Tryz.func61, Tryz.ntmps61
  go_wp2_with fail
  exact bodyPost_ret (res_node1 Tryz.results61 _ _ rfl ((Blk.new _ _ [.int .i64 n, .pointer none] (by simp)).alloc _)) rfl ⟨rfl, new3 _ _ _ _⟩
set_option maxRecDepth 100000 in
set_option maxHeartbeats 4000000 in
theorem newNode_dir (n : Int) (u : Int) (pp : Option Addr) (w : World) :
    Calls Tryz.prog 61 #[.int .i64 n, .int .i64 2, .agg #[.int .i64 u, .pointer pp]] w fun e w' => ∃ g m, e = .returned (.agg #[.int .i64 n, .pointer (some ⟨g, 0, none⟩)]) ∧ w.heap.size ≤ g ∧ w.heap.size ≤ m ∧ g ≠ m ∧ Blk w' g 126 [.int .i64 u, .pointer pp, .map (some m)] ∧ NS.MB w' m (fun _ => none) ∧ Below w.heap.size w w' := by
  have hmk : ∀ W : World, (Instr.makeMap 124 none).run Tryz.prog W = .ok (.map (some W.heap.size)) (W.alloc (.map #[] 0)) := fun W => by kernel_rfl
  go_enter Tryz.func61, Tryz.ntmps61
  go_wp2_with fail
  refine bodyPost_ret (res_node1 Tryz.results61 _ _ rfl ((((Blk.new _ _ [.int .i64 n, .pointer (some ⟨w.heap.size + 1 + 1 + 1 + 1, 0, none⟩)] (by simp)).alloc _).alloc _).alloc _)) rfl ?_
  exact ⟨w.heap.size + 1 + 1 + 1 + 1, w.heap.size + 1 + 1 + 1, rfl, by omega, by omega, by omega, Blk.new _ _ [.int .i64 u, .pointer pp, .map (some (w.heap.size + 1 + 1 + 1))] (by simp), (newMB _ (by simp)).alloc _, ((new3 w _ _ _).alloc (by simp; omega) _).alloc (by simp; omega) _⟩
end NT
end Go.Proofs.YtbloiilinofklaaGreat

/- Contracts of package inode's checks, and of first, which asks them one behind the other. -/
namespace Go.Proofs.YtbloiilinofklaaGreat
open Go.ChangeShapes Go.WideShapes Go.ChangeAt Go.RowKit Go.Maps
set_option linter.unusedVariables false
set_option linter.unusedSimpArgs false
namespace IN

set_option maxRecDepth 100000 in
set_option maxHeartbeats 1000000 in
theorem unless_any (b : Bool) (e : Int) (w : World) : Calls Tryz.prog 84 #[.bool b, .int .i64 e] w fun r w' => r = .returned (.int .i64 (if b = true then 0 else e)) ∧ w' = w := by
  go_enter Tryz.func84, Tryz.ntmps84
  cases b <;>
  · go_wp2
    go_ret
    exact ⟨rfl, rfl⟩

/-- What a check answers: its error, nothing turned. -/
def Ans (r : Int) (w : World) (e : Ending) (w' : World) : Prop := e = .returned (.int .i64 r) ∧ Below w.heap.size w w'
theorem ans_drew {r : Int} {w : World} (n : Nat) : Ans r w (.returned (.int .i64 r)) (w.drewN n) := ⟨rfl, ⟨rfl, rfl, rfl, Nat.le_refl _, fun _ _ => rfl⟩⟩
theorem ans_same {r : Int} {w : World} : Ans r w (.returned (.int .i64 r)) w := ⟨rfl, Below.refl _ _⟩

set_option maxRecDepth 100000 in
set_option maxHeartbeats 1000000 in
theorem made_nil (a : Value) (w : World) : Calls Tryz.prog 43 #[.pointer none, a] w (Ans 1 w) := by
  have cU := fun w => unless_any false 1 w
  go_enter Tryz.func43, Tryz.ntmps43
  go_wp2_with (go_at_call 84; refine (cU _).mono ?_; rintro e w' ⟨rfl, rfl⟩)
  go_ret
  exact ans_same
set_option maxRecDepth 100000 in
set_option maxHeartbeats 1000000 in
theorem isKind_any (k : Int) (w : World) : Calls Tryz.prog 69 #[.int .i64 k] w (Ans (if k = 1 ∨ k = 2 then 0 else 2) w) := by
  have cU := fun b w => unless_any b 2 w
  go_enter Tryz.func69, Tryz.ntmps69
  by_cases h1 : k = 1
  · subst h1
    go_wp2_with (go_at_call 84; refine (cU _ _).mono ?_; rintro e w' ⟨rfl, rfl⟩)
    go_ret
    exact ans_same
  · by_cases h2 : k = 2
    · subst h2
      go_wp2_with (go_at_call 84; refine (cU _ _).mono ?_; rintro e w' ⟨rfl, rfl⟩)
      go_ret
      exact ans_same
    · rw [if_neg (by omega)]
      go_wp2_with (go_at_call 84; refine (cU _ _).mono ?_; rintro e w' ⟨rfl, rfl⟩)
      go_ret
      exact ans_same

section
variable {base sg mb : Nat} {M : Int → Option Nat} {I L left : Int} {S : Int → Option Nd}
set_option maxRecDepth 100000 in
set_option maxHeartbeats 1000000 in
theorem made_some (a : Value) (w : World) (h : PM base w sg mb M I L left S) : Calls Tryz.prog 43 #[.pointer (some ⟨sg, 0, none⟩), a] w (Ans 0 w) := by
  have cU := fun w => unless_any true 1 w
  have c0 := h.box.cell (j := 0) rfl
  have qT : ∀ (w : World) (r : Option Nat), (binOp .neq 82 (.map r) (.map none)).run Tryz.prog w = .ok (.bool (!r.isNone)) w := fun w r => run_neq_map_nil w _ _ _ r IS.und_map
  clear h
  go_enter Tryz.func43, Tryz.ntmps43
  go_wp2_with (go_at_call 84; refine (cU _).mono ?_; rintro e w' ⟨rfl, rfl⟩)
  go_ret
  exact ans_same

/-- The answer of a check that asks for an inode. -/
theorem ptr_test (x : Option Nat) (w : World) : (binOp .neq 90 (IS.ptr x) (.pointer none)).run Tryz.prog w = .ok (.bool x.isSome) w := by
  cases x with
  | none => simp [IS.ptr, go_sem]
  | some g => simp [IS.ptr, go_sem]

set_option maxRecDepth 100000 in
set_option maxHeartbeats 2000000 in
theorem has_any (n : Int) (w : World) (h : PM base w sg mb M I L left S) (hn : IS.I64 n) : Calls Tryz.prog 71 #[.pointer (some ⟨sg, 0, none⟩), .int .i64 n] w (Ans (if (S n).isSome = true then 0 else 11) w) := by
  have cU := fun b w => unless_any b 11 w
  have c0 := h.box.cell (j := 0) rfl
  have hl := h.mp.look n hn
  have hd : (S n).isSome = (M n).isSome := by
    have := h.dom n
    cases hM : M n <;> cases hS : S n <;> simp_all
  rw [hd]
  clear h hd
  generalize M n = x at hl ⊢
  cases x with
  | none =>
    go_enter Tryz.func71, Tryz.ntmps71
    simp only [IS.ptr] at hl
    go_wp2_with (go_at_call 84; refine (cU _ _).mono ?_; rintro e w' ⟨rfl, rfl⟩)
    go_ret
    exact ans_same
  | some g =>
    go_enter Tryz.func71, Tryz.ntmps71
    simp only [IS.ptr] at hl
    go_wp2_with (go_at_call 84; refine (cU _ _).mono ?_; rintro e w' ⟨rfl, rfl⟩)
    go_ret
    exact ans_same

set_option maxRecDepth 100000 in
set_option maxHeartbeats 2000000 in
theorem room_any (n : Value) (ss : List Nat) (w : World) (h : PM base w sg mb M I L left S) (hs : IS.Nums M ss) : Calls Tryz.prog 70 #[.pointer (some ⟨sg, 0, none⟩), n] w (Ans (if (ss.length : Int) < I then 0 else 21) w) := by
  have cT := fun t => Calls.quiet_of_same (unless_any true 21 (w.drewN t))
  have cF := fun t => Calls.quiet_of_same (unless_any false 21 (w.drewN t))
  have c0 := h.box.cell (j := 0) rfl
  have c1 := h.box.cell (j := 1) rfl
  have hl := fun t ty => (h.mp.drew t).count hs ty
  have hl0 := fun ty => h.mp.count hs ty
  clear h
  by_cases hlt : (ss.length : Int) < I
  · rw [if_pos hlt]
    go_enter Tryz.func70, Tryz.ntmps70
    go_wp2_with fail
    go_quiet ((go_at_call 84; exact cT _))
    go_wp2_with fail
    go_ret
    exact ans_drew _
  · rw [if_neg hlt]
    have hd : decide ((ss.length : Int) < I) = false := decide_eq_false hlt
    go_enter Tryz.func70, Tryz.ntmps70
    go_wp2_with fail
    go_quiet ((go_at_call 84; exact cF _))
    go_wp2_with fail
    go_ret
    exact ans_drew _

set_option maxRecDepth 100000 in
set_option maxHeartbeats 2000000 in
theorem linkable_any (n : Int) (d : Nd) (w : World) (h : PM base w sg mb M I L left S) (hn : IS.I64 n) (hS : S n = some d) : Calls Tryz.prog 101 #[.pointer (some ⟨sg, 0, none⟩), .int .i64 n] w (Ans (if d.links < L then 0 else 18) w) := by
  have cT := fun t => Calls.quiet_of_same (unless_any true 18 (w.drewN t))
  have cF := fun t => Calls.quiet_of_same (unless_any false 18 (w.drewN t))
  have cV := fun b w => unless_any b 18 w
  have c0 := h.box.cell (j := 0) rfl
  have c2 := h.box.cell (j := 2) rfl
  have hl := fun t => (h.mp.drew t).look n hn
  have hl0 := h.mp.look n hn
  obtain ⟨g, v, hM, hN, -⟩ := h.has hS
  have d1 := hN.1.cell (j := 1) rfl
  rw [hM] at hl hl0
  simp only [IS.ptr] at hl hl0
  clear h hN hM
  go_enter Tryz.func101, Tryz.ntmps101
  by_cases hk : d.links < L
  · rw [if_pos hk]
    go_wp2_with fail
    go_quiet ((go_at_call 84; exact cT _))
    go_wp2_with fail
    go_ret
    exact ans_drew _
  · rw [if_neg hk]
    have hd : decide (d.links < L) = false := decide_eq_false hk
    go_wp2_with fail
    go_quiet ((go_at_call 84; exact cF _))
    go_wp2_with fail
    go_ret
    exact ans_drew _

set_option maxRecDepth 100000 in
set_option maxHeartbeats 2000000 in
theorem linked_any (n : Int) (d : Nd) (w : World) (h : PM base w sg mb M I L left S) (hn : IS.I64 n) (hS : S n = some d) : Calls Tryz.prog 110 #[.pointer (some ⟨sg, 0, none⟩), .int .i64 n] w (Ans (if 0 < d.links then 0 else 2) w) := by
  have cU := fun b w => unless_any b 2 w
  have c0 := h.box.cell (j := 0) rfl
  have hl := h.mp.look n hn
  obtain ⟨g, v, hM, hN, -⟩ := h.has hS
  have d1 := hN.1.cell (j := 1) rfl
  rw [hM] at hl
  simp only [IS.ptr] at hl
  clear h hN hM
  go_enter Tryz.func110, Tryz.ntmps110
  by_cases hk : 0 < d.links
  · rw [if_pos hk]
    go_wp2_with (go_at_call 84; refine (cU _ _).mono ?_; rintro e w' ⟨rfl, rfl⟩)
    go_ret
    simp [hk]
    exact ans_same
  · rw [if_neg hk]
    go_wp2_with (go_at_call 84; refine (cU _ _).mono ?_; rintro e w' ⟨rfl, rfl⟩)
    go_ret
    simp [hk]
    exact ans_same
end

/-- The first that is an error. -/
def fst : List Int → Int
  | [] => 0
  | r :: rs => if r = 0 then fst rs else r

/-- A check as a function value, and what it answers in each world in which all of w is there. -/
def Chk (w : World) (arg : Value) (f : Value) (r : Int) : Prop := ∃ (k : Nat) (c : Array Value), f = .func (.func k) c #[] ∧ (∀ w, (callFunc k (c ++ #[arg])).run Tryz.prog w = .ok (.enter k (c ++ #[arg])) w) ∧ ∀ W, Below w.heap.size w W → Calls Tryz.prog k (c ++ #[arg]) W (Ans r W)
end IN
end Go.Proofs.YtbloiilinofklaaGreat

/- Inodes by numbers as a list, how many bytes they store, the lowest number that is free; free of any memory. -/
namespace Go.Proofs.YtbloiilinofklaaGreat
set_option linter.unusedVariables false
set_option linter.unusedSimpArgs false
namespace IN

def ent (S : Int → Option Nd) (i : Nat) : Option (Nat × Nd) := (S ((i + 1 : Nat) : Int)).map fun d => (i + 1, d)
/-- All inodes, by rising numbers. -/
def lst (S : Int → Option Nd) (I : Nat) : List (Nat × Nd) := (List.range I).filterMap (ent S)
def lo (S : Int → Option Nd) (n : Nat) : List (Nat × Nd) := (List.range (n - 1)).filterMap (ent S)
def hi (S : Int → Option Nd) (n I : Nat) : List (Nat × Nd) := (List.range' n (I - n)).filterMap (ent S)
def ks (S : Int → Option Nd) (I : Nat) : List Nat := (lst S I).map (·.1)
def tot (S : Int → Option Nd) (I : Nat) : Nat := ((lst S I).map fun x => EM.cnt x.2.l).sum
def cntOf (x : Option Nd) : Nat := match x with | none => 0 | some d => EM.cnt d.l

theorem fm_congr {α β : Type} {f g : α → Option β} : ∀ {l : List α}, (∀ x ∈ l, f x = g x) → l.filterMap f = l.filterMap g
  | [], _ => rfl
  | a :: l, h => by
    rw [List.filterMap_cons, List.filterMap_cons, h a List.mem_cons_self, fm_congr (fun x hx => h x (List.mem_cons_of_mem _ hx))]

theorem split (S : Int → Option Nd) (n I : Nat) (h1 : 1 ≤ n) (h2 : n ≤ I) : lst S I = lo S n ++ ((S (n : Int)).map fun d => (n, d)).toList ++ hi S n I := by
  have e : List.range I = List.range (n - 1) ++ [n - 1] ++ List.range' n (I - n) := by
    rw [List.range_eq_range', List.range_eq_range']
    have e1 : List.range' 0 (n - 1) ++ [n - 1] = List.range' 0 n := by
      have : n = n - 1 + 1 := by omega
      conv => rhs; rw [this, List.range'_concat]
      simp
    rw [e1]
    have e2 : I = n + (I - n) := by omega
    conv => lhs; rw [e2]
    rw [← List.range'_append]
    simp
  unfold lst
  rw [e, List.filterMap_append, List.filterMap_append]
  have : (n - 1 + 1 : Nat) = n := by omega
  have hone : List.filterMap (ent S) [n - 1] = ((S (n : Int)).map fun d => (n, d)).toList := by
    unfold ent
    rw [List.filterMap_cons]
    rw [this]
    cases S (n : Int) <;> rfl
  rw [hone]
  rfl
theorem lo_upd (S : Int → Option Nd) (n : Nat) (x : Option Nd) : lo (upd S (n : Int) x) n = lo S n :=
  fm_congr fun i hi => by
    have := List.mem_range.1 hi
    unfold ent
    rw [upd_ne (by omega)]
theorem hi_upd (S : Int → Option Nd) (n I : Nat) (x : Option Nd) : hi (upd S (n : Int) x) n I = hi S n I :=
  fm_congr fun i hi => by
    have := List.mem_range'_1.1 hi
    unfold ent
    rw [upd_ne (by omega)]
theorem lst_upd (S : Int → Option Nd) (n I : Nat) (x : Option Nd) (h1 : 1 ≤ n) (h2 : n ≤ I) : lst (upd S (n : Int) x) I = lo S n ++ (x.map fun d => (n, d)).toList ++ hi S n I := by
  rw [split _ n I h1 h2, lo_upd, hi_upd, upd_at]
theorem tot_upd (S : Int → Option Nd) (n I : Nat) (x : Option Nd) (h1 : 1 ≤ n) (h2 : n ≤ I) : tot (upd S (n : Int) x) I + cntOf (S n) = tot S I + cntOf x := by
  unfold tot
  rw [lst_upd S n I x h1 h2, split S n I h1 h2]
  simp only [List.map_append, List.sum_append]
  cases x <;> cases hS : S (n : Int) <;> simp [cntOf] <;> omega
theorem tot_ge (S : Int → Option Nd) (n I : Nat) (h1 : 1 ≤ n) (h2 : n ≤ I) : cntOf (S n) ≤ tot S I := by
  unfold tot
  rw [split S n I h1 h2]
  simp only [List.map_append, List.sum_append]
  cases hS : S (n : Int) <;> simp [cntOf] <;> omega
theorem mem_lst {S : Int → Option Nd} {I : Nat} {x : Nat × Nd} : x ∈ lst S I ↔ 1 ≤ x.1 ∧ x.1 ≤ I ∧ S (x.1 : Int) = some x.2 := by
  unfold lst
  rw [List.mem_filterMap]
  constructor
  · rintro ⟨i, hi, e⟩
    have := List.mem_range.1 hi
    unfold ent at e
    cases hS : S ((i + 1 : Nat) : Int) with
    | none => rw [hS] at e; cases e
    | some d => rw [hS] at e; cases e; exact ⟨by simp, by simp; omega, hS⟩
  · rintro ⟨h1, h2, h3⟩
    refine ⟨x.1 - 1, List.mem_range.2 (by omega), ?_⟩
    unfold ent
    have : x.1 - 1 + 1 = x.1 := by omega
    rw [this, h3]
    rfl
theorem lst_rise (S : Int → Option Nd) (I : Nat) : (lst S I).Pairwise fun a b => a.1 < b.1 := by
  unfold lst
  rw [List.pairwise_filterMap]
  refine List.Pairwise.imp ?_ List.pairwise_lt_range
  intro i j hij a ha b hb
  unfold ent at ha hb
  cases hS : S ((i + 1 : Nat) : Int) with
  | none => rw [hS] at ha; cases ha
  | some d =>
    cases hS' : S ((j + 1 : Nat) : Int) with
    | none => rw [hS'] at hb; cases hb
    | some d' => rw [hS] at ha; rw [hS'] at hb; cases ha; cases hb; simp; exact hij
theorem ks_rise (S : Int → Option Nd) (I : Nat) : (ks S I).Pairwise (· < ·) := by
  unfold ks
  rw [List.pairwise_map]
  exact lst_rise S I
theorem ks_mem {S : Int → Option Nd} {I : Nat} (h : ∀ n, S n ≠ none → 1 ≤ n ∧ n ≤ (I : Int)) (f : Nat) : f ∈ ks S I ↔ S (f : Int) ≠ none := by
  unfold ks
  rw [List.mem_map]
  constructor
  · rintro ⟨x, hx, rfl⟩
    rw [(mem_lst.1 hx).2.2]
    simp
  · intro hf
    have := h f hf
    cases hS : S (f : Int) with
    | none => exact absurd hS hf
    | some d => exact ⟨(f, d), mem_lst.2 ⟨by omega, by omega, hS⟩, rfl⟩
theorem ks_nums {S : Int → Option Nd} {M : Int → Option Nat} {I : Nat} (h : ∀ n, S n ≠ none → 1 ≤ n ∧ n ≤ (I : Int)) (hd : ∀ n, M n = none ↔ S n = none) : IS.Nums M (ks S I) :=
  ⟨(ks_rise S I).imp fun h => by omega, fun f => by rw [ks_mem h, ne_eq, ne_eq, hd]⟩
theorem ks_len (S : Int → Option Nd) (I : Nat) : (ks S I).length = (lst S I).length := by simp [ks]
theorem lst_len (S : Int → Option Nd) (I : Nat) : (lst S I).length ≤ I := by
  have := List.length_filterMap_le (ent S) (List.range I)
  simpa [lst] using this
/-- Two rising lists of the same numbers are one. -/
theorem rise_eq : ∀ {l m : List Nat}, l.Pairwise (· < ·) → m.Pairwise (· < ·) → (∀ x, x ∈ l ↔ x ∈ m) → l = m
  | [], [], _, _, _ => rfl
  | [], b :: m, _, _, h => by have := (h b).2 (by simp); simp at this
  | a :: l, [], _, _, h => by have := (h a).1 (by simp); simp at this
  | a :: l, b :: m, h1, h2, h => by
    have p1 := List.pairwise_cons.1 h1
    have p2 := List.pairwise_cons.1 h2
    have hab : a = b := by
      have ha := (h a).1 (by simp)
      have hb := (h b).2 (by simp)
      rcases List.mem_cons.1 ha with e | ha'
      · exact e
      · rcases List.mem_cons.1 hb with e | hb'
        · exact e.symm
        · have := p1.1 b hb'; have := p2.1 a ha'; omega
    subst hab
    rw [rise_eq p1.2 p2.2 fun x => ?_]
    have hx := h x
    constructor
    · intro hxl
      rcases List.mem_cons.1 (hx.1 (List.mem_cons_of_mem _ hxl)) with e | h'
      · subst e; have := p1.1 x hxl; omega
      · exact h'
    · intro hxm
      rcases List.mem_cons.1 (hx.2 (List.mem_cons_of_mem _ hxm)) with e | h'
      · subst e; have := p2.1 x hxm; omega
      · exact h'

/-- The lowest number that is free. -/
def Low (S : Int → Option Nd) (n : Nat) : Prop := 1 ≤ n ∧ S (n : Int) = none ∧ ∀ m : Nat, 1 ≤ m → m < n → S (m : Int) ≠ none
theorem low_or (S : Int → Option Nd) : ∀ k : Nat, (∃ n, n ≤ k ∧ Low S n) ∨ ∀ m : Nat, 1 ≤ m → m ≤ k → S (m : Int) ≠ none
  | 0 => .inr fun m h1 h2 => by omega
  | k + 1 => by
    rcases low_or S k with ⟨n, h1, h2⟩ | h
    · exact .inl ⟨n, by omega, h2⟩
    · by_cases e : S ((k + 1 : Nat) : Int) = none
      · exact .inl ⟨k + 1, by omega, by omega, e, fun m h1 h2 => h m h1 (by omega)⟩
      · refine .inr fun m h1 h2 => ?_
        by_cases hm : m = k + 1
        · rw [hm]; exact e
        · exact h m h1 (by omega)
theorem fm_full {S : Int → Option Nd} : ∀ k : Nat, (∀ m : Nat, 1 ≤ m → m ≤ k → S (m : Int) ≠ none) → ((List.range k).filterMap (ent S)).length = k ∧ ∀ i x, ((List.range k).filterMap (ent S))[i]? = some x → x.1 = i + 1
  | 0, _ => ⟨rfl, fun i x h => by simp at h⟩
  | k + 1, h => by
    obtain ⟨h1, h2⟩ := fm_full k fun m a b => h m a (by omega)
    have h3 := h (k + 1) (by omega) (by omega)
    cases hS : S ((k + 1 : Nat) : Int) with
    | none => exact absurd hS h3
    | some d =>
      have e : (List.range (k + 1)).filterMap (ent S) = (List.range k).filterMap (ent S) ++ [(k + 1, d)] := by
        rw [List.range_succ, List.filterMap_append]
        congr 1
        unfold ent
        rw [List.filterMap_cons, hS]
        rfl
      rw [e]
      refine ⟨by simp [h1], fun i x hx => ?_⟩
      by_cases hi : i < k
      · rw [List.getElem?_append_left (by omega)] at hx
        exact h2 i x hx
      · rw [List.getElem?_append_right (by omega), h1] at hx
        have : i - k = 0 := by
          rcases Nat.eq_zero_or_pos (i - k) with e | e
          · exact e
          · rw [List.getElem?_eq_none (by simp; omega)] at hx; cases hx
        rw [this] at hx
        cases hx
        simp; omega
theorem low_of {S : Int → Option Nd} {I : Nat} (h : (lst S I).length < I) : ∃ n, n ≤ I ∧ Low S n := by
  rcases low_or S I with h1 | h1
  · exact h1
  · have := (fm_full I h1).1
    unfold lst at h
    omega
theorem low_lo {S : Int → Option Nd} {n : Nat} (h : Low S n) : (lo S n).length = n - 1 ∧ ∀ i x, (lo S n)[i]? = some x → x.1 = i + 1 :=
  fm_full (n - 1) fun m h1 h2 => h.2.2 m h1 (by have := h.1; omega)

/-- What an inode may be: at most L links, k opens. -/
structure Good (L k : Nat) (d : Nd) : Prop where
  kind : d.kind = 1 ∨ d.kind = 2
  links : 0 ≤ d.links ∧ d.links ≤ L
  opens : 0 ≤ d.opens ∧ d.opens ≤ k
  some : 1 ≤ d.links + d.opens
  size : 0 ≤ d.size ∧ d.size ≤ 1048576
  ok : EM.ok 0 d.l = true
  fin : ends d.l ≤ d.size
  dir : d.kind = 2 → d.size = 0 ∧ d.l = []
/-- What a store may be. -/
structure Fine (I L B k : Nat) (S : Int → Option Nd) : Prop where
  num : ∀ n, S n ≠ none → 1 ≤ n ∧ n ≤ (I : Int)
  good : ∀ n d, S n = some d → Good L k d
  tot : tot S I ≤ B
theorem Fine.empty (I L B : Nat) : Fine I L B 0 fun _ => none :=
  ⟨fun _ h => absurd rfl h, fun _ _ h => (by cases h), by
    have : lst (fun _ => none) I = [] := List.eq_nil_iff_forall_not_mem.2 fun x hx => by have := (mem_lst.1 hx).2.2; cases this
    unfold IN.tot; rw [this]; simp⟩
theorem Good.mono {L k k' : Nat} {d : Nd} (h : Good L k d) (hk : k ≤ k') : Good L k' d := ⟨h.kind, h.links, ⟨h.opens.1, by have := h.opens.2; omega⟩, h.some, h.size, h.ok, h.fin, h.dir⟩
theorem Fine.mono {I L B k k' : Nat} {S : Int → Option Nd} (h : Fine I L B k S) (hk : k ≤ k') : Fine I L B k' S := ⟨h.num, fun n d e => (h.good n d e).mono hk, h.tot⟩
/-- An inode turned. -/
theorem Fine.turn {I L B k : Nat} {S : Int → Option Nd} (h : Fine I L B k S) {n : Nat} {x : Option Nd} (h1 : 1 ≤ n) (h2 : n ≤ I) (hg : ∀ d, x = some d → Good L k d) (ht : IN.tot S I + cntOf x ≤ B + cntOf (S n)) : Fine I L B k (upd S n x) := by
  refine ⟨fun m hm => ?_, fun m d hd => ?_, ?_⟩
  · by_cases e : m = n
    · omega
    · rw [upd_ne e] at hm; exact h.num m hm
  · by_cases e : m = n
    · subst e; rw [upd_at] at hd; exact hg d hd
    · rw [upd_ne e] at hd; exact h.good m d hd
  · have := tot_upd S n I x h1 h2
    omega
end IN
end Go.Proofs.YtbloiilinofklaaGreat

/- Contracts of package inode's first, which asks checks one behind the other. -/
namespace Go.Proofs.YtbloiilinofklaaGreat
open Go.ChangeShapes Go.WideShapes Go.ChangeAt Go.RowKit Go.Maps
set_option linter.unusedVariables false
set_option linter.unusedSimpArgs false
namespace IN

set_option maxRecDepth 100000 in
set_option maxHeartbeats 4000000 in
theorem first_one (p : Value) (k1 : Nat) (r1 : Int) (n : Int) (b : Nat) (w : World) (hB : Blk w b 81 [.func (.func k1) #[p] #[]])
    (e1 : ∀ w, (callFunc k1 #[p, .int .i64 n]).run Tryz.prog w = .ok (.enter k1 #[p, .int .i64 n]) w)
    (h1 : ∀ W, Below w.heap.size w W → Calls Tryz.prog k1 #[p, .int .i64 n] W (Ans r1 W)) :
    Calls Tryz.prog 42 #[.int .i64 n, .slice (some ⟨b, 0, none⟩) 1 1] w (Ans (fst [r1]) w) := by
  have c0 := hB.cell (j := 0) rfl
  have hlt := hB.lt
  have HB := W_hid hB
  have h1 := W_hid h1
  clear hB
  go_enter Tryz.func42, Tryz.ntmps42
  go_wp2_with fail
  refine wp_loop_rounds 2 ?_
  rw [rounds_succ]
  go_wp2_with fail
  refine (h1.out w (Below.refl _ _)).mono ?_
  rintro e w1 ⟨rfl, b1⟩
  by_cases hr1 : r1 = 0
  · subst hr1
    go_wp2_with fail
    rw [rounds_succ]
    go_wp2_with fail
    go_ret
    exact ⟨rfl, b1⟩
  · go_wp2_with fail
    go_ret
    exact ⟨by simp [fst, hr1], b1⟩

set_option maxRecDepth 100000 in
set_option maxHeartbeats 4000000 in
theorem first_two (p : Value) (k1 k2 : Nat) (r1 r2 : Int) (n : Int) (b : Nat) (w : World) (hB : Blk w b 81 [.func (.func k1) #[p] #[], .func (.func k2) #[p] #[]])
    (e1 : ∀ w, (callFunc k1 #[p, .int .i64 n]).run Tryz.prog w = .ok (.enter k1 #[p, .int .i64 n]) w) (e2 : ∀ w, (callFunc k2 #[p, .int .i64 n]).run Tryz.prog w = .ok (.enter k2 #[p, .int .i64 n]) w)
    (h1 : ∀ W, Below w.heap.size w W → Calls Tryz.prog k1 #[p, .int .i64 n] W (Ans r1 W)) (h2 : ∀ W, r1 = 0 → Below w.heap.size w W → Calls Tryz.prog k2 #[p, .int .i64 n] W (Ans r2 W)) :
    Calls Tryz.prog 42 #[.int .i64 n, .slice (some ⟨b, 0, none⟩) 2 2] w (Ans (fst [r1, r2]) w) := by
  have c0 := hB.cell (j := 0) rfl
  have hlt := hB.lt
  have HB := W_hid hB
  have h1 := W_hid h1
  have h2 := W_hid h2
  clear hB
  go_enter Tryz.func42, Tryz.ntmps42
  go_wp2_with fail
  refine wp_loop_rounds 3 ?_
  rw [rounds_succ]
  go_wp2_with fail
  refine (h1.out w (Below.refl _ _)).mono ?_
  rintro e w1 ⟨rfl, b1⟩
  by_cases hr1 : r1 = 0
  · subst hr1
    have c1 := (HB.out.keep b1).cell (j := 1) rfl
    have B1 := W_hid b1
    clear b1
    go_wp2_with fail
    rw [rounds_succ]
    go_wp2_with fail
    refine (h2.out w1 (by simp) B1.out).mono ?_
    rintro e w2 ⟨rfl, b2⟩
    have b2 := B1.out.trans (b2.mono B1.out.size)
    by_cases hr2 : r2 = 0
    · subst hr2
      go_wp2_with fail
      rw [rounds_succ]
      go_wp2_with fail
      go_ret
      exact ⟨rfl, b2⟩
    · go_wp2_with fail
      go_ret
      exact ⟨by simp [fst, hr2], b2⟩
  · go_wp2_with fail
    go_ret
    exact ⟨by simp [fst, hr1], b1⟩

set_option maxRecDepth 100000 in
set_option maxHeartbeats 4000000 in
theorem first_three (p : Value) (k1 k2 k3 : Nat) (r1 r2 r3 : Int) (n : Int) (b : Nat) (w : World) (hB : Blk w b 81 [.func (.func k1) #[p] #[], .func (.func k2) #[p] #[], .func (.func k3) #[p] #[]])
    (e1 : ∀ w, (callFunc k1 #[p, .int .i64 n]).run Tryz.prog w = .ok (.enter k1 #[p, .int .i64 n]) w) (e2 : ∀ w, (callFunc k2 #[p, .int .i64 n]).run Tryz.prog w = .ok (.enter k2 #[p, .int .i64 n]) w) (e3 : ∀ w, (callFunc k3 #[p, .int .i64 n]).run Tryz.prog w = .ok (.enter k3 #[p, .int .i64 n]) w)
    (h1 : ∀ W, Below w.heap.size w W → Calls Tryz.prog k1 #[p, .int .i64 n] W (Ans r1 W)) (h2 : ∀ W, r1 = 0 → Below w.heap.size w W → Calls Tryz.prog k2 #[p, .int .i64 n] W (Ans r2 W)) (h3 : ∀ W, r1 = 0 → r2 = 0 → Below w.heap.size w W → Calls Tryz.prog k3 #[p, .int .i64 n] W (Ans r3 W)) :
    Calls Tryz.prog 42 #[.int .i64 n, .slice (some ⟨b, 0, none⟩) 3 3] w (Ans (fst [r1, r2, r3]) w) := by
  have c0 := hB.cell (j := 0) rfl
  have hlt := hB.lt
  have HB := W_hid hB
  have h1 := W_hid h1
  have h2 := W_hid h2
  have h3 := W_hid h3
  clear hB
  go_enter Tryz.func42, Tryz.ntmps42
  go_wp2_with fail
  refine wp_loop_rounds 4 ?_
  rw [rounds_succ]
  go_wp2_with fail
  refine (h1.out w (Below.refl _ _)).mono ?_
  rintro e w1 ⟨rfl, b1⟩
  by_cases hr1 : r1 = 0
  · subst hr1
    have c1 := (HB.out.keep b1).cell (j := 1) rfl
    have B1 := W_hid b1
    clear b1
    go_wp2_with fail
    rw [rounds_succ]
    go_wp2_with fail
    refine (h2.out w1 (by simp) B1.out).mono ?_
    rintro e w2 ⟨rfl, b2⟩
    have b2 := B1.out.trans (b2.mono B1.out.size)
    by_cases hr2 : r2 = 0
    · subst hr2
      have c2 := (HB.out.keep b2).cell (j := 2) rfl
      have B2 := W_hid b2
      clear b2
      go_wp2_with fail
      rw [rounds_succ]
      go_wp2_with fail
      refine (h3.out w2 (by simp) (by simp) B2.out).mono ?_
      rintro e w3 ⟨rfl, b3⟩
      have b3 := B2.out.trans (b3.mono B2.out.size)
      by_cases hr3 : r3 = 0
      · subst hr3
        go_wp2_with fail
        rw [rounds_succ]
        go_wp2_with fail
        go_ret
        exact ⟨rfl, b3⟩
      · go_wp2_with fail
        go_ret
        exact ⟨by simp [fst, hr3], b3⟩
    · go_wp2_with fail
      go_ret
      exact ⟨by simp [fst, hr2], b2⟩
  · go_wp2_with fail
    go_ret
    exact ⟨by simp [fst, hr1], b1⟩

set_option maxRecDepth 100000 in
set_option maxHeartbeats 4000000 in
theorem first_make (p : Value) (k1 k2 k3 : Nat) (r1 r2 r3 : Int) (n : Int) (b : Nat) (w : World) (hB : Blk w b 81 [.func (.func k1) #[p] #[], .func (.func k2) #[] #[], .func (.func k3) #[p] #[]])
    (e1 : ∀ w, (callFunc k1 #[p, .int .i64 n]).run Tryz.prog w = .ok (.enter k1 #[p, .int .i64 n]) w) (e2 : ∀ w, (callFunc k2 #[.int .i64 n]).run Tryz.prog w = .ok (.enter k2 #[.int .i64 n]) w) (e3 : ∀ w, (callFunc k3 #[p, .int .i64 n]).run Tryz.prog w = .ok (.enter k3 #[p, .int .i64 n]) w)
    (h1 : ∀ W, Below w.heap.size w W → Calls Tryz.prog k1 #[p, .int .i64 n] W (Ans r1 W)) (h2 : ∀ W, r1 = 0 → Below w.heap.size w W → Calls Tryz.prog k2 #[.int .i64 n] W (Ans r2 W)) (h3 : ∀ W, r1 = 0 → r2 = 0 → Below w.heap.size w W → Calls Tryz.prog k3 #[p, .int .i64 n] W (Ans r3 W)) :
    Calls Tryz.prog 42 #[.int .i64 n, .slice (some ⟨b, 0, none⟩) 3 3] w (Ans (fst [r1, r2, r3]) w) := by
  have c0 := hB.cell (j := 0) rfl
  have hlt := hB.lt
  have HB := W_hid hB
  have h1 := W_hid h1
  have h2 := W_hid h2
  have h3 := W_hid h3
  clear hB
  go_enter Tryz.func42, Tryz.ntmps42
  go_wp2_with fail
  refine wp_loop_rounds 4 ?_
  rw [rounds_succ]
  go_wp2_with fail
  refine (h1.out w (Below.refl _ _)).mono ?_
  rintro e w1 ⟨rfl, b1⟩
  by_cases hr1 : r1 = 0
  · subst hr1
    have c1 := (HB.out.keep b1).cell (j := 1) rfl
    have B1 := W_hid b1
    clear b1
    go_wp2_with fail
    rw [rounds_succ]
    go_wp2_with fail
    refine (h2.out w1 (by simp) B1.out).mono ?_
    rintro e w2 ⟨rfl, b2⟩
    have b2 := B1.out.trans (b2.mono B1.out.size)
    by_cases hr2 : r2 = 0
    · subst hr2
      have c2 := (HB.out.keep b2).cell (j := 2) rfl
      have B2 := W_hid b2
      clear b2
      go_wp2_with fail
      rw [rounds_succ]
      go_wp2_with fail
      refine (h3.out w2 (by simp) (by simp) B2.out).mono ?_
      rintro e w3 ⟨rfl, b3⟩
      have b3 := B2.out.trans (b3.mono B2.out.size)
      by_cases hr3 : r3 = 0
      · subst hr3
        go_wp2_with fail
        rw [rounds_succ]
        go_wp2_with fail
        go_ret
        exact ⟨rfl, b3⟩
      · go_wp2_with fail
        go_ret
        exact ⟨by simp [fst, hr3], b3⟩
    · go_wp2_with fail
      go_ret
      exact ⟨by simp [fst, hr2], b2⟩
  · go_wp2_with fail
    go_ret
    exact ⟨by simp [fst, hr1], b1⟩

/-- What made, has and a third check say. -/
def askR (S : Int → Option Nd) (n : Int) (r : Nd → Int) : Int := match S n with | none => 11 | some d => r d

theorem ask_made (k : Nat) (hk : k = 43) (p : Value) (n : Int) (w : World) : (callFunc k #[p, .int .i64 n]).run Tryz.prog w = .ok (.enter k #[p, .int .i64 n]) w := by subst hk; kernel_rfl
section
variable {base sg mb : Nat} {M : Int → Option Nat} {I L left : Int} {S : Int → Option Nd}
/-- The slice of checks, made last. -/
theorem chk_blk (w : World) (l : List Value) (x : Nat) (hx : x = w.heap.size) : Blk (w.alloc (.cells l.toArray 81)) x 81 l := Blk.new w _ l hx
end
end IN
end Go.Proofs.YtbloiilinofklaaGreat

/- Contract of Read, the program's, for all lists, sizes, places, numbers. -/
namespace Go.Proofs.YtbloiilinofklaaGreat
open Go.ChangeShapes Go.WideShapes Go.ChangeAt Go.RowKit
set_option linter.unusedVariables false
set_option linter.unusedSimpArgs false

/-- What Read answers. -/
def rdE (l : List (Int × ByteArray)) (s f n : Int) : Int := if EM.ok 0 l = true ∧ 0 ≤ s ∧ 0 ≤ f ∧ 0 ≤ n ∧ s ≤ 1048576 ∧ ends l ≤ s then 0 else 2
def rdV (l : List (Int × ByteArray)) (s f n : Int) : List UInt8 := if rdE l s f n = 0 then EM.rd l f (min n (s - f)).toNat else []

theorem rd_no {l : List (Int × ByteArray)} {s f n : Int} (h : ¬ (EM.ok 0 l = true ∧ 0 ≤ s ∧ 0 ≤ f ∧ 0 ≤ n ∧ s ≤ 1048576 ∧ ends l ≤ s)) : rdV l s f n = [] ∧ rdE l s f n = 2 := by
  have he : rdE l s f n = 2 := if_neg h
  unfold rdV
  rw [he]
  exact ⟨rfl, rfl⟩

end Go.Proofs.YtbloiilinofklaaGreat

/- Contracts of package inode's New, Link, Unlink, Open, Close, of stores that are there. -/
namespace Go.Proofs.YtbloiilinofklaaGreat
open Go.ChangeShapes Go.WideShapes Go.ChangeAt Go.RowKit Go.Maps
set_option linter.unusedVariables false
set_option linter.unusedSimpArgs false
namespace IN

/-- A store in memory, and what it may be. -/
structure PS (base : Nat) (w : World) (sg mb : Nat) (M : Int → Option Nat) (I L B k : Nat) (S : Int → Option Nd) : Prop where
  pm : PM base w sg mb M (I : Int) (L : Int) ((B : Int) - (tot S I : Int)) S
  fn : Fine I L B k S
  lim : I ≤ 4096 ∧ L ≤ 32768 ∧ B ≤ 16777216
/-- What a call leaves: an answer, the store turned, all else as it was. -/
def Out (base sg mb I L B k : Nat) (w : World) (r : Int) (S : Int → Option Nd) (e : Ending) (w' : World) : Prop :=
  e = .returned (.int .i64 r) ∧ (∃ M, PS base w' sg mb M I L B k S) ∧ Keeps base (PT mb) w w'
section
variable {base sg mb I L B k : Nat} {M : Int → Option Nat} {S : Int → Option Nd} {w w' : World}
theorem PS.keep (h : PS base w sg mb M I L B k S) (hb : Below w.heap.size w w') : PS base w' sg mb M I L B k S := ⟨h.pm.keep hb, h.fn, h.lim⟩
theorem PS.more (h : PS base w sg mb M I L B k S) {k' : Nat} (hk : k ≤ k') : PS base w sg mb M I L B k' S := ⟨h.pm, h.fn.mono hk, h.lim⟩
theorem PS.keeps (h : PS base w sg mb M I L B k S) {C : Nat} {T : Nat → Obj → Prop} (hK : Keeps C T w w') (h1 : ∀ k c s, ¬ T k (.cells c 84 s)) (h2 : ∀ k c s, ¬ T k (.cells c 128 s)) (h3 : ∀ es c, ¬ T mb (.map es c)) (h4 : ∀ k c, ¬ T k (.cells c 190 (0, 0))) : PS base w' sg mb M I L B k S := ⟨h.pm.keeps hK h1 h2 h3 h4, h.fn, h.lim⟩
theorem PS.low (h : PS base w sg mb M I L B k S) : base ≤ w.heap.size := Nat.le_trans h.pm.ge.1 (Nat.le_of_lt h.pm.box.lt)
theorem Out.same (h : PS base w sg mb M I L B k S) {k' : Nat} (hk : k ≤ k') (hb : Below w.heap.size w w') (r : Int) : Out base sg mb I L B k' w r S (.returned (.int .i64 r)) w' :=
  ⟨rfl, ⟨M, (h.keep hb).more hk⟩, Keeps.new hb h.low⟩
theorem PS.nums (h : PS base w sg mb M I L B k S) : IS.Nums M (ks S I) := ks_nums h.fn.num h.pm.dom

set_option maxRecDepth 100000 in
theorem ask_three (k3 : Nat) (r3 : Nd → Int) (n : Int) {I L left : Int} (h : PM base w sg mb M I L left S) (hn : IS.I64 n) (e3 : ∀ w, (callFunc k3 #[.pointer (some ⟨sg, 0, none⟩), .int .i64 n]).run Tryz.prog w = .ok (.enter k3 #[.pointer (some ⟨sg, 0, none⟩), .int .i64 n]) w)
    (h3 : ∀ d, S n = some d → ∀ W, Below w.heap.size w W → Calls Tryz.prog k3 #[.pointer (some ⟨sg, 0, none⟩), .int .i64 n] W (Ans (r3 d) W)) :
    Calls Tryz.prog 42 #[.int .i64 n, .slice (some ⟨w.heap.size, 0, none⟩) 3 3] (w.alloc (.cells #[.func (.func 43) #[.pointer (some ⟨sg, 0, none⟩)] #[], .func (.func 71) #[.pointer (some ⟨sg, 0, none⟩)] #[], .func (.func k3) #[.pointer (some ⟨sg, 0, none⟩)] #[]] 81)) fun e w' => e = .returned (.int .i64 (askR S n r3)) ∧ Below w.heap.size w w' := by
  have hal := (Below.refl w.heap.size w).alloc (Nat.le_refl _) (.cells #[.func (.func 43) #[.pointer (some ⟨sg, 0, none⟩)] #[], .func (.func 71) #[.pointer (some ⟨sg, 0, none⟩)] #[], .func (.func k3) #[.pointer (some ⟨sg, 0, none⟩)] #[]] 81)
  have hb : ∀ W, Below _ _ W → Below w.heap.size w W := fun W hW => hal.trans (hW.mono hal.size)
  refine (first_three (.pointer (some ⟨sg, 0, none⟩)) _ _ k3 0 (if (S n).isSome = true then 0 else 11) (match S n with | none => 0 | some d => r3 d) n w.heap.size _ (chk_blk w [.func (.func 43) #[.pointer (some ⟨sg, 0, none⟩)] #[], .func (.func 71) #[.pointer (some ⟨sg, 0, none⟩)] #[], .func (.func k3) #[.pointer (some ⟨sg, 0, none⟩)] #[]] _ rfl)
    (fun w => by kernel_rfl) (fun w => by kernel_rfl) e3 (fun W hW => made_some _ W (h.keep (hb W hW))) (fun W _ hW => has_any n W (h.keep (hb W hW)) hn) (fun W _ h2 hW => ?_)).mono ?_
  · cases hS : S n with
    | none => rw [hS] at h2; simp at h2
    | some d => exact h3 d hS W (hb W hW)
  · rintro e w' ⟨rfl, hb'⟩
    refine ⟨?_, hb w' hb'⟩
    cases hS : S n with
    | none => simp [askR, hS, fst]
    | some d =>
      simp only [askR, hS, fst, Option.isSome_some, if_true]
      split <;> simp_all
set_option maxRecDepth 100000 in
theorem ask_two (n : Int) {I L left : Int} (h : PM base w sg mb M I L left S) (hn : IS.I64 n) :
    Calls Tryz.prog 42 #[.int .i64 n, .slice (some ⟨w.heap.size, 0, none⟩) 2 2] (w.alloc (.cells #[.func (.func 43) #[.pointer (some ⟨sg, 0, none⟩)] #[], .func (.func 71) #[.pointer (some ⟨sg, 0, none⟩)] #[]] 81)) fun e w' => e = .returned (.int .i64 (askR S n fun _ => 0)) ∧ Below w.heap.size w w' := by
  have hal := (Below.refl w.heap.size w).alloc (Nat.le_refl _) (.cells #[.func (.func 43) #[.pointer (some ⟨sg, 0, none⟩)] #[], .func (.func 71) #[.pointer (some ⟨sg, 0, none⟩)] #[]] 81)
  have hb : ∀ W, Below _ _ W → Below w.heap.size w W := fun W hW => hal.trans (hW.mono hal.size)
  refine (first_two (.pointer (some ⟨sg, 0, none⟩)) _ _ 0 (if (S n).isSome = true then 0 else 11) n w.heap.size _ (chk_blk w [.func (.func 43) #[.pointer (some ⟨sg, 0, none⟩)] #[], .func (.func 71) #[.pointer (some ⟨sg, 0, none⟩)] #[]] _ rfl)
    (fun w => by kernel_rfl) (fun w => by kernel_rfl) (fun W hW => made_some _ W (h.keep (hb W hW))) (fun W _ hW => has_any n W (h.keep (hb W hW)) hn)).mono ?_
  rintro e w' ⟨rfl, hb'⟩
  refine ⟨?_, hb w' hb'⟩
  cases hS : S n with
  | none => simp [askR, hS, fst]
  | some d => simp [askR, hS, fst]

/-! What the calls answer, and make of the inodes. -/
def lkR (L : Int) (S : Int → Option Nd) (n : Int) : Int := askR S n fun d => if d.links < L then 0 else 18
def lkS (L : Int) (S : Int → Option Nd) (n : Int) : Int → Option Nd := match S n with
  | none => S
  | some d => if d.links < L then upd S n (some { d with links := d.links + 1 }) else S
def gone (S : Int → Option Nd) (n : Int) : Int → Option Nd := match S n with
  | none => S
  | some d => if d.links = 0 ∧ d.opens = 0 then upd S n none else S
def ulR (S : Int → Option Nd) (n : Int) : Int := askR S n fun d => if 0 < d.links then 0 else 2
def ulS (S : Int → Option Nd) (n : Int) : Int → Option Nd := match S n with
  | none => S
  | some d => if 0 < d.links then gone (upd S n (some { d with links := d.links - 1 })) n else S
def opR (S : Int → Option Nd) (n : Int) : Int := askR S n fun _ => 0
def opS (S : Int → Option Nd) (n : Int) : Int → Option Nd := match S n with
  | none => S
  | some d => upd S n (some { d with opens := d.opens + 1 })
def clR (S : Int → Option Nd) (n : Int) : Int := askR S n fun d => if 0 < d.opens then 0 else 2
def clS (S : Int → Option Nd) (n : Int) : Int → Option Nd := match S n with
  | none => S
  | some d => if 0 < d.opens then gone (upd S n (some { d with opens := d.opens - 1 })) n else S

theorem tot_same {n : Int} {d d' : Nd} (hS : S n = some d) (hf : Fine I L B k S) (hl : d'.l = d.l) : tot (upd S n (some d')) I = tot S I := by
  have hb := hf.num n (by rw [hS]; simp)
  obtain ⟨m, rfl⟩ : ∃ m : Nat, n = m := ⟨n.toNat, by omega⟩
  have := tot_upd S m I (some d') (by omega) (by omega)
  rw [hS] at this
  simp only [cntOf, hl] at this
  omega
theorem Fine.set {n : Int} {d d' : Nd} (hf : Fine I L B k S) (hS : S n = some d) {k' : Nat} (hk : k ≤ k') (hl : EM.cnt d'.l = EM.cnt d.l) (hg : Good L k' d') : Fine I L B k' (upd S n (some d')) := by
  have hb := hf.num n (by rw [hS]; simp)
  obtain ⟨m, rfl⟩ : ∃ m : Nat, n = m := ⟨n.toNat, by omega⟩
  refine (hf.mono hk).turn (by omega) (by omega) (fun x hx => by cases hx; exact hg) ?_
  rw [hS]
  simp only [cntOf, hl]
  have := hf.tot
  omega

set_option maxRecDepth 100000 in
set_option maxHeartbeats 4000000 in
theorem Link_any (n : Int) (w : World) (h : PS base w sg mb M I L B k S) (hn : IS.I64 n) : Calls Tryz.prog 62 #[.pointer (some ⟨sg, 0, none⟩), .int .i64 n] w (Out base sg mb I L B k w (lkR L S n) (lkS L S n)) := by
  have hmf : ∀ (fn : Fn) (first cap : Array Value) (w : World), (Instr.makeFunc fn first cap).run Tryz.prog w = .ok (.func fn first cap) w := fun _ _ _ _ => rfl
  have cA := ask_three 101 (fun d => if d.links < (L : Int) then 0 else 18) n h.pm hn (fun w => by kernel_rfl) (fun d hS W hW => linkable_any n d W (h.pm.keep hW) hn hS)
  cases hS : S n with
  | none =>
    have e1 : lkR L S n = 11 := by simp [lkR, askR, hS]
    have e2 : lkS L S n = S := by simp [lkS, hS]
    have e3 : (askR S n fun d => if d.links < (L : Int) then 0 else 18) = 11 := e1
    rw [e1, e2]
    rw [e3] at cA
    have H := W_hid h
    have cA := W_hid cA
    clear h e1 e2 e3 hS
    go_enter Tryz.func62, Tryz.ntmps62
    go_wp2_with fail
    refine cA.out.mono ?_
    rintro e w1 ⟨rfl, b1⟩
    go_wp2_with fail
    go_ret
    exact Out.same H.out (Nat.le_refl _) b1 11
  | some d =>
    have hg := h.fn.good n d hS
    by_cases hl : d.links < L
    · have e1 : lkR L S n = 0 := by simp [lkR, askR, hS, hl]
      have e2 : lkS L S n = upd S n (some { d with links := d.links + 1 }) := by simp [lkS, hS, hl]
      have e3 : (askR S n fun d => if d.links < (L : Int) then 0 else 18) = 0 := e1
      rw [e1, e2]
      rw [e3] at cA
      have H := W_hid h
      have cA := W_hid cA
      have hw : IntKind.i64.wrap (d.links + 1) = d.links + 1 := by rw [IntKind.wrap_i64]; have := hg.links; have := h.lim; omega
      have HS := W_hid hS
      have HG := W_hid hg
      clear h e1 e2 e3 hS hg
      go_enter Tryz.func62, Tryz.ntmps62
      go_wp2_with fail
      refine cA.out.mono ?_
      rintro e w1 ⟨rfl, b1⟩
      have h1 := H.out.keep b1
      have c0 := h1.pm.box.cell (j := 0) rfl
      have hlk := h1.pm.mp.look n hn
      obtain ⟨g, v, hM, hN, hge, hgs, hgm⟩ := h1.pm.has HS.out
      rw [hM] at hlk
      simp only [IS.ptr] at hlk
      have d1 := hN.1.cell (j := 1) rfl
      have f1 := hN.1.fz
      obtain ⟨p1, p2, p3⟩ := h1.pm.setNode (d' := { d with links := d.links + 1 }) (v' := v) hM HS.out hN.1 hN.2 1 (.int .i64 (d.links + 1)) rfl
      have b1' := W_hid b1
      have p1 := W_hid p1
      have p3 := W_hid p3
      have hlim := W_hid h1.lim
      have hfn := W_hid h1.fn
      have hlow := W_hid H.out.low
      clear h1 hN hM p2 b1
      go_wp2_with fail
      go_ret
      refine ⟨rfl, ⟨M, ?_, hfn.out.set HS.out (Nat.le_refl _) rfl ⟨HG.out.kind, ⟨by have := HG.out.links.1; simp; omega, by simp; omega⟩, HG.out.opens, by have := HG.out.some; simp; omega, HG.out.size, HG.out.ok, HG.out.fin, HG.out.dir⟩, hlim.out⟩, (Keeps.new b1'.out hlow.out).trans p3.out⟩
      rw [tot_same (d' := { d with links := d.links + 1 }) HS.out hfn.out rfl]
      exact p1.out
    · have e1 : lkR L S n = 18 := by simp [lkR, askR, hS, hl]
      have e2 : lkS L S n = S := by simp [lkS, hS, hl]
      have e3 : (askR S n fun d => if d.links < (L : Int) then 0 else 18) = 18 := e1
      rw [e1, e2]
      rw [e3] at cA
      have H := W_hid h
      have cA := W_hid cA
      clear h e1 e2 e3 hS
      go_enter Tryz.func62, Tryz.ntmps62
      go_wp2_with fail
      refine cA.out.mono ?_
      rintro e w1 ⟨rfl, b1⟩
      go_wp2_with fail
      go_ret
      exact Out.same H.out (Nat.le_refl _) b1 18
end
end IN
end Go.Proofs.YtbloiilinofklaaGreat

/- Contracts of package inode's stored, replace, settle. -/
namespace Go.Proofs.YtbloiilinofklaaGreat
open Go.ChangeShapes Go.WideShapes Go.ChangeAt Go.RowKit Go.Maps
set_option linter.unusedVariables false
set_option linter.unusedSimpArgs false
namespace IN

theorem ok_fit : ∀ {b : Int} {l : List (Int × ByteArray)}, 0 ≤ b → EM.ok b l = true → XFit l
  | _, [], _, _ => fun x hx => by simp at hx
  | b, y :: r, hb, h => by
    obtain ⟨h1, h2, h3, h4⟩ := EM.ok_cons.1 h
    have hf : EM.fin y = y.1 + y.2.size := rfl
    intro x hx
    rcases List.mem_cons.1 hx with e | hx
    · subst e
      exact ⟨⟨by omega, by omega⟩, by unfold maxLen; omega⟩
    · exact ok_fit (by omega) h4 x hx
theorem ok_cnt {l : List (Int × ByteArray)} (h : EM.ok 0 l = true) : (EM.cnt l : Int) ≤ 1048576 := by
  have := (EM.wk_cnt (EM.ok_wk h) (by decide)).1
  omega

set_option maxRecDepth 100000 in
set_option maxHeartbeats 1000000 in
theorem stored_any (v : Value) (l : List (Int × ByteArray)) (w : World) (h : XE w v l) (hok : EM.ok 0 l = true) :
    Calls Tryz.prog 88 #[v] w fun e w' => e = .returned (.int .i64 (EM.cnt l : Int)) ∧ Below w.heap.size w w' := by
  obtain ⟨ao, n, c, rfl, hx, -⟩ := h
  have cS := Stored_any ao n c l w hx (ok_fit (Int.le_refl _) hok)
  have e1 : stV l = (EM.cnt l : Int) := by unfold stV; rw [if_pos hok]
  rw [e1] at cS
  have cS := W_hid cS
  clear hx e1
  go_enter Tryz.func88, Tryz.ntmps88
  go_wp2_with fail
  refine cS.out.mono ?_
  rintro e w1 ⟨rfl, b1⟩
  go_wp2_with fail
  go_ret
  exact ⟨rfl, b1⟩

section
variable {base sg mb : Nat} {M : Int → Option Nat} {I L left : Int} {S : Int → Option Nd}
set_option maxRecDepth 100000 in
set_option maxHeartbeats 4000000 in
theorem replace_any (n : Int) (g : Nat) (d : Nd) (v v' : Value) (l' : List (Int × ByteArray)) (w : World) (h : PM base w sg mb M I L left S) (hM : M n = some g) (hS : S n = some d) (hN : NB w g d v) (hx : XE w v' l') (h1 : EM.ok 0 d.l = true) (h2 : EM.ok 0 l' = true) (hl : 0 ≤ left ∧ left ≤ 16777216) :
    Calls Tryz.prog 130 #[.pointer (some ⟨sg, 0, none⟩), .pointer (some ⟨g, 0, none⟩), v'] w fun e w' =>
      (left < (EM.cnt l' : Int) - (EM.cnt d.l : Int) ∧ e = .returned (.int .i64 21) ∧ Below w.heap.size w w') ∨
      ((EM.cnt l' : Int) - (EM.cnt d.l : Int) ≤ left ∧ e = .returned (.int .i64 0) ∧ PM base w' sg mb M I L (left - ((EM.cnt l' : Int) - (EM.cnt d.l : Int))) (upd S n (some { d with l := l' })) ∧ NB w' g { d with l := l' } v' ∧ Keeps base (PT mb) w w') := by
  obtain ⟨ao', n', c', rfl, hx1, hx2⟩ := hx
  have hx : XE w (.slice ao' n' c') l' := ⟨ao', n', c', rfl, hx1, hx2⟩
  clear hx1 hx2
  have d4 := hN.1.cell (j := 4) rfl
  have b1 := ok_cnt h1
  have b2 := ok_cnt h2
  have hlow : base ≤ w.heap.size := Nat.le_trans h.ge.1 (Nat.le_of_lt h.box.lt)
  have cA : ∀ W, Below w.heap.size w W → Calls Tryz.prog 88 #[(.slice ao' n' c')] W fun e w' => e = .returned (.int .i64 (EM.cnt l' : Int)) ∧ w'.cell? ⟨g, 4, none⟩ = some v ∧ Below w.heap.size w w' := fun W hW =>
    (stored_any (.slice ao' n' c') l' W (hx.keep hW) h2).mono fun e w' hh => ⟨hh.1, (hN.1.keep (hW.trans (hh.2.mono hW.size))).cell (j := 4) rfl, hW.trans (hh.2.mono hW.size)⟩
  have cB : ∀ W, Below w.heap.size w W → Calls Tryz.prog 88 #[v] W fun e w' => e = .returned (.int .i64 (EM.cnt d.l : Int)) ∧ w'.cell? ⟨g, 4, none⟩ = some v ∧ Below w.heap.size w w' := fun W hW =>
    (stored_any v d.l W (hN.2.keep hW) h1).mono fun e w' hh => ⟨hh.1, (hN.1.keep (hW.trans (hh.2.mono hW.size))).cell (j := 4) rfl, hW.trans (hh.2.mono hW.size)⟩
  replace cA := W_hid cA
  replace cB := W_hid cB
  obtain ⟨A, hA⟩ : ∃ A, EM.cnt l' = A := ⟨_, rfl⟩
  obtain ⟨D, hD⟩ : ∃ D, EM.cnt d.l = D := ⟨_, rfl⟩
  rw [hA] at b2 cA ⊢
  rw [hD] at b1 cB ⊢
  have H := W_hid h
  have HN := W_hid hN
  have HX := W_hid hx
  clear hA hD h hN hx h1 h2
  have bel := Below.refl w.heap.size w
  have hw0 : IntKind.i64.wrap ((A : Int) - (D : Int)) = (A : Int) - (D : Int) := by rw [IntKind.wrap_i64]; omega
  go_enter Tryz.func130, Tryz.ntmps130
  go_wp2_with fail
  refine wp_region_held_drew (S := (fun w' => w'.cell? ⟨g, 4, none⟩ = some v ∧ Below w.heap.size w w')) (by kernel_rfl) ⟨d4, Below.drew bel⟩ (fun hHeld => ?_)
  refine wpAnyH_take (i := 0) (v := (.slice ao' n' c')) rfl (by kernel_rfl) (by kernel_rfl) (by kernel_rfl) (fun _ _ _ h => h) (Or.inl ⟨by rfl, fun w0 ⟨s1, s2⟩ => ?_⟩) hHeld ?_
  · go_simp
  try simp only [Act.put, List.setIfInBounds_toArray, List.set_cons_zero, List.set_cons_succ, List.getElem_toArray, List.getElem_cons_zero, List.getElem_cons_succ]
  refine wpAnyH_take (i := 2) (v := .pointer (some ⟨g, 0, none⟩)) rfl (by kernel_rfl) (by kernel_rfl) (by kernel_rfl) (fun _ _ _ h => h) (Or.inl ⟨by rfl, fun w0 ⟨s1, s2⟩ => ?_⟩) hHeld ?_
  · go_simp
  try simp only [Act.put, List.setIfInBounds_toArray, List.set_cons_zero, List.set_cons_succ, List.getElem_toArray, List.getElem_cons_zero, List.getElem_cons_succ]
  refine wpAnyH_take (i := 3) (v := .pointer (some ⟨g, 0, none⟩)) rfl (by kernel_rfl) (by kernel_rfl) (by kernel_rfl) (fun _ _ _ h => h) (Or.inl ⟨by rfl, fun w0 ⟨s1, s2⟩ => ?_⟩) hHeld ?_
  · go_simp
  try simp only [Act.put, List.setIfInBounds_toArray, List.set_cons_zero, List.set_cons_succ, List.getElem_toArray, List.getElem_cons_zero, List.getElem_cons_succ]
  refine wpAnyH_take (i := 4) (v := .pointer (some ⟨g, 4, none⟩)) rfl (by kernel_rfl) (by kernel_rfl) (by kernel_rfl) (fun _ _ _ h => h) (Or.inl ⟨by rfl, fun w0 ⟨s1, s2⟩ => ?_⟩) hHeld ?_
  · go_simp
  try simp only [Act.put, List.setIfInBounds_toArray, List.set_cons_zero, List.set_cons_succ, List.getElem_toArray, List.getElem_cons_zero, List.getElem_cons_succ]
  refine wpAnyH_take (i := 5) (v := v) rfl (by kernel_rfl) (by kernel_rfl) (by kernel_rfl) (fun _ _ _ h => h) (Or.inl ⟨by rfl, fun w0 ⟨s1, s2⟩ => ?_⟩) hHeld ?_
  · go_simp
  try simp only [Act.put, List.setIfInBounds_toArray, List.set_cons_zero, List.set_cons_succ, List.getElem_toArray, List.getElem_cons_zero, List.getElem_cons_succ]
  refine wpAnyH_ready (rs := [1]) (by kernel_rfl) (by simp) ?_
  refine AllReadyH.cons rfl (fun K hK => ?_) AllReadyH.nil
  go_simp
  refine (cA.out _ (Below.drew bel)).mono ?_
  rintro e w2 ⟨rfl, hc2, hb2⟩
  refine hK.out _ _ ⟨hc2, hb2⟩ (fun hHeld2 => ?_)
  clear hK K
  try simp only [Act.put, List.setIfInBounds_toArray, List.set_cons_zero, List.set_cons_succ, List.getElem_toArray, List.getElem_cons_zero, List.getElem_cons_succ]
  refine wpAnyH_ready (rs := [6]) (by kernel_rfl) (by simp) ?_
  refine AllReadyH.cons rfl (fun K hK => ?_) AllReadyH.nil
  go_simp
  refine (cB.out _ hb2).mono ?_
  rintro e w3 ⟨rfl, hc3, hb3⟩
  refine hK.out _ _ ⟨hc3, hb3⟩ (fun hHeld3 => ?_)
  clear hK K
  try simp only [Act.put, List.setIfInBounds_toArray, List.set_cons_zero, List.set_cons_succ, List.getElem_toArray, List.getElem_cons_zero, List.getElem_cons_succ]
  refine wpAnyH_take (i := 7) (v := .int .i64 ((A : Int) - (D : Int))) rfl (by kernel_rfl) (by kernel_rfl) (by kernel_rfl) (fun _ _ _ h => h) (Or.inl ⟨by rfl, fun w0 ⟨s1, s2⟩ => ?_⟩) hHeld3 ?_
  · go_simp
  try simp only [Act.put, List.setIfInBounds_toArray, List.set_cons_zero, List.set_cons_succ, List.getElem_toArray, List.getElem_cons_zero, List.getElem_cons_succ]
  refine wpAnyH_take (i := 8) (v := .int .i64 ((A : Int) - (D : Int))) rfl (by kernel_rfl) (by kernel_rfl) (by kernel_rfl) (fun _ _ _ h => h) (Or.inl ⟨by rfl, fun w0 ⟨s1, s2⟩ => ?_⟩) hHeld3 ?_
  · go_simp
  try simp only [Act.put, List.setIfInBounds_toArray, List.set_cons_zero, List.set_cons_succ, List.getElem_toArray, List.getElem_cons_zero, List.getElem_cons_succ]
  refine wpAnyH_done (by kernel_rfl) ?_ _
  have h3 := H.out.keep hb3
  have hN3 : NB w3 g d v := ⟨HN.out.1.keep hb3, HN.out.2.keep hb3⟩
  have hX3 := HX.out.keep hb3
  have c3 := h3.box.cell (j := 3) rfl
  have fs := h3.box.fz
  have fg := hN3.1.fz
  have hgs : g ≠ sg := blk_ne hN3.1 h3.box (by decide)
  by_cases hlt : left < (A : Int) - (D : Int)
  · replace hb3 := W_hid hb3
    clear h3 hN3 hX3 hb2 hc2 hc3
    go_wp2_with fail
    go_ret
    exact .inl ⟨hlt, rfl, hb3.out⟩
  · have hle : Hid ((A : Int) - (D : Int) ≤ left) := W_hid (by omega)
    have hw : IntKind.i64.wrap (left - ((A : Int) - (D : Int))) = left - ((A : Int) - (D : Int)) := by rw [IntKind.wrap_i64]; omega
    obtain ⟨q1, q2⟩ := h3.setLeft (left - ((A : Int) - (D : Int)))
    have hN4 : Blk (w3.setCell ⟨sg, 3, none⟩ (.int .i64 (left - ((A : Int) - (D : Int))))) g 128 (ncl d v) := hN3.1.far (p := ⟨sg, 3, none⟩) hgs _
    obtain ⟨r1, r2, r3⟩ := q1.setNode (d' := { d with l := l' }) (v' := (.slice ao' n' c')) hM hS hN4 (hX3.keeps q2 (by simp [PT])) 4 (.slice ao' n' c') rfl
    have K3 := W_hid ((Keeps.new (T := PT mb) hb3 hlow).trans (q2.trans r3))
    have r1 := W_hid r1
    have r2 := W_hid r2
    replace hb3 := W_hid hb3
    clear h3 hN3 hX3 hb2 hc2 q1 q2 hN4 r3
    have hgs2 : ¬ sg = g := fun e => hgs e.symm
    go_wp2_with fail
    go_ret
    exact .inr ⟨rfl, r1.out, r2.out, K3.out⟩

/-- 'delete' of an inode. -/
theorem wpList_delete_n {w : World} {ops : Array Oper} {rest : List Oper} {o : Oper} {a : Act} {Q : Exit → Act → World → Prop} (hg : o.guard = none) (m x : Operand) (hop : o.op = Op.call { callee := Callee.builtin Builtin.delete, args := #[m, x], argTypes := #[82, 3] })
    (b : Nat) (f : Int) (M : Int → Option Nat) (hm : a.eval m = .map (some b)) (hx : a.eval x = .int .i64 f) (h : IS.MB w b M) (hf : IS.I64 f)
    (hK : ∀ w', IS.MB w' b (IS.upd M f none) → w.grownBy w' (some b) → w'.heap.size = w.heap.size → wpList Tryz.prog ops Q rest (a.put o.dst (.tuple #[])) w') : wpList Tryz.prog ops Q (o :: rest) a w := by
  refine wpList_plain hg fun K' hK' => ?_
  obtain ⟨w', hrun, r1, r2, r3⟩ := h.del f hf o.type
  unfold Oper.wp
  simp [execOp, hop, resolve, invoke, builtin, hm, hx, hrun, Result.andThen]
  exact hK' _ _ (hK w' r1 r2 r3)

set_option maxRecDepth 100000 in
set_option maxHeartbeats 4000000 in
/-- An inode that is neither named nor open goes. -/
theorem settle_any (n : Int) (d : Nd) (w : World) (h : PM base w sg mb M I L left S) (hn : IS.I64 n) (hS : S n = some d) (hok : EM.ok 0 d.l = true) (hl : 0 ≤ left ∧ left ≤ 16777216) :
    Calls Tryz.prog 111 #[.pointer (some ⟨sg, 0, none⟩), .int .i64 n] w fun e w' => e = .returned (.tuple #[]) ∧ (∃ M', PM base w' sg mb M' I L (if d.links = 0 ∧ d.opens = 0 then left + (EM.cnt d.l : Int) else left) (gone S n)) ∧ Keeps base (PT mb) w w' := by
  have c0 := h.box.cell (j := 0) rfl
  have hlk := h.mp.look n hn
  obtain ⟨g, v, hM, hN, hge, hgs, hgm⟩ := h.has hS
  rw [hM] at hlk
  simp only [IS.ptr] at hlk
  have d1 := hN.1.cell (j := 1) rfl
  have d2 := hN.1.cell (j := 2) rfl
  have cR := W_hid (replace_any n g d v (.slice none 0 0) [] w h hM hS hN (XE.nil w) hok rfl hl)
  have hb := ok_cnt hok
  have hstay : ¬ (d.links = 0 ∧ d.opens = 0) → gone S n = S := fun hz => by unfold gone; rw [hS]; simp only; rw [if_neg hz]
  have hgo : d.links = 0 ∧ d.opens = 0 → gone S n = upd S n none := fun hz => by unfold gone; rw [hS]; simp only; rw [if_pos hz]
  have H := W_hid h
  have hM := W_hid hM
  have hS := W_hid hS
  have hstay := W_hid hstay
  have hgo := W_hid hgo
  clear h hN
  by_cases hz : d.links = 0 ∧ d.opens = 0
  · rw [if_pos hz, hgo.out hz]
    obtain ⟨hz1, hz2⟩ := hz
    rw [hz1] at d1
    rw [hz2] at d2
    go_enter Tryz.func111, Tryz.ntmps111
    go_wp2_with fail
    refine cR.out.mono ?_
    rintro e w1 (⟨h1, rfl, b1⟩ | ⟨h1, rfl, h2, h3, h4⟩)
    · rw [EM.cnt_nil] at h1; omega
    · have e0 : left - (((EM.cnt ([] : List (Int × ByteArray)) : Nat) : Int) - (EM.cnt d.l : Int)) = left + (EM.cnt d.l : Int) := by rw [EM.cnt_nil]; omega
      rw [e0] at h2
      have k0 := h2.box.cell (j := 0) rfl
      have hmb := W_hid h2.mp
      have h2 := W_hid h2
      have h4 := W_hid h4
      clear h1 h3 e0 hb
      go_wp2_with (first | (refine wpList_delete_n rfl _ _ rfl mb n M rfl rfl hmb.out hn ?_; intro w2 hm2 hg2 hs2))
      have hu : ∀ m, IS.upd M n none m = none ↔ upd S n none m = none := fun m => by
        by_cases e : m = n
        · subst e; rw [upd_at]; simp [IS.upd]
        · rw [upd_ne e]; unfold IS.upd; rw [if_neg e]; exact H.out.dom m
      obtain ⟨q1, q2⟩ := h2.out.turn hm2 hg2 (upd S n none) hu (fun m g' d' hM' hS' => by
        have e : m ≠ n := fun e => by subst e; rw [upd_at] at hS'; cases hS'
        unfold IS.upd at hM'
        rw [if_neg e] at hM'
        rw [upd_ne e] at hS'
        exact .inl ⟨hM', by rw [upd_ne e]; exact hS'⟩) (fun m m' g' hA hB => by
        unfold IS.upd at hA hB
        split at hA
        · cases hA
        · split at hB
          · cases hB
          · exact H.out.inj m m' g' hA hB)
      have q1 := W_hid q1
      have q2 := W_hid (h4.out.trans q2)
      clear hm2 hg2 hu
      go_wp2_with fail
      go_end0
      exact ⟨rfl, ⟨_, q1.out⟩, q2.out⟩
  · rw [if_neg hz, hstay.out hz]
    have hz' : (d.links = 0 ∧ ¬ d.opens = 0) ∨ ¬ d.links = 0 := by omega
    rcases hz' with ⟨hz1, hz2⟩ | hz1
    · rw [hz1] at d1
      clear cR hz
      go_enter Tryz.func111, Tryz.ntmps111
      go_wp2_with fail
      go_end0
      exact ⟨rfl, ⟨M, H.out⟩, Keeps.refl _ _ _⟩
    · clear cR hz
      go_enter Tryz.func111, Tryz.ntmps111
      go_wp2_with fail
      go_end0
      exact ⟨rfl, ⟨M, H.out⟩, Keeps.refl _ _ _⟩
end
end IN
end Go.Proofs.YtbloiilinofklaaGreat

/- Contracts of package inode's Unlink, Open, Close, of stores that are there. -/
namespace Go.Proofs.YtbloiilinofklaaGreat
open Go.ChangeShapes Go.WideShapes Go.ChangeAt Go.RowKit Go.Maps
set_option linter.unusedVariables false
set_option linter.unusedSimpArgs false
namespace IN
section
variable {base sg mb I L B k : Nat} {M : Int → Option Nat} {S : Int → Option Nd}

theorem fine_gone {n : Int} {d d1 : Nd} (hf : Fine I L B k S) (hS : S n = some d) {k' : Nat} (hk : k ≤ k') (hl : d1.l = d.l) (h1 : d1.kind = d.kind) (h2 : 0 ≤ d1.links ∧ d1.links ≤ L) (h3 : 0 ≤ d1.opens ∧ d1.opens ≤ k') (h4 : d1.size = d.size) :
    Fine I L B k' (gone (upd S n (some d1)) n) ∧ (if d1.links = 0 ∧ d1.opens = 0 then ((B : Int) - (tot S I : Int)) + (EM.cnt d1.l : Int) else (B : Int) - (tot S I : Int)) = (B : Int) - (tot (gone (upd S n (some d1)) n) I : Int) := by
  have hb := hf.num n (by rw [hS]; simp)
  obtain ⟨m, rfl⟩ : ∃ m : Nat, n = m := ⟨n.toNat, by omega⟩
  have hg := hf.good m d hS
  have ht := hf.tot
  by_cases hz : d1.links = 0 ∧ d1.opens = 0
  · have e : gone (upd S (m : Int) (some d1)) (m : Int) = upd S (m : Int) none := by
      unfold gone; rw [upd_at]; simp only; rw [if_pos hz, upd_upd]
    rw [e, if_pos hz]
    have h := tot_upd S m I none (by omega) (by omega)
    rw [hS] at h
    simp only [cntOf] at h
    rw [hl]
    refine ⟨(hf.mono hk).turn (by omega) (by omega) (fun x hx => by cases hx) (by simp only [cntOf]; omega), by omega⟩
  · have e : gone (upd S (m : Int) (some d1)) (m : Int) = upd S (m : Int) (some d1) := by
      unfold gone; rw [upd_at]; simp only; rw [if_neg hz]
    rw [e, if_neg hz]
    refine ⟨hf.set hS hk (by rw [hl]) ⟨by rw [h1]; exact hg.kind, h2, h3, by omega, by rw [h4]; exact hg.size, by rw [hl]; exact hg.ok, by rw [hl, h4]; exact hg.fin, by rw [h1, h4, hl]; exact hg.dir⟩, ?_⟩
    rw [tot_same hS hf hl]

set_option maxRecDepth 100000 in
set_option maxHeartbeats 4000000 in
theorem Unlink_any (n : Int) (w : World) (h : PS base w sg mb M I L B k S) (hn : IS.I64 n) (hk : k < 1000000) : Calls Tryz.prog 94 #[.pointer (some ⟨sg, 0, none⟩), .int .i64 n] w (Out base sg mb I L B k w (ulR S n) (ulS S n)) := by
  have hmf : ∀ (fn : Fn) (first cap : Array Value) (w : World), (Instr.makeFunc fn first cap).run Tryz.prog w = .ok (.func fn first cap) w := fun _ _ _ _ => rfl
  have cA := ask_three 110 (fun d => if 0 < d.links then 0 else 2) n h.pm hn (fun w => by kernel_rfl) (fun d hS W hW => linked_any n d W (h.pm.keep hW) hn hS)
  cases hS : S n with
  | none =>
    have e1 : ulR S n = 11 := by simp [ulR, askR, hS]
    have e2 : ulS S n = S := by simp [ulS, hS]
    have e3 : (askR S n fun d => if 0 < d.links then 0 else 2) = 11 := e1
    rw [e1, e2]
    rw [e3] at cA
    have H := W_hid h
    have cA := W_hid cA
    clear h e1 e2 e3 hS
    go_enter Tryz.func94, Tryz.ntmps94
    go_wp2_with fail
    refine cA.out.mono ?_
    rintro e w1 ⟨rfl, b1⟩
    go_wp2_with fail
    go_ret
    exact Out.same H.out (Nat.le_refl _) b1 11
  | some d =>
    have hg := h.fn.good n d hS
    by_cases hl : 0 < d.links
    · have e1 : ulR S n = 0 := by simp [ulR, askR, hS, hl]
      have e2 : ulS S n = gone (upd S n (some { d with links := d.links - 1 })) n := by simp [ulS, hS, hl]
      have e3 : (askR S n fun d => if 0 < d.links then 0 else 2) = 0 := e1
      rw [e1, e2]
      rw [e3] at cA
      have H := W_hid h
      have cA := W_hid cA
      have hw : IntKind.i64.wrap (d.links - 1) = d.links - 1 := by rw [IntKind.wrap_i64]; have := hg.links; have := hg.opens; have := h.lim; omega
      have HS := W_hid hS
      have HG := W_hid hg
      clear h e1 e2 e3 hS hg
      go_enter Tryz.func94, Tryz.ntmps94
      go_wp2_with fail
      refine cA.out.mono ?_
      rintro e w1 ⟨rfl, b1⟩
      have h1 := H.out.keep b1
      have c0 := h1.pm.box.cell (j := 0) rfl
      have hlk := h1.pm.mp.look n hn
      obtain ⟨g, v, hM, hN, hge, hgs, hgm⟩ := h1.pm.has HS.out
      rw [hM] at hlk
      simp only [IS.ptr] at hlk
      have d1 := hN.1.cell (j := 1) rfl
      have f1 := hN.1.fz
      obtain ⟨p1, p2, p3⟩ := h1.pm.setNode (d' := { d with links := d.links - 1 }) (v' := v) hM HS.out hN.1 hN.2 1 (.int .i64 (d.links - 1)) rfl
      have ht := h1.fn.tot
      have hB := h1.lim.2.2
      have cT := W_hid (settle_any n { d with links := d.links - 1 } _ p1 hn (upd_at _ _ _) HG.out.ok ⟨by omega, by omega⟩)
      have F := W_hid (fine_gone (d1 := { d with links := d.links - 1 }) h1.fn HS.out (Nat.le_refl _) rfl rfl ⟨by have := HG.out.links; simp; omega, by have := HG.out.links; simp; omega⟩ ⟨by have := HG.out.opens; simp; omega, by have := HG.out.opens; simp; omega⟩ rfl)
      have b1' := W_hid b1
      have p1 := W_hid p1
      have p3 := W_hid p3
      have hlim := W_hid h1.lim
      have hfn := W_hid h1.fn
      have hlow := W_hid H.out.low
      clear h1 hN hM p2 b1 ht hB
      go_wp2_with fail
      refine cT.out.mono ?_
      rintro e w2 ⟨rfl, ⟨M2, q1⟩, q2⟩
      rw [F.out.2] at q1
      have q1 := W_hid q1
      have q2 := W_hid q2
      clear cT
      go_wp2_with fail
      go_ret
      exact ⟨rfl, ⟨M2, q1.out, F.out.1, hlim.out⟩, (Keeps.new b1'.out hlow.out).trans (p3.out.trans q2.out)⟩
    · have e1 : ulR S n = 2 := by simp [ulR, askR, hS, hl]
      have e2 : ulS S n = S := by simp [ulS, hS, hl]
      have e3 : (askR S n fun d => if 0 < d.links then 0 else 2) = 2 := e1
      rw [e1, e2]
      rw [e3] at cA
      have H := W_hid h
      have cA := W_hid cA
      clear h e1 e2 e3 hS
      go_enter Tryz.func94, Tryz.ntmps94
      go_wp2_with fail
      refine cA.out.mono ?_
      rintro e w1 ⟨rfl, b1⟩
      go_wp2_with fail
      go_ret
      exact Out.same H.out (Nat.le_refl _) b1 2

end
end IN
end Go.Proofs.YtbloiilinofklaaGreat

/- Contracts of package inode's stat, Stat, of stores that are there. -/
namespace Go.Proofs.YtbloiilinofklaaGreat
open Go.ChangeShapes Go.WideShapes Go.ChangeAt Go.RowKit Go.Maps
set_option linter.unusedVariables false
set_option linter.unusedSimpArgs false
namespace IN

/-- What an inode says. -/
def stl (n : Int) (d : Nd) : List Value := [.int .i64 n, .int .i64 d.kind, .int .i64 d.links, .int .i64 d.opens, .int .i64 d.size, .int .i64 (EM.cnt d.l : Int)]
def zl : List Value := [.int .i64 0, .int .i64 0, .int .i64 0, .int .i64 0, .int .i64 0, .int .i64 0]
def six (a b c d e f : Int) : List Value := [.int .i64 a, .int .i64 b, .int .i64 c, .int .i64 d, .int .i64 e, .int .i64 f]

theorem res_one {fn : Func} {r : Tmp} (hres : fn.results = #[.cell r 49]) (tmps : Array Value) (w : World) {g : Nat} {a b c d e f : Int} (hr : tmps.getD r undef = .pointer (some ⟨g, 0, none⟩)) (hp : Blk w g 49 (six a b c d e f)) :
    (results fn tmps).run Tryz.prog w = .ok (.agg (six a b c d e f).toArray) w := by
  have c0 := hp.cell (j := 0) rfl
  have c1 := hp.cell (j := 1) rfl
  have c2 := hp.cell (j := 2) rfl
  have c3 := hp.cell (j := 3) rfl
  have c4 := hp.cell (j := 4) rfl
  have c5 := hp.cell (j := 5) rfl
  rw [Array.getD_eq_getD_getElem?] at hr
  simp [results, hres, go_sem, hr, c0, c1, c2, c3, c4, c5, six]
theorem res_two {fn : Func} {r t : Tmp} (hres : fn.results = #[.cell r 49, .tmp t]) (tmps : Array Value) (w : World) {g : Nat} {a b c d e f : Int} (hr : tmps.getD r undef = .pointer (some ⟨g, 0, none⟩)) (hp : Blk w g 49 (six a b c d e f)) :
    (results fn tmps).run Tryz.prog w = .ok (.tuple #[.agg (six a b c d e f).toArray, tmps.getD t undef]) w := by
  have c0 := hp.cell (j := 0) rfl
  have c1 := hp.cell (j := 1) rfl
  have c2 := hp.cell (j := 2) rfl
  have c3 := hp.cell (j := 3) rfl
  have c4 := hp.cell (j := 4) rfl
  have c5 := hp.cell (j := 5) rfl
  rw [Array.getD_eq_getD_getElem?] at hr
  simp [results, hres, go_sem, hr, c0, c1, c2, c3, c4, c5, six]

/-- Six stores into a block of six cells. -/
def six_set (w : World) (r : Nat) (a b c d e f : Int) : World := (((((w.setCell ⟨r, 0, none⟩ (.int .i64 a)).setCell ⟨r, 1, none⟩ (.int .i64 b)).setCell ⟨r, 2, none⟩ (.int .i64 c)).setCell ⟨r, 3, none⟩ (.int .i64 d)).setCell ⟨r, 4, none⟩ (.int .i64 e)).setCell ⟨r, 5, none⟩ (.int .i64 f)
theorem six_blk {w : World} {r : Nat} {x0 x1 x2 x3 x4 x5 : Value} (h : Blk w r 49 [x0, x1, x2, x3, x4, x5]) (a b c d e f : Int) : Blk (six_set w r a b c d e f) r 49 (six a b c d e f) :=
  (((((h.set 0 (.int .i64 a)).set 1 (.int .i64 b)).set 2 (.int .i64 c)).set 3 (.int .i64 d)).set 4 (.int .i64 e)).set 5 (.int .i64 f)
theorem six_below {w0 w : World} {r B : Nat} (h : Below B w0 w) (hr : B ≤ r) (a b c d e f : Int) : Below B w0 (six_set w r a b c d e f) :=
  (((((h.setCell (p := ⟨r, 0, none⟩) hr _).setCell (p := ⟨r, 1, none⟩) hr _).setCell (p := ⟨r, 2, none⟩) hr _).setCell (p := ⟨r, 3, none⟩) hr _).setCell (p := ⟨r, 4, none⟩) hr _).setCell (p := ⟨r, 5, none⟩) hr _

section
variable {base sg mb : Nat} {M : Int → Option Nat} {S : Int → Option Nd}
set_option maxRecDepth 100000 in
set_option maxHeartbeats 4000000 in
theorem stat_any (n : Int) (d : Nd) (w : World) {I L left : Int} (h : PM base w sg mb M I L left S) (hn : IS.I64 n) (hS : S n = some d) (hok : EM.ok 0 d.l = true) :
    Calls Tryz.prog 46 #[.pointer (some ⟨sg, 0, none⟩), .int .i64 n] w fun e w' => e = .returned (.agg (stl n d).toArray) ∧ Below w.heap.size w w' := by
  obtain ⟨g, v, hM, hN, -⟩ := h.has hS
  have hlt := hN.1.lt
  obtain ⟨W0, hW0⟩ : ∃ W0, w.alloc (.cells #[.int .i64 0, .int .i64 0, .int .i64 0, .int .i64 0, .int .i64 0, .int .i64 0] 49) = W0 := ⟨_, rfl⟩
  have hb0 : Below w.heap.size w W0 := by rw [← hW0]; exact (Below.refl _ _).alloc (Nat.le_refl _) _
  have hr0 : Blk W0 w.heap.size 49 zl := by rw [← hW0]; exact Blk.new w _ zl rfl
  have h0 := h.keep hb0
  have c0 := h0.box.cell (j := 0) rfl
  have hlk := h0.mp.look n hn
  rw [hM] at hlk
  simp only [IS.ptr] at hlk
  have hN0 : NB W0 g d v := ⟨hN.1.keep hb0, hN.2.keep hb0⟩
  have d0 := hN0.1.cell (j := 0) rfl
  have d1 := hN0.1.cell (j := 1) rfl
  have d2 := hN0.1.cell (j := 2) rfl
  have d3 := hN0.1.cell (j := 3) rfl
  have d4 := hN0.1.cell (j := 4) rfl
  have hNN := W_hid (show Blk W0.drew g 128 (ncl d v) from hN0.1)
  have cS := W_hid (stored_any v d.l W0.drew hN0.2 hok)
  have hN1 := W_hid (fun w' (hb : Below W0.heap.size W0 w') => hN0.1.keep hb)
  have hs0 : W0.heap.size = w.heap.size + 1 := by rw [← hW0]; simp
  have hb0 := W_hid hb0
  have hr0 := W_hid hr0
  replace hs0 := W_hid hs0
  clear h h0 hN hM hS hok hN0
  go_enter Tryz.func46, Tryz.ntmps46
  go_wp2_with fail
  replace hW0 := W_hid hW0
  have hne : ¬ g = w.heap.size := by omega
  have hne2 : ¬ w.heap.size = g := by omega
  have fr := hr0.out.fz
  refine wp_region_held_drew (S := (fun w' => Blk w' g 128 (ncl d v))) (by kernel_rfl) hNN.out (fun hHeld => ?_)
  refine wpAnyH_take (i := 0) (v := .int .i64 n) rfl (by kernel_rfl) (by kernel_rfl) (by kernel_rfl) (fun _ _ _ h => h) (Or.inl ⟨by rfl, fun w0 s1 => ?_⟩) hHeld ?_
  · go_simp
  try simp only [Act.put, List.setIfInBounds_toArray, List.set_cons_zero, List.set_cons_succ, List.getElem_toArray, List.getElem_cons_zero, List.getElem_cons_succ]
  refine wpAnyH_take (i := 1) (v := .pointer (some ⟨g, 0, none⟩)) rfl (by kernel_rfl) (by kernel_rfl) (by kernel_rfl) (fun _ _ _ h => h) (Or.inl ⟨by rfl, fun w0 s1 => ?_⟩) hHeld ?_
  · go_simp
  try simp only [Act.put, List.setIfInBounds_toArray, List.set_cons_zero, List.set_cons_succ, List.getElem_toArray, List.getElem_cons_zero, List.getElem_cons_succ]
  refine wpAnyH_take (i := 2) (v := .pointer (some ⟨g, 0, none⟩)) rfl (by kernel_rfl) (by kernel_rfl) (by kernel_rfl) (fun _ _ _ h => h) (Or.inl ⟨by rfl, fun w0 s1 => ?_⟩) hHeld ?_
  · go_simp
  try simp only [Act.put, List.setIfInBounds_toArray, List.set_cons_zero, List.set_cons_succ, List.getElem_toArray, List.getElem_cons_zero, List.getElem_cons_succ]
  refine wpAnyH_take (i := 3) (v := .pointer (some ⟨g, 0, none⟩)) rfl (by kernel_rfl) (by kernel_rfl) (by kernel_rfl) (fun _ _ _ h => h) (Or.inl ⟨by rfl, fun w0 s1 => ?_⟩) hHeld ?_
  · go_simp
  try simp only [Act.put, List.setIfInBounds_toArray, List.set_cons_zero, List.set_cons_succ, List.getElem_toArray, List.getElem_cons_zero, List.getElem_cons_succ]
  refine wpAnyH_take (i := 4) (v := .int .i64 d.kind) rfl (by kernel_rfl) (by kernel_rfl) (by kernel_rfl) (fun _ _ _ h => h) (Or.inl ⟨by rfl, fun w0 s1 => ?_⟩) hHeld ?_
  · (have q := Blk.cell (j := 0) s1 rfl; go_simp)
  try simp only [Act.put, List.setIfInBounds_toArray, List.set_cons_zero, List.set_cons_succ, List.getElem_toArray, List.getElem_cons_zero, List.getElem_cons_succ]
  refine wpAnyH_take (i := 5) (v := .pointer (some ⟨g, 0, none⟩)) rfl (by kernel_rfl) (by kernel_rfl) (by kernel_rfl) (fun _ _ _ h => h) (Or.inl ⟨by rfl, fun w0 s1 => ?_⟩) hHeld ?_
  · go_simp
  try simp only [Act.put, List.setIfInBounds_toArray, List.set_cons_zero, List.set_cons_succ, List.getElem_toArray, List.getElem_cons_zero, List.getElem_cons_succ]
  refine wpAnyH_take (i := 6) (v := .pointer (some ⟨g, 0, none⟩)) rfl (by kernel_rfl) (by kernel_rfl) (by kernel_rfl) (fun _ _ _ h => h) (Or.inl ⟨by rfl, fun w0 s1 => ?_⟩) hHeld ?_
  · go_simp
  try simp only [Act.put, List.setIfInBounds_toArray, List.set_cons_zero, List.set_cons_succ, List.getElem_toArray, List.getElem_cons_zero, List.getElem_cons_succ]
  refine wpAnyH_take (i := 7) (v := .pointer (some ⟨g, 1, none⟩)) rfl (by kernel_rfl) (by kernel_rfl) (by kernel_rfl) (fun _ _ _ h => h) (Or.inl ⟨by rfl, fun w0 s1 => ?_⟩) hHeld ?_
  · go_simp
  try simp only [Act.put, List.setIfInBounds_toArray, List.set_cons_zero, List.set_cons_succ, List.getElem_toArray, List.getElem_cons_zero, List.getElem_cons_succ]
  refine wpAnyH_take (i := 8) (v := .int .i64 d.links) rfl (by kernel_rfl) (by kernel_rfl) (by kernel_rfl) (fun _ _ _ h => h) (Or.inl ⟨by rfl, fun w0 s1 => ?_⟩) hHeld ?_
  · (have q := Blk.cell (j := 1) s1 rfl; go_simp)
  try simp only [Act.put, List.setIfInBounds_toArray, List.set_cons_zero, List.set_cons_succ, List.getElem_toArray, List.getElem_cons_zero, List.getElem_cons_succ]
  refine wpAnyH_take (i := 9) (v := .pointer (some ⟨g, 0, none⟩)) rfl (by kernel_rfl) (by kernel_rfl) (by kernel_rfl) (fun _ _ _ h => h) (Or.inl ⟨by rfl, fun w0 s1 => ?_⟩) hHeld ?_
  · go_simp
  try simp only [Act.put, List.setIfInBounds_toArray, List.set_cons_zero, List.set_cons_succ, List.getElem_toArray, List.getElem_cons_zero, List.getElem_cons_succ]
  refine wpAnyH_take (i := 10) (v := .pointer (some ⟨g, 0, none⟩)) rfl (by kernel_rfl) (by kernel_rfl) (by kernel_rfl) (fun _ _ _ h => h) (Or.inl ⟨by rfl, fun w0 s1 => ?_⟩) hHeld ?_
  · go_simp
  try simp only [Act.put, List.setIfInBounds_toArray, List.set_cons_zero, List.set_cons_succ, List.getElem_toArray, List.getElem_cons_zero, List.getElem_cons_succ]
  refine wpAnyH_take (i := 11) (v := .pointer (some ⟨g, 2, none⟩)) rfl (by kernel_rfl) (by kernel_rfl) (by kernel_rfl) (fun _ _ _ h => h) (Or.inl ⟨by rfl, fun w0 s1 => ?_⟩) hHeld ?_
  · go_simp
  try simp only [Act.put, List.setIfInBounds_toArray, List.set_cons_zero, List.set_cons_succ, List.getElem_toArray, List.getElem_cons_zero, List.getElem_cons_succ]
  refine wpAnyH_take (i := 12) (v := .int .i64 d.opens) rfl (by kernel_rfl) (by kernel_rfl) (by kernel_rfl) (fun _ _ _ h => h) (Or.inl ⟨by rfl, fun w0 s1 => ?_⟩) hHeld ?_
  · (have q := Blk.cell (j := 2) s1 rfl; go_simp)
  try simp only [Act.put, List.setIfInBounds_toArray, List.set_cons_zero, List.set_cons_succ, List.getElem_toArray, List.getElem_cons_zero, List.getElem_cons_succ]
  refine wpAnyH_take (i := 13) (v := .pointer (some ⟨g, 0, none⟩)) rfl (by kernel_rfl) (by kernel_rfl) (by kernel_rfl) (fun _ _ _ h => h) (Or.inl ⟨by rfl, fun w0 s1 => ?_⟩) hHeld ?_
  · go_simp
  try simp only [Act.put, List.setIfInBounds_toArray, List.set_cons_zero, List.set_cons_succ, List.getElem_toArray, List.getElem_cons_zero, List.getElem_cons_succ]
  refine wpAnyH_take (i := 14) (v := .pointer (some ⟨g, 0, none⟩)) rfl (by kernel_rfl) (by kernel_rfl) (by kernel_rfl) (fun _ _ _ h => h) (Or.inl ⟨by rfl, fun w0 s1 => ?_⟩) hHeld ?_
  · go_simp
  try simp only [Act.put, List.setIfInBounds_toArray, List.set_cons_zero, List.set_cons_succ, List.getElem_toArray, List.getElem_cons_zero, List.getElem_cons_succ]
  refine wpAnyH_take (i := 15) (v := .pointer (some ⟨g, 3, none⟩)) rfl (by kernel_rfl) (by kernel_rfl) (by kernel_rfl) (fun _ _ _ h => h) (Or.inl ⟨by rfl, fun w0 s1 => ?_⟩) hHeld ?_
  · go_simp
  try simp only [Act.put, List.setIfInBounds_toArray, List.set_cons_zero, List.set_cons_succ, List.getElem_toArray, List.getElem_cons_zero, List.getElem_cons_succ]
  refine wpAnyH_take (i := 16) (v := .int .i64 d.size) rfl (by kernel_rfl) (by kernel_rfl) (by kernel_rfl) (fun _ _ _ h => h) (Or.inl ⟨by rfl, fun w0 s1 => ?_⟩) hHeld ?_
  · (have q := Blk.cell (j := 3) s1 rfl; go_simp)
  try simp only [Act.put, List.setIfInBounds_toArray, List.set_cons_zero, List.set_cons_succ, List.getElem_toArray, List.getElem_cons_zero, List.getElem_cons_succ]
  refine wpAnyH_take (i := 17) (v := .pointer (some ⟨g, 0, none⟩)) rfl (by kernel_rfl) (by kernel_rfl) (by kernel_rfl) (fun _ _ _ h => h) (Or.inl ⟨by rfl, fun w0 s1 => ?_⟩) hHeld ?_
  · go_simp
  try simp only [Act.put, List.setIfInBounds_toArray, List.set_cons_zero, List.set_cons_succ, List.getElem_toArray, List.getElem_cons_zero, List.getElem_cons_succ]
  refine wpAnyH_take (i := 18) (v := .pointer (some ⟨g, 0, none⟩)) rfl (by kernel_rfl) (by kernel_rfl) (by kernel_rfl) (fun _ _ _ h => h) (Or.inl ⟨by rfl, fun w0 s1 => ?_⟩) hHeld ?_
  · go_simp
  try simp only [Act.put, List.setIfInBounds_toArray, List.set_cons_zero, List.set_cons_succ, List.getElem_toArray, List.getElem_cons_zero, List.getElem_cons_succ]
  refine wpAnyH_take (i := 19) (v := .pointer (some ⟨g, 4, none⟩)) rfl (by kernel_rfl) (by kernel_rfl) (by kernel_rfl) (fun _ _ _ h => h) (Or.inl ⟨by rfl, fun w0 s1 => ?_⟩) hHeld ?_
  · go_simp
  try simp only [Act.put, List.setIfInBounds_toArray, List.set_cons_zero, List.set_cons_succ, List.getElem_toArray, List.getElem_cons_zero, List.getElem_cons_succ]
  refine wpAnyH_take (i := 20) (v := v) rfl (by kernel_rfl) (by kernel_rfl) (by kernel_rfl) (fun _ _ _ h => h) (Or.inl ⟨by rfl, fun w0 s1 => ?_⟩) hHeld ?_
  · (have q := Blk.cell (j := 4) s1 rfl; go_simp)
  try simp only [Act.put, List.setIfInBounds_toArray, List.set_cons_zero, List.set_cons_succ, List.getElem_toArray, List.getElem_cons_zero, List.getElem_cons_succ]
  refine wpAnyH_ready (rs := [21]) (by kernel_rfl) (by simp) ?_
  refine AllReadyH.cons rfl (fun K hK => ?_) AllReadyH.nil
  go_simp
  refine cS.out.mono ?_
  rintro e w2 ⟨rfl, hb2⟩
  have hN2 := hN1.out w2 (Own.bundrew hb2)
  have hr2 := hr0.out.keep (Own.bundrew hb2)
  have kf := hr2.fz
  have r0 := hr2.cell (j := 0) rfl
  have r1 := hr2.cell (j := 1) rfl
  have r2 := hr2.cell (j := 2) rfl
  have r3 := hr2.cell (j := 3) rfl
  have r4 := hr2.cell (j := 4) rfl
  have r5 := hr2.cell (j := 5) rfl
  refine hK.out _ _ hN2 (fun hHeld1 => ?_)
  clear hK K
  try simp only [Act.put, List.setIfInBounds_toArray, List.set_cons_zero, List.set_cons_succ, List.getElem_toArray, List.getElem_cons_zero, List.getElem_cons_succ]
  refine wpAnyH_take (i := 22) (v := .agg #[.int .i64 n, .int .i64 d.kind, .int .i64 d.links, .int .i64 d.opens, .int .i64 d.size, .int .i64 (EM.cnt d.l : Int)]) rfl (by kernel_rfl) (by kernel_rfl) (by kernel_rfl) (fun _ _ _ h => h) (Or.inl ⟨by rfl, fun w0 s1 => ?_⟩) hHeld1 ?_
  · go_simp
  try simp only [Act.put, List.setIfInBounds_toArray, List.set_cons_zero, List.set_cons_succ, List.getElem_toArray, List.getElem_cons_zero, List.getElem_cons_succ]
  refine wpAnyH_ready (rs := [23]) (by kernel_rfl) (by simp) ?_
  refine AllReadyH.cons rfl (fun K hK => ?_) AllReadyH.nil
  go_simp
  skip
  refine hK.out _ _ ((((((hN2.far (p := ⟨w.heap.size, 0, none⟩) hne _).far (p := ⟨w.heap.size, 1, none⟩) hne _).far (p := ⟨w.heap.size, 2, none⟩) hne _).far (p := ⟨w.heap.size, 3, none⟩) hne _).far (p := ⟨w.heap.size, 4, none⟩) hne _).far (p := ⟨w.heap.size, 5, none⟩) hne _) (fun hHeld2 => ?_)
  clear hK K
  try simp only [Act.put, List.setIfInBounds_toArray, List.set_cons_zero, List.set_cons_succ, List.getElem_toArray, List.getElem_cons_zero, List.getElem_cons_succ]
  refine wpAnyH_done (by kernel_rfl) ?_ _
  have hfin := six_blk hr2 n d.kind d.links d.opens d.size (EM.cnt d.l)
  have hbl := six_below (hb0.out.trans ((Own.bundrew hb2).mono hb0.out.size)) (Nat.le_refl _) n d.kind d.links d.opens d.size (EM.cnt d.l : Int)
  go_wp2_with fail
  refine bodyPost_ret (res_one rfl _ _ rfl hfin) rfl ⟨rfl, hbl⟩
end
end IN
end Go.Proofs.YtbloiilinofklaaGreat

/- Contracts of package inode's Stat, New, of stores that are there. -/
namespace Go.Proofs.YtbloiilinofklaaGreat
open Go.ChangeShapes Go.WideShapes Go.ChangeAt Go.RowKit Go.Maps
set_option linter.unusedVariables false
set_option linter.unusedSimpArgs false
namespace IN

def stV (S : Int → Option Nd) (n : Int) : List Value := match S n with
  | none => zl
  | some d => stl n d
section
variable {base sg mb I L B k : Nat} {M : Int → Option Nat} {S : Int → Option Nd}
set_option maxRecDepth 100000 in
set_option maxHeartbeats 4000000 in
theorem Stat_any (n : Int) (w : World) (h : PS base w sg mb M I L B k S) (hn : IS.I64 n) :
    Calls Tryz.prog 33 #[.pointer (some ⟨sg, 0, none⟩), .int .i64 n] w fun e w' => e = .returned (.tuple #[.agg (stV S n).toArray, .int .i64 (opR S n)]) ∧ Below w.heap.size w w' := by
  have hmf : ∀ (fn : Fn) (first cap : Array Value) (w : World), (Instr.makeFunc fn first cap).run Tryz.prog w = .ok (.func fn first cap) w := fun _ _ _ _ => rfl
  obtain ⟨W0, hW0⟩ : ∃ W0, w.alloc (.cells #[.int .i64 0, .int .i64 0, .int .i64 0, .int .i64 0, .int .i64 0, .int .i64 0] 49) = W0 := ⟨_, rfl⟩
  have hb0 : Below w.heap.size w W0 := by rw [← hW0]; exact (Below.refl _ _).alloc (Nat.le_refl _) _
  have hr0 : Blk W0 w.heap.size 49 zl := by rw [← hW0]; exact Blk.new w _ zl rfl
  have h0 := h.keep hb0
  have cA := ask_two n h0.pm hn
  have e1 : (askR S n fun _ => 0) = opR S n := rfl
  rw [e1] at cA
  have hs0 : w.heap.size ≤ W0.heap.size := hb0.size
  cases hS : S n with
  | none =>
    have e2 : opR S n = 11 := by simp [opR, askR, hS]
    have e3 : stV S n = zl := by simp [stV, hS]
    rw [e2, e3]
    rw [e2] at cA
    replace cA := W_hid cA
    replace hb0 := W_hid hb0
    replace hr0 := W_hid hr0
    clear h h0 e1 e2 e3 hS
    go_enter Tryz.func33, Tryz.ntmps33
    go_wp2_with fail
    refine cA.out.mono ?_
    rintro e w1 ⟨rfl, b1⟩
    have hr1 := hr0.out.keep b1
    have f1 := hr1.fz
    have r0 := hr1.cell (j := 0) rfl
    have r1 := hr1.cell (j := 1) rfl
    have r2 := hr1.cell (j := 2) rfl
    have r3 := hr1.cell (j := 3) rfl
    have r4 := hr1.cell (j := 4) rfl
    have r5 := hr1.cell (j := 5) rfl
    have hfin := W_hid (six_blk hr1 0 0 0 0 0 0)
    have hbl := W_hid (six_below (hb0.out.trans (b1.mono hs0)) (Nat.le_refl _) 0 0 0 0 0 0)
    clear hr1 b1
    go_wp2_with fail
    exact bodyPost_ret (res_two rfl _ _ rfl hfin.out) rfl ⟨rfl, hbl.out⟩
  | some d =>
    have e2 : opR S n = 0 := by simp [opR, askR, hS]
    have e3 : stV S n = stl n d := by simp [stV, hS]
    rw [e2, e3]
    rw [e2] at cA
    have cS := W_hid (fun w' (hb : Below W0.heap.size W0 w') => stat_any n d w' (h0.keep hb).pm hn hS (h.fn.good n d hS).ok)
    replace cA := W_hid cA
    replace hb0 := W_hid hb0
    replace hr0 := W_hid hr0
    clear h h0 e1 e2 e3 hS
    go_enter Tryz.func33, Tryz.ntmps33
    go_wp2_with fail
    refine cA.out.mono ?_
    rintro e w1 ⟨rfl, b1⟩
    have cS1 := W_hid (cS.out w1 b1)
    have b1 := W_hid b1
    go_wp2_with fail
    refine cS1.out.mono ?_
    rintro e w2 ⟨rfl, b2⟩
    have b2 := b1.out.trans (b2.mono b1.out.size)
    have hr1 := hr0.out.keep b2
    have f1 := hr1.fz
    have r0 := hr1.cell (j := 0) rfl
    have r1 := hr1.cell (j := 1) rfl
    have r2 := hr1.cell (j := 2) rfl
    have r3 := hr1.cell (j := 3) rfl
    have r4 := hr1.cell (j := 4) rfl
    have r5 := hr1.cell (j := 5) rfl
    have hfin := W_hid (six_blk hr1 n d.kind d.links d.opens d.size (EM.cnt d.l : Int))
    have hbl := W_hid (six_below (hb0.out.trans (b2.mono hs0)) (Nat.le_refl _) n d.kind d.links d.opens d.size (EM.cnt d.l : Int))
    unfold stl
    clear hr1 b2 b1
    go_wp2_with fail
    exact bodyPost_ret (res_two rfl _ _ rfl hfin.out) rfl ⟨rfl, hbl.out⟩
end

/-! New. -/
def cap7 (a b c d e f g : Int) : Value := .agg #[.int .i64 a, .int .i64 b, .int .i64 c, .int .i64 d, .int .i64 e, .int .i64 f, .int .i64 g]
def Right (a b c : Int) : Prop := 1 ≤ a ∧ a ≤ 4096 ∧ 0 ≤ b ∧ b ≤ 16777216 ∧ 1 ≤ c ∧ c ≤ 32768

set_option maxRecDepth 100000 in
set_option maxHeartbeats 4000000 in
theorem New_yes (a b c d e f g : Int) (w : World) (hr : Right a b c) :
    Calls Tryz.prog 30 #[cap7 a b c d e f g] w fun r w' => ∃ sg mb M, r = .returned (.tuple #[.pointer (some ⟨sg, 0, none⟩), .int .i64 0]) ∧ PS w.heap.size w' sg mb M a.toNat c.toNat b.toNat 0 (fun _ => none) ∧ Below w.heap.size w w' := by
  have hmm := @run_makeMap Tryz.prog
  obtain ⟨h1, h2, h3, h4, h5, h6⟩ := hr
  unfold cap7
  go_enter Tryz.func30, Tryz.ntmps30
  go_wp2_with fail
  go_ret2
  have ht : tot (fun _ => none) a.toNat = 0 := by have := (Fine.empty a.toNat c.toNat 0).tot; omega
  refine ⟨_, _, fun _ => none, rfl, ⟨⟨?_, (IS.MB.new _).alloc _, fun _ => ⟨fun _ => rfl, fun _ => rfl⟩, fun _ _ _ h => (by cases h), fun _ _ _ h => (by cases h), ⟨by (try simp) <;> omega, by (try simp) <;> omega, fun _ _ h => by cases h⟩⟩, Fine.empty _ _ _, by omega⟩, ?_⟩
  · rw [ht, Int.toNat_of_nonneg h3, Int.toNat_of_nonneg (by omega : 0 ≤ a), Int.toNat_of_nonneg (by omega : 0 ≤ c)]
    simp only [Int.ofNat_zero, Int.sub_zero]
    have hsz : ∀ (o : Obj), (w.alloc o).heap.size = w.heap.size + 1 := fun o => by simp
    rw [hsz]
    exact Blk.new _ 84 [.map (some (w.heap.size + 1)), .int .i64 a, .int .i64 c, .int .i64 b] (by simp)
  · exact (((Below.refl _ w).alloc (Nat.le_refl _) _).alloc (by simp) _).alloc (by simp; omega) _

set_option maxRecDepth 100000 in
set_option maxHeartbeats 4000000 in
theorem New_no (a b c d e f g : Int) (w : World) (hr : ¬ Right a b c) :
    Calls Tryz.prog 30 #[cap7 a b c d e f g] w fun r w' => r = .returned (.tuple #[.pointer none, .int .i64 2]) ∧ Below w.heap.size w w' := by
  unfold cap7
  have hr : a < 1 ∨ ¬ a < 1 ∧ (4096 < a ∨ ¬ 4096 < a ∧ (b < 0 ∨ ¬ b < 0 ∧ (16777216 < b ∨ ¬ 16777216 < b ∧ (c < 1 ∨ ¬ c < 1 ∧ 32768 < c)))) := by unfold Right at hr; omega
  go_enter Tryz.func30, Tryz.ntmps30
  rcases hr with hr | ⟨q1, hr | ⟨q2, hr | ⟨q3, hr | ⟨q4, hr | ⟨q5, hr⟩⟩⟩⟩⟩ <;>
  · go_wp2_with fail
    go_ret2
    exact ⟨rfl, (Below.refl _ w).alloc (Nat.le_refl _) _⟩
end IN
end Go.Proofs.YtbloiilinofklaaGreat

/- Contracts of package inode's Make, of stores that are there. -/
namespace Go.Proofs.YtbloiilinofklaaGreat
open Go.ChangeShapes Go.WideShapes Go.ChangeAt Go.RowKit Go.Maps
set_option linter.unusedVariables false
set_option linter.unusedSimpArgs false
namespace IN

section
variable {base sg mb I L B k : Nat} {M : Int → Option Nat} {S : Int → Option Nd}
/-- What Make's checks say. -/
def mkR (I : Nat) (S : Int → Option Nd) (kd : Int) : Int := if kd = 1 ∨ kd = 2 then (if (lst S I).length < I then 0 else 21) else 2
set_option maxRecDepth 100000 in
theorem ask_make (kd : Int) (w : World) (h : PS base w sg mb M I L B k S) :
    Calls Tryz.prog 42 #[.int .i64 kd, .slice (some ⟨w.heap.size, 0, none⟩) 3 3] (w.alloc (.cells #[.func (.func 43) #[.pointer (some ⟨sg, 0, none⟩)] #[], .func (.func 69) #[] #[], .func (.func 70) #[.pointer (some ⟨sg, 0, none⟩)] #[]] 81)) fun e w' => e = .returned (.int .i64 (mkR I S kd)) ∧ Below w.heap.size w w' := by
  have hal := (Below.refl w.heap.size w).alloc (Nat.le_refl _) (.cells #[.func (.func 43) #[.pointer (some ⟨sg, 0, none⟩)] #[], .func (.func 69) #[] #[], .func (.func 70) #[.pointer (some ⟨sg, 0, none⟩)] #[]] 81)
  have hb : ∀ W, Below _ _ W → Below w.heap.size w W := fun W hW => hal.trans (hW.mono hal.size)
  refine (first_make (.pointer (some ⟨sg, 0, none⟩)) _ _ _ 0 (if kd = 1 ∨ kd = 2 then 0 else 2) (if ((ks S I).length : Int) < (I : Int) then 0 else 21) kd w.heap.size _ (chk_blk w [.func (.func 43) #[.pointer (some ⟨sg, 0, none⟩)] #[], .func (.func 69) #[] #[], .func (.func 70) #[.pointer (some ⟨sg, 0, none⟩)] #[]] _ rfl)
    (fun w => by kernel_rfl) (fun w => by kernel_rfl) (fun w => by kernel_rfl) (fun W hW => made_some _ W (h.keep (hb W hW)).pm) (fun W _ hW => isKind_any kd W) (fun W _ _ hW => room_any _ _ W (h.keep (hb W hW)).pm h.nums)).mono ?_
  rintro e w' ⟨rfl, hb'⟩
  refine ⟨?_, hb w' hb'⟩
  have hlen : ((ks S I).length : Int) < (I : Int) ↔ (lst S I).length < I := by rw [ks_len]; omega
  unfold mkR
  by_cases h1 : kd = 1 ∨ kd = 2
  · by_cases h2 : (lst S I).length < I
    · simp [fst, h1, h2, hlen]
    · simp [fst, h1, h2, hlen]
  · simp [fst, h1]

set_option maxRecDepth 100000 in
set_option maxHeartbeats 4000000 in
theorem Make_no (kd : Int) (w : World) (h : PS base w sg mb M I L B k S) (r : Int) (hr : mkR I S kd = r) (hr0 : r ≠ 0) :
    Calls Tryz.prog 32 #[.pointer (some ⟨sg, 0, none⟩), .int .i64 kd] w fun e w' => e = .returned (.tuple #[.int .i64 0, .int .i64 r]) ∧ Below w.heap.size w w' := by
  have hmf : ∀ (fn : Fn) (first cap : Array Value) (w : World), (Instr.makeFunc fn first cap).run Tryz.prog w = .ok (.func fn first cap) w := fun _ _ _ _ => rfl
  have cA := ask_make kd w h
  rw [hr] at cA
  replace cA := W_hid cA
  clear h hr
  go_enter Tryz.func32, Tryz.ntmps32
  go_wp2_with fail
  refine cA.out.mono ?_
  rintro e w1 ⟨rfl, b1⟩
  go_wp2_with fail
  go_ret2
  exact ⟨rfl, b1⟩

def newNd (kd : Int) : Nd := { kind := kd, links := 1, opens := 0, size := 0, l := [] }
/-- A store into the map of inodes. -/
theorem wpList_update_n {w : World} {ops : Array Oper} {rest : List Oper} {o : Oper} {a : Act} {Q : Exit → Act → World → Prop} (hg : o.guard = none) (m x v : Operand) (hop : o.op = Op.mapUpdate 82 m x v)
    (b : Nat) (f : Int) (g : Nat) (M : Int → Option Nat) (hm : a.eval m = .map (some b)) (hx : a.eval x = .int .i64 f) (hv : a.eval v = .pointer (some ⟨g, 0, none⟩)) (h : IS.MB w b M) (hf : 0 ≤ f ∧ f < 65536)
    (hK : ∀ w', IS.MB w' b (IS.upd M f (some g)) → w.grownBy w' (some b) → w'.heap.size = w.heap.size → wpList Tryz.prog ops Q rest (a.put o.dst undef) w') : wpList Tryz.prog ops Q (o :: rest) a w := by
  refine wpList_plain hg fun K' hK' => ?_
  obtain ⟨w', hrun, r1, r2, r3⟩ := h.put f g hf
  unfold Oper.wp
  simp [execOp, hop, hm, hx, hv, hrun, Result.andThen]
  exact hK' _ _ (hK w' r1 r2 r3)

set_option maxRecDepth 100000 in
set_option maxHeartbeats 4000000 in
theorem Make_yes (kd : Int) (n : Nat) (w : World) (h : PS base w sg mb M I L B k S) (hr : mkR I S kd = 0) (hlow : Low S n) (hnI : n ≤ I) (hL : 1 ≤ L) :
    Calls Tryz.prog 32 #[.pointer (some ⟨sg, 0, none⟩), .int .i64 kd] w fun e w' => e = .returned (.tuple #[.int .i64 (n : Int), .int .i64 0]) ∧ (∃ M', PS base w' sg mb M' I L B k (upd S (n : Int) (some (newNd kd)))) ∧ Keeps base (PT mb) w w' := by
  have hmf : ∀ (fn : Fn) (first cap : Array Value) (w : World), (Instr.makeFunc fn first cap).run Tryz.prog w = .ok (.func fn first cap) w := fun _ _ _ _ => rfl
  have cA := ask_make kd w h
  rw [hr] at cA
  replace cA := W_hid cA
  have hkd : kd = 1 ∨ kd = 2 := by
    unfold mkR at hr
    by_cases e : kd = 1 ∨ kd = 2
    · exact e
    · rw [if_neg e] at hr; cases hr
  have hI := h.lim.1
  have H := W_hid h
  have hn1 := hlow.1
  have hlow := W_hid hlow
  have hkd := W_hid hkd
  clear h hr
  go_enter Tryz.func32, Tryz.ntmps32
  go_wp2_with fail
  refine cA.out.mono ?_
  rintro e w1 ⟨rfl, b1⟩
  have h1 := H.out.keep b1
  have c0 := h1.pm.box.cell (j := 0) rfl
  have hlook := W_hid (fun f hf => h1.pm.mp.look f hf)
  have hsome : Hid (∀ m : Nat, 1 ≤ m → m < n → ∃ g, M (m : Int) = some g) := W_hid (fun m a b => by
    have := hlow.out.2.2 m a b
    have hd := h1.pm.dom (m : Int)
    cases e : M (m : Int) with
    | none => exact absurd (hd.1 e) this
    | some g => exact ⟨g, rfl⟩)
  have hnone : Hid (M (n : Int) = none) := W_hid ((h1.pm.dom _).2 hlow.out.2.1)
  have hlw := H.out.low
  have b1' := W_hid b1
  have h1 := W_hid h1
  clear b1 cA
  go_wp2_with fail
  go_loopw [7] (fun v wr => ∃ m : Nat, v = .int .i64 (m : Int) ∧ 1 ≤ m ∧ m ≤ n ∧ wr = w1) (fun v _ => n - (intOf v).toNat)
  case atStart => exact ⟨1, rfl, Nat.le_refl _, hn1, rfl⟩
  case round =>
    obtain ⟨m, rfl, hm1, hmn, rfl⟩ := hrel
    have hlk := hlook.out (m : Int) (IS.i64_nat (by omega))
    rcases Nat.lt_or_ge m n with hlt | hge
    · obtain ⟨g, hg⟩ := hsome.out m hm1 hlt
      rw [hg] at hlk
      simp only [IS.ptr] at hlk
      clear hg
      go_wp2_with fail
      go_roundw
      case rel => exact ⟨m + 1, by go_num, by omega, by omega, by first | trivial | rfl⟩
      case measure => simp [intOf]; omega
    · obtain rfl : m = n := by omega
      rw [hnone.out] at hlk
      simp only [IS.ptr] at hlk
      have hmb := W_hid (h1.out.pm.mp.alloc (.cells #[.int .i64 kd, .int .i64 1, .int .i64 0, .int .i64 0, .slice none 0 0] 128))
      have hbk := W_hid (h1.out.pm.alloc (.cells #[.int .i64 kd, .int .i64 1, .int .i64 0, .int .i64 0, .slice none 0 0] 128))
      have hnw := W_hid (Blk.new wr 128 (ncl (newNd kd) (.slice none 0 0)) rfl)
      have hgsz : ∀ x g, M x = some g → g < wr.heap.size := fun x g hx => h1.out.pm.glt hx
      have hgsz := W_hid hgsz
      go_wp2_with (first | (refine wpList_update_n rfl _ _ _ rfl mb (m : Int) wr.heap.size M rfl rfl rfl hmb.out (by omega) ?_; intro w2 hm2 hg2 hs2))
      have hu : ∀ x, IS.upd M (m : Int) (some wr.heap.size) x = none ↔ upd S (m : Int) (some (newNd kd)) x = none := fun x => by
        by_cases e : x = (m : Int)
        · subst e; rw [upd_at]; simp [IS.upd]
        · rw [upd_ne e]; unfold IS.upd; rw [if_neg e]; exact h1.out.pm.dom x
      obtain ⟨q1, q2⟩ := hbk.out.turn hm2 hg2 (upd S (m : Int) (some (newNd kd))) hu (fun x g' d' hM' hS' => by
        by_cases e : x = (m : Int)
        · subst e
          rw [upd_at] at hS'
          cases hS'
          unfold IS.upd at hM'
          rw [if_pos rfl] at hM'
          cases hM'
          exact .inr ⟨_, ⟨hnw.out, XE.nil _⟩, by have := b1'.out.size; omega⟩
        · rw [upd_ne e] at hS'
          unfold IS.upd at hM'
          rw [if_neg e] at hM'
          exact .inl ⟨hM', hS'⟩) (fun x y g' hA hB => by
        unfold IS.upd at hA hB
        split at hA
        · split at hB
          · omega
          · cases hA; have := hgsz.out _ _ hB; omega
        · split at hB
          · cases hB; have := hgsz.out _ _ hA; omega
          · exact h1.out.pm.inj x y g' hA hB)
      have ht := tot_upd S m I (some (newNd kd)) hm1 hnI
      rw [hlow.out.2.1] at ht
      simp only [cntOf, newNd, EM.cnt_nil] at ht
      have ht : tot (upd S (m : Int) (some (newNd kd))) I = tot S I := by simp only [newNd]; omega
      have q1 := W_hid q1
      have q2 := W_hid ((Keeps.new (T := PT mb) b1'.out hlw).trans (((Keeps.refl base (PT mb) wr).alloc (Nat.le_trans hlw b1'.out.size) _).trans q2))
      have ht := W_hid ht
      clear hm2 hg2 hu hs2
      go_wp2_with fail
      go_ret2
      have hf1 := h1.out.fn
      refine ⟨rfl, ⟨IS.upd M (m : Int) (some wr.heap.size), ?_, hf1.turn hm1 hnI (fun d hd => by
        cases hd
        exact ⟨hkd.out, by simp [newNd]; omega, by simp [newNd], by simp [newNd], by simp [newNd], rfl, by simp [newNd, ends], fun _ => ⟨rfl, rfl⟩⟩) (by have := hf1.tot; simp [cntOf, newNd, EM.cnt_nil]; omega), h1.out.lim⟩, q2.out⟩
      rw [ht.out]
      exact q1.out
end
end IN
end Go.Proofs.YtbloiilinofklaaGreat

namespace Go.Proofs.YtbloiilinofklaaGreat
open Go.ChangeShapes Go.WideShapes Go.ChangeAt Go.RowKit Go.Maps
set_option linter.unusedVariables false
set_option linter.unusedSimpArgs false
namespace NT
open IN (Keeps)

/-- What a call writes into: the store's, the tree's directories and their maps. -/
def FT (A : Int → Option (Nat × Nat)) (mb : Nat) (k : Nat) (o : Obj) : Prop := IN.PT mb k o ∨ ∃ n g m, A n = some (g, m) ∧ (OneD g k o ∨ One m k o)
theorem keeps_wide {B : Nat} {T U : Nat → Obj → Prop} {w w' : World} (h : Keeps B T w w') (hTU : ∀ k o, w.heap[k]? = some o → T k o → U k o) : Keeps B U w w' :=
  ⟨h.os, h.tape, h.output, h.size, h.low, fun k o ho hU => h.block k o ho fun hT => hU (hTU k o ho hT)⟩
section
variable {base : Nat} {w w' : World} {tg sg mb : Nat} {A : Int → Option (Nat × Nat)} {D : Ds}
theorem keeps_store (h : Keeps base (IN.PT mb) w w') : Keeps base (FT A mb) w w' := keeps_wide h fun k o _ hT => .inl hT
theorem keeps_one {n : Int} {g m : Nat} (hA : A n = some (g, m)) (h : Keeps base (One m) w w') : Keeps base (FT A mb) w w' := keeps_wide h fun k o _ hT => .inr ⟨n, g, m, hA, .inr hT⟩
theorem keeps_dir {n : Int} {g m : Nat} (hA : A n = some (g, m)) (h : Keeps base (OneD g) w w') : Keeps base (FT A mb) w w' := keeps_wide h fun k o _ hT => .inr ⟨n, g, m, hA, .inl hT⟩

/-- The tree's part of what was there is no block of another kind. -/
theorem TM.neq (h : TM base w tg sg mb A D) {n : Int} {g m : Nat} (hA : A n = some (g, m)) : g ≠ m ∧ tg ≠ g ∧ tg ≠ m ∧ ∀ n' g' m', A n' = some (g', m') → g' ≠ m ∧ m' ≠ g := by
  obtain ⟨d, hD, p, q⟩ := h.hasA hA
  obtain ⟨es, c, hm⟩ := q.obj
  have cm : ∀ {x : Nat} {e : TypeId} {l : List Value}, Blk w x e l → x ≠ m := fun {x e l} hx e' => by
    subst e'
    unfold Blk at hx
    rw [hx] at hm
    cases hm
  refine ⟨cm p, IN.blk_ne h.box p (by decide), cm h.box, fun n' g' m' hA' => ?_⟩
  obtain ⟨d', hD', p', q'⟩ := h.hasA hA'
  refine ⟨cm p', fun e' => ?_⟩
  obtain ⟨es', c', hm'⟩ := q'.obj
  subst e'
  unfold Blk at p
  rw [p] at hm'
  cases hm'

/-- A directory's names turned. -/
theorem TM.turn (h : TM base w tg sg mb A D) {n : Int} {g m : Nat} {d : Dr} (hA : A n = some (g, m)) (hD : D n = some d) {l' : List (ByteArray × Int)} (hm : NS.MB w' m (nm A l')) (hK : Keeps base (One m) w w') : TM base w' tg sg mb A (upd D n (some { d with l := l' })) := by
  have hne := h.neq hA
  have hmv : ∀ {x : Nat} {e : TypeId} {l : List Value}, x ≠ m → Blk w x e l → Blk w' x e l := fun {x e l} hx hb => hK.block x _ hb fun h => hx h.1
  refine ⟨hmv hne.2.2.1 h.box, fun n' => ?_, ?_, fun n' g' m' d' hA' hD' => ?_, h.inj, h.ge⟩
  · by_cases e : n' = n
    · subst e; rw [upd_at, hA]; simp
    · rw [upd_ne e]; exact h.dom n'
  · by_cases e : (1 : Int) = n
    · rw [e, upd_at]; simp
    · rw [upd_ne e]; exact h.root
  · by_cases e : n' = n
    · subst e
      rw [upd_at] at hD'
      cases hD'
      rw [hA] at hA'
      cases hA'
      obtain ⟨p, q⟩ := h.dir n' g m d hA hD
      exact ⟨hmv hne.1 p, hm⟩
    · rw [upd_ne e] at hD'
      obtain ⟨p, q⟩ := h.dir n' g' m' d' hA' hD'
      have hg := (hne.2.2.2 n' g' m' hA').1
      have hm' := (h.inj n' n g' m' g m hA' hA e).2
      refine ⟨hmv hg p, q.heap ?_⟩
      obtain ⟨es, c, ho⟩ := q.obj
      exact (hK.block m' _ ho fun h => hm' h.1).trans ho.symm
theorem nm_put (A : Int → Option (Nat × Nat)) (l : List (ByteArray × Int)) (k : ByteArray) (n : Int) : nm A (put k n l) = NS.upd (nm A l) k (some (n, pa A n)) := by
  funext j
  unfold nm NS.upd
  rw [look_put]
  by_cases e : j = k <;> simp [e]
theorem nm_del (A : Int → Option (Nat × Nat)) (l : List (ByteArray × Int)) (k : ByteArray) : nm A (del k l) = NS.upd (nm A l) k none := by
  funext j
  unfold nm NS.upd
  rw [look_del]
  by_cases e : j = k <;> simp [e]

def updA (A : Int → Option (Nat × Nat)) (n : Int) (x : Option (Nat × Nat)) : Int → Option (Nat × Nat) := fun m => if m = n then x else A m
theorem updA_at (n : Int) (x : Option (Nat × Nat)) : updA A n x n = x := if_pos rfl
theorem updA_ne {n m : Int} {x : Option (Nat × Nat)} (h : m ≠ n) : updA A n x m = A m := if_neg h
theorem pa_ne {n m : Int} {x : Option (Nat × Nat)} (h : m ≠ n) : pa (updA A n x) m = pa A m := by unfold pa; rw [updA_ne h]
/-- Nothing refers to a number. -/
def Free (D : Ds) (n : Int) : Prop := ∀ m d, D m = some d → d.up ≠ n ∧ ∀ k, look k d.l ≠ some n
theorem nm_free {l : List (ByteArray × Int)} {n : Int} {x : Option (Nat × Nat)} (h : ∀ k, look k l ≠ some n) : nm (updA A n x) l = nm A l := by
  funext k
  unfold nm
  cases e : look k l with
  | none => rfl
  | some j =>
    have : j ≠ n := fun e' => h k (by rw [e, e'])
    simp [pa_ne this]
/-- A directory more. -/
theorem TM.grow (h : TM base w tg sg mb A D) {n u : Int} {g m : Nat} (hn : D n = none) (hf : Free D n) (hu : D u ≠ none) (hg : Blk w g 126 [.int .i64 u, IS.ptr (pa A u), .map (some m)]) (hm : NS.MB w m (fun _ => none)) (h1 : ∀ n' g' m', A n' = some (g', m') → g' ≠ g ∧ m' ≠ m) (h2 : base ≤ g ∧ base ≤ m ∧ m ≠ mb) :
    TM base w tg sg mb (updA A n (some (g, m))) (upd D n (some ⟨u, []⟩)) := by
  have h1n : (1 : Int) ≠ n := fun e => h.root (by rw [e]; exact hn)
  have hun : u ≠ n := fun e => hu (by rw [e]; exact hn)
  refine ⟨?_, fun n' => ?_, ?_, fun n' g' m' d' hA' hD' => ?_, fun n' n2 g' m' g2 m2 hA' hA2 e => ?_, h.ge.1, fun n' g' m' hA' => ?_⟩
  · rw [pa_ne h1n]; exact h.box
  · by_cases e : n' = n
    · subst e; rw [upd_at, updA_at]; simp
    · rw [upd_ne e, updA_ne e]; exact h.dom n'
  · rw [upd_ne h1n]; exact h.root
  · by_cases e : n' = n
    · subst e
      rw [upd_at] at hD'
      rw [updA_at] at hA'
      cases hD'
      cases hA'
      refine ⟨?_, hm.congr fun f => ?_⟩
      · unfold dcl
        rw [pa_ne hun]
        exact hg
      · simp [nm, look]
    · rw [upd_ne e] at hD'
      rw [updA_ne e] at hA'
      obtain ⟨p, q⟩ := h.dir n' g' m' d' hA' hD'
      have hfr := hf n' d' hD'
      refine ⟨?_, ?_⟩
      · unfold dcl
        rw [pa_ne hfr.1]
        exact p
      · rw [nm_free hfr.2]
        exact q
  · by_cases e1 : n' = n
    · by_cases e2 : n2 = n
      · exact absurd (e1.trans e2.symm) e
      · subst e1
        rw [updA_at] at hA'
        rw [updA_ne e2] at hA2
        cases hA'
        have := h1 n2 g2 m2 hA2
        exact ⟨this.1.symm, this.2.symm⟩
    · by_cases e2 : n2 = n
      · subst e2
        rw [updA_at] at hA2
        rw [updA_ne e1] at hA'
        cases hA2
        exact h1 n' g' m' hA'
      · rw [updA_ne e1] at hA'
        rw [updA_ne e2] at hA2
        exact h.inj n' n2 g' m' g2 m2 hA' hA2 e
  · by_cases e1 : n' = n
    · subst e1
      rw [updA_at] at hA'
      cases hA'
      exact h2
    · rw [updA_ne e1] at hA'
      exact h.ge.2 n' g' m' hA'
end
end NT
end Go.Proofs.YtbloiilinofklaaGreat

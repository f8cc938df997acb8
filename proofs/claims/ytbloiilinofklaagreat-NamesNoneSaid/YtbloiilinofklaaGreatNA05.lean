/- The laws of layer 12 (package haywardlaw12), the first part: what they share, and NamesNone: for every input it returns true, and its arguments read as before. No further condition. -/
import Derived.Test.YtbloiilinofklaaGreatNA01
import Derived.Maps.AppendAt
import Derived.Laws.OwnMore
import Derived.Laws.AppendOwnNone
import Derived.Test.YtbloiilinofklaaGreatNA03
import Derived.Test.YtbloiilinofklaaGreatNA04
import Derived.ShutString
import Derived.ChangeOld

/- Rows that are owned, continued: what reads as cells, appended; rows made empty; cuts. Free of any program's numbers. -/
namespace Go.Proofs.YtbloiilinofklaaGreat
open Go.ChangeShapes Go.WideShapes Go.ChangeAt Go.RowKit
set_option linter.unusedVariables false
set_option linter.unusedSimpArgs false
namespace Own

/-- A slice value that reads as these cells, m elements of so many. -/
def Src (w : World) (size : Nat) (u : Value) (m : Nat) (ys : List Value) : Prop :=
  (u = .slice none 0 0 ∧ m = 0 ∧ ys = []) ∨ ∃ ad c, u = .slice (some ad) m c ∧ ys.length = m * size ∧ ∀ j v, ys[j]? = some v → w.cell? (ad.add j) = some v
theorem Src.keep {w w' : World} {size m : Nat} {u : Value} {ys : List Value} (h : Src w size u m ys) (hb : Below w.heap.size w w') : Src w' size u m ys := by
  rcases h with h | ⟨ad, c, h1, h2, h3⟩
  · exact .inl h
  · exact .inr ⟨ad, c, h1, h2, fun j v hj => by rw [hb.cell (World.block_lt_of_cell? w _ (h3 j v hj))]; exact h3 j v hj⟩
theorem Src.grown {w w' : World} {size m : Nat} {u : Value} {ys : List Value} {row : Option Nat} (h : Src w size u m ys) (hg : w.grownBy w' row) (hr : ∀ ad n c, u = .slice (some ad) n c → 0 < n → some ad.block ≠ row) : Src w' size u m ys := by
  rcases h with h | ⟨ad, c, h1, h2, h3⟩
  · exact .inl h
  · refine .inr ⟨ad, c, h1, h2, fun j v hj => ?_⟩
    have hm : 0 < m := by
      rcases Nat.eq_zero_or_pos m with h0 | h0
      · subst h0
        rw [Nat.zero_mul] at h2
        rw [List.eq_nil_of_length_eq_zero h2] at hj
        cases hj
      · exact h0
    refine cellg hg (h3 j v hj) ?_
    have e : (ad.add j).block = ad.block := by unfold Addr.add; split <;> rfl
    rw [e]
    exact hr ad m c h1 hm

/-- What the model says of an element's type. -/
def Info (P : Program) (e : TypeId) (z : Value) (size bytes : Nat) : Prop := ∃ i, P.info? e = some i ∧ i.zero = some z ∧ i.size = size ∧ i.bytes = bytes ∧ z.cells.size = size ∧ 0 < size
theorem info_of {P : Program} {e : TypeId} {z : Value} {size bytes : Nat} (h : (P.info? e).map (fun i => (i.zero, i.size, i.bytes)) = some (some z, size, bytes)) (h2 : z.cells.size = size) (h3 : 0 < size) : Info P e z size bytes := by
  cases hi : P.info? e with
  | none => rw [hi] at h; cases h
  | some i =>
    rw [hi] at h
    simp only [Option.map_some, Option.some.injEq, Prod.mk.injEq] at h
    exact ⟨i, hi, h.1, h.2.1, h.2.2, h2, h3⟩

theorem run_app {P : Program} {w : World} {t ty e : TypeId} {z : Value} {size bytes : Nat} (ht : P.underlying t = some (.slice e)) (hinf : Info P e z size bytes) {base n m : Nat} {v u : Value} {xs ys : List Value}
    (hown : w.ownsRow base e size v n xs) (hbase : base ≤ w.heap.size) (hs : Src w size u m ys) (h1 : ∀ u ∈ ys, u.oneCell' = true) (h63 : n + m ≤ maxLen) (hb : (n + m) * bytes ≤ 140737488355328) :
    ∃ v' w', (Builtin.append_ #[t, t] ty #[v, u]).run P w = .ok v' w' ∧ w'.ownsRow base e size v' (n + m) (xs ++ ys) ∧ w.grownBy w' v.ownBlock ∧ (v'.ownBlock = v.ownBlock ∨ v'.ownBlock = some w.heap.size) := by
  obtain ⟨i, hi, hz, hsize, hby, hzs, hsz⟩ := hinf
  rcases hs with ⟨rfl, rfl, rfl⟩ | ⟨ad, c, rfl, hl, hc⟩
  · refine ⟨v, w, run_append_owned_none (P := P) (w := w) base t ty e i size ht hi v n xs hown, ?_, World.grownBy.refl w _, .inl rfl⟩
    simpa using hown
  · obtain ⟨v', w', h1, h2, h3, -, h5⟩ := run_append_own_at (P := P) w base t ty e i z size bytes ht hi hz hsize hby hzs hsz v n xs hown ad m c ys hl hc h1 h63 hb hbase
    exact ⟨v', w', h1, h2, h3, h5⟩
/-- 'append', as one step of a region that draws. -/
theorem step_app {P : Program} {ops : Array Oper} {o : Oper} {a : Act} {w : World} {K : Act → World → Prop} {Q : Exit → Act → World → Prop} {E : Prop}
    (hg : o.guard = none) (s x : Operand) (t : TypeId) (hop : o.op = Op.call { callee := Callee.builtin Builtin.append, args := #[s, x], argTypes := #[t, t] })
    {e : TypeId} {z : Value} {size bytes : Nat} (ht : P.underlying t = some (.slice e)) (hinf : Info P e z size bytes) {base n m : Nat} (v u : Value) {xs ys : List Value} (hs : a.eval s = v) (hx : a.eval x = u)
    (hown : w.ownsRow base e size v n xs) (hbase : base ≤ w.heap.size) (hsrc : Src w size u m ys) (h1 : ∀ u ∈ ys, u.oneCell' = true) (h63 : n + m ≤ maxLen) (hb : (n + m) * bytes ≤ 140737488355328)
    (hK : ∀ v' w', w'.ownsRow base e size v' (n + m) (xs ++ ys) → w.grownBy w' v.ownBlock → (v'.ownBlock = v.ownBlock ∨ v'.ownBlock = some w.heap.size) → K (a.put o.dst v') w') :
    if Region.wanted o (yielded ops a.tmps) = true then Oper.wp P o a w K Q else E := by
  have hw : Region.wanted o (yielded ops a.tmps) = true := by simp [Region.wanted, hg]
  rw [if_pos hw]
  obtain ⟨v', w', hrun, r1, r2, r3⟩ := run_app (ty := o.type) ht hinf hown hbase hsrc h1 h63 hb
  unfold Oper.wp
  simp [execOp, hop, resolve, invoke, builtin, hs, hx, hrun, Result.andThen]
  exact hK v' w' r1 r2 r3
/-- 'append', at the list of a plain region's operations. -/
theorem wpList_app {P : Program} {ops : Array Oper} {rest : List Oper} {o : Oper} {a : Act} {w : World} {Q : Exit → Act → World → Prop} (hgd : o.guard = none) (s x : Operand) (t : TypeId)
    (hop : o.op = Op.call { callee := Callee.builtin Builtin.append, args := #[s, x], argTypes := #[t, t] })
    {e : TypeId} {z : Value} {size bytes : Nat} (ht : P.underlying t = some (.slice e)) (hinf : Info P e z size bytes) {base n m : Nat} (v u : Value) {xs ys : List Value} (hs : a.eval s = v) (hx : a.eval x = u)
    (hown : w.ownsRow base e size v n xs) (hbase : base ≤ w.heap.size) (hsrc : Src w size u m ys) (h1 : ∀ u ∈ ys, u.oneCell' = true) (h63 : n + m ≤ maxLen) (hb : (n + m) * bytes ≤ 140737488355328)
    (hK : ∀ v' w', w'.ownsRow base e size v' (n + m) (xs ++ ys) → w.grownBy w' v.ownBlock → (v'.ownBlock = v.ownBlock ∨ v'.ownBlock = some w.heap.size) → wpList P ops Q rest (a.put o.dst v') w') : wpList P ops Q (o :: rest) a w := by
  refine wpList_plain hgd fun K' hK' => ?_
  obtain ⟨v', w', hrun, r1, r2, r3⟩ := run_app (ty := o.type) ht hinf hown hbase hsrc h1 h63 hb
  unfold Oper.wp
  simp [execOp, hop, resolve, invoke, builtin, hs, hx, hrun, Result.andThen]
  exact hK' _ _ (hK v' w' r1 r2 r3)
/-- 'make' of an empty row with room. -/
theorem make_room {P : Program} {t e : TypeId} {z : Value} {size bytes : Nat} (ht : P.underlying t = some (.slice e)) (hinf : Info P e z size bytes) (m : Nat) (zz : Int) (hzm : zz = m) (h : m * bytes ≤ 140737488355328) (h2 : m ≤ 140737488355328) :
    ∃ X : Obj, (∀ W : World, (Instr.makeSlice t (.int .i64 0) (.int .i64 zz)).run P W = .ok (.slice (some ⟨W.heap.size, 0, none⟩) 0 m) (W.alloc X)) ∧
    ∀ (W : World) (base : Nat), base ≤ W.heap.size → (W.alloc X).ownsRow base e size (.slice (some ⟨W.heap.size, 0, none⟩) 0 m) 0 [] := by
  subst hzm
  obtain ⟨i0, hi, hz0, hz1, hz2, hzs, hsz⟩ := hinf
  refine ⟨_, fun W => ?_, fun W base hb => World.ownsRow_made (size := size) W _ m hb (by unfold maxLen; omega) (size_madeCells z.cells (m * size))⟩
  have hr := run_make (P := P) W t e i0 z ht hi hz0 .i64 .i64 0 (m : Int) (Int.le_refl _) (by omega) (by rw [hz2, Int.mul_comm, ← Int.natCast_mul]; omega) (by omega)
  simp only [Int.toNat_zero, Int.toNat_natCast, hz1] at hr
  exact hr
end Own
end Go.Proofs.YtbloiilinofklaaGreat

/- slices.Sorted of a map's numbers, also of none; contract of package inode's All. -/
namespace Go.Proofs.YtbloiilinofklaaGreat
open Go.ChangeShapes Go.WideShapes Go.ChangeAt Go.RowKit
set_option linter.unusedVariables false
set_option linter.unusedSimpArgs false
namespace IS

set_option maxRecDepth 100000 in
set_option maxHeartbeats 1000000 in
theorem insert_nil (w : World) : Calls Tryz.prog 117 #[.slice none 0 0, .int .i64 0, .int .i64 0] w fun e w' => e = .returned (.tuple #[]) ∧ w' = w := by
  go_enter Tryz.func117, Tryz.ntmps117
  go_wp2_with fail
  go_loopw [6] (fun v wr => v = .int .i64 1 ∧ wr = w) (fun _ _ => 0)
  case atStart => exact ⟨rfl, rfl⟩
  case round =>
    obtain ⟨rfl, rfl⟩ := hrel
    go_wp2_with fail
    go_end0
    exact ⟨rfl, rfl⟩
set_option maxRecDepth 100000 in
set_option maxHeartbeats 1000000 in
theorem pdq_nil (k : Nat) (w : World) : Calls Tryz.prog 106 #[.slice none 0 0, .int .i64 0, .int .i64 0, .int .i64 (k : Int)] w fun e w' => e = .returned (.tuple #[]) ∧ w' = w := by
  have c := W_hid (insert_nil w)
  go_enter Tryz.func106, Tryz.ntmps106
  go_wp2_with fail
  go_loopw [1, 2, 3, 8, 9] (fun a b l _ _ wr => a = .int .i64 0 ∧ b = .int .i64 0 ∧ l = .int .i64 (k : Int) ∧ wr = w) (fun _ _ _ _ _ _ => 0)
  case atStart => exact ⟨rfl, rfl, rfl, rfl⟩
  case round =>
    obtain ⟨rfl, rfl, rfl, rfl⟩ := hrel
    go_wp2_with fail
    refine c.out.mono ?_
    rintro e w' ⟨rfl, rfl⟩
    go_wp2_with fail
    refine bodyPost_ret (results_none rfl _ _ _) rfl ?_
    exact ⟨rfl, rfl⟩
set_option maxRecDepth 100000 in
set_option maxHeartbeats 1000000 in
theorem Sort_nil (w : World) : Calls Tryz.prog 86 #[.slice none 0 0] w fun e w' => e = .returned (.tuple #[]) ∧ w' = w := by
  have cL := Len_any 0 w (by omega) (by omega)
  have cP := W_hid (fun k : Nat => pdq_nil k w)
  go_enter Tryz.func86, Tryz.ntmps86
  go_wp2_with (first
    | (go_at_call 107; refine cL.mono ?_; rintro e w' ⟨⟨k, rfl, hk⟩, rfl⟩)
    | (go_at_call 106; refine (cP.out _).mono ?_; rintro e w' ⟨rfl, rfl⟩))
  go_end0
  exact ⟨rfl, rfl⟩

/-- A slice value that reads as these numbers. -/
def LC (base : Nat) (w : World) (v : Value) (l : List Nat) : Prop := ∃ ao cap, v = .slice ao l.length cap ∧ ∀ i (hi : i < l.length), ∃ blk off, ao = some ⟨blk, off, none⟩ ∧ base ≤ blk ∧ blk < w.heap.size ∧ w.cell? ⟨blk, off + i, none⟩ = some (.int .i64 (l[i] : Int))
theorem LC.nlist {base : Nat} {w : World} {v : Value} {l : List Nat} (h : Nlist base w v l) : LC base w v l := by
  obtain ⟨g, cap, rest, rfl, h1, h2, h3⟩ := h.ex
  refine ⟨_, _, rfl, fun i hi => ⟨g, 0, rfl, h1, h3.lt, ?_⟩⟩
  rw [Nat.zero_add]
  refine h3.cell ?_
  rw [List.getElem?_append_left (by simpa using hi), List.getElem?_map, List.getElem?_eq_getElem hi]
  rfl

set_option maxRecDepth 100000 in
set_option maxHeartbeats 4000000 in
theorem Sorted_nums (Bm b : Nat) (M : Int → Option Nat) (w : World) (hBm : Bm < w.heap.size) (hb : b < w.heap.size) (hm : w.cell? ⟨Bm, 0, none⟩ = some (.map (some b))) (hMB : MB w b M) (ks : List Nat) (hk : Nums M ks) (hr : ks.Pairwise (· < ·)) (hlen : ks.length < 65536) :
    Calls Tryz.prog 44 #[.func (.func 87) #[] #[.pointer (some ⟨Bm, 0, none⟩)]] w fun e w' => ∃ v, e = .returned v ∧ LC w.heap.size w' v ks ∧ Below w.heap.size w w' := by
  cases ks with
  | nil =>
    have cC := W_hid (Collect_any Bm b M w hBm hb hm hMB)
    have hS := W_hid Sort_nil
    have hk := W_hid hk
    clear hm hMB
    go_enter Tryz.func44, Tryz.ntmps44
    go_wp2_with fail
    refine cC.out.mono ?_
    rintro e w1 ⟨v, ss, rfl, hN, hown, hnil, hB⟩
    have hss : ss = [] := List.eq_nil_of_length_eq_zero (by have := hN.len_eq hk.out; simpa using this)
    obtain rfl := hnil.2 hss
    clear hN hown hnil hss
    go_wp2_with fail
    refine (hS.out w1).mono ?_
    rintro e w2 ⟨rfl, rfl⟩
    go_wp2_with fail
    go_ret
    exact ⟨_, rfl, ⟨none, 0, rfl, fun i hi => by simp at hi⟩, hB⟩
  | cons x r =>
    refine (Sorted_all Bm b M w hBm hb hm hMB (fun ss hs => by rw [hs.len_eq hk]; exact hlen) ⟨x, (hk.2 x).1 (by simp)⟩).mono ?_
    rintro e w' ⟨v, l, rfl, hN, hp, hl, hB⟩
    have hl1 : l.Pairwise (· < ·) := by
      refine List.pairwise_iff_getElem.2 fun i j hi hj hij => ?_
      have h3 := List.pairwise_iff_getElem.1 hp i j hi hj hij
      have h4 := List.pairwise_iff_getElem.1 hN.1 i j hi hj hij
      omega
    have e : l = x :: r := IN.rise_eq hl1 hr fun y => by rw [hN.2 y, hk.2 y]
    subst e
    exact ⟨v, rfl, LC.nlist hl, hB⟩
end IS

namespace IN
/-- Inodes, as cells. -/
def stcl (l : List (Nat × Nd)) : List Value := l.flatMap fun x => stl (x.1 : Int) x.2
theorem stcl_len (l : List (Nat × Nd)) : (stcl l).length = l.length * 6 := by
  induction l with
  | nil => rfl
  | cons x r ih => simp only [stcl, List.flatMap_cons, List.length_append, List.length_cons] at ih ⊢; rw [ih]; simp [stl]; omega
theorem stcl_app (a b : List (Nat × Nd)) : stcl (a ++ b) = stcl a ++ stcl b := List.flatMap_append
theorem stcl_one (x : Nat × Nd) : stcl [x] = stl (x.1 : Int) x.2 := by simp [stcl]
theorem info_stat : Own.Info Tryz.prog 49 (.agg zl.toArray) 6 48 := Own.info_of (by kernel_rfl) rfl (by decide)
theorem stl_cells (w : World) (n : Int) (d : Nd) (g : Nat) (hB : Blk w g 49 (stl n d)) : Own.Src w 6 (.slice (some ⟨g, 0, none⟩) 1 1) 1 (stl n d) :=
  .inr ⟨_, _, rfl, by simp [stl], fun j v hj => by
    have := hB.cell hj
    rw [Addr.add_lit, Nat.zero_add]
    exact this⟩
theorem stl_one (n : Int) (d : Nd) : ∀ u ∈ stl n d, u.oneCell' = true := by
  intro u hu
  simp only [stl, List.mem_cons, List.not_mem_nil, or_false] at hu
  rcases hu with rfl | rfl | rfl | rfl | rfl | rfl <;> rfl

section
variable {base sg mb I L B k : Nat} {M : Int → Option Nat} {S : Int → Option Nd}
set_option maxRecDepth 100000 in
theorem ask_one {w : World} {I L left : Int} (h : PM base w sg mb M I L left S) :
    Calls Tryz.prog 42 #[.int .i64 0, .slice (some ⟨w.heap.size, 0, none⟩) 1 1] (w.alloc (.cells #[.func (.func 43) #[.pointer (some ⟨sg, 0, none⟩)] #[]] 81)) fun e w' => e = .returned (.int .i64 0) ∧ Below w.heap.size w w' := by
  have hal := (Below.refl w.heap.size w).alloc (Nat.le_refl _) (.cells #[.func (.func 43) #[.pointer (some ⟨sg, 0, none⟩)] #[]] 81)
  refine (first_one (.pointer (some ⟨sg, 0, none⟩)) _ 0 0 w.heap.size _ (chk_blk w [.func (.func 43) #[.pointer (some ⟨sg, 0, none⟩)] #[]] _ rfl)
    (fun w => by kernel_rfl) (fun W hW => made_some _ W (h.keep (hal.trans (hW.mono hal.size))))).mono ?_
  rintro e w' ⟨rfl, hb⟩
  exact ⟨rfl, hal.trans (hb.mono hal.size)⟩

set_option maxRecDepth 100000 in
set_option maxHeartbeats 8000000 in
theorem All_any (w : World) (h : PS base w sg mb M I L B k S) :
    Calls Tryz.prog 16 #[.pointer (some ⟨sg, 0, none⟩)] w fun e w' => ∃ v, e = .returned v ∧ w'.ownsRow w.heap.size 49 6 v (lst S I).length (stcl (lst S I)) ∧ Below w.heap.size w w' := by
  have hmf : ∀ (fn : Fn) (first cap : Array Value) (w : World), (Instr.makeFunc fn first cap).run Tryz.prog w = .ok (.func fn first cap) w := fun _ _ _ _ => rfl
  have cA := W_hid (ask_one h.pm)
  have hlen := lst_len S I
  have hI := h.lim.1
  have hN := W_hid h.nums
  have hrise := W_hid (ks_rise S I)
  have hkl := W_hid (ks_len S I)
  have hgood := W_hid h.fn
  have hmem : Hid (∀ j (hj : j < (lst S I).length), 1 ≤ (lst S I)[j].1 ∧ (lst S I)[j].1 ≤ I ∧ S ((lst S I)[j].1 : Int) = some (lst S I)[j].2) := W_hid (fun j hj => mem_lst.1 (List.getElem_mem hj))
  have hkat : Hid (∀ j (hj : j < (ks S I).length) (hj2 : j < (lst S I).length), (ks S I)[j] = (lst S I)[j].1) := W_hid (fun j hj hj2 => by simp [ks])
  have H := W_hid h
  obtain ⟨Ls, hLs⟩ : ∃ Ls, lst S I = Ls := ⟨_, rfl⟩
  rw [hLs] at hlen hkl hmem hkat ⊢
  obtain ⟨Ks, hKs⟩ : ∃ Ks, ks S I = Ks := ⟨_, rfl⟩
  rw [hKs] at hN hrise hkl hkat
  obtain ⟨N, hNN⟩ : ∃ N, Ls.length = N := ⟨_, rfl⟩
  rw [hNN] at hlen hkl ⊢
  obtain ⟨X, hmk, hmo⟩ := Own.make_room (t := 42) Tryz.underlying42 info_stat N (N : Int) rfl (by omega) (by omega)
  replace hmo := W_hid hmo
  replace hNN := W_hid hNN
  clear h hLs hKs
  go_enter Tryz.func16, Tryz.ntmps16
  go_wp2_with fail
  refine cA.out.mono ?_
  rintro e w1 ⟨rfl, b1⟩
  have h1 := H.out.keep b1
  have c0 := h1.pm.box.cell (j := 0) rfl
  have hcnt : ∀ ty, (Builtin.len_ #[82] ty #[.map (some mb)]).run Tryz.prog w1 = .ok (.int .i64 (N : Int)) w1 := fun ty => by have := h1.pm.mp.count hN.out ty; rw [hkl.out] at this; exact this
  have hown0 := W_hid (hmo.out w1 w1.heap.size (Nat.le_refl _))
  have b2 := b1.alloc b1.size X
  obtain ⟨w2, hw2⟩ : ∃ w2, w1.alloc X = w2 := ⟨_, rfl⟩
  rw [hw2] at hown0 b2
  have hs2 : w2.heap.size = w1.heap.size + 1 := by rw [← hw2]; simp
  have h2 := H.out.keep b2
  have d0 := h2.pm.box.cell (j := 0) rfl
  have hbox := (Blk.new w2 82 [.map (some mb)] rfl).cell (j := 0) rfl
  have b3 := b2.alloc b2.size (.cells #[.map (some mb)] 82)
  have cK := W_hid (IS.Keys_any mb w2)
  have cS := W_hid (IS.Sorted_nums w2.heap.size mb M (w2.alloc (.cells #[.map (some mb)] 82)) (by simp) (by have := h2.pm.mp.lt; simp; omega) hbox (h2.pm.mp.alloc _) Ks hN.out hrise.out (by rw [hkl.out]; omega))
  have hs1 := b1.size
  have b1 := W_hid b1
  have b3 := W_hid b3
  replace hs2 := W_hid hs2
  clear cA hbox h1 h2 b2 hmo hN hrise
  go_wp2_with fail
  refine cK.out.mono ?_
  rintro e w3 ⟨rfl, rfl⟩
  go_wp2_with fail
  refine cS.out.mono ?_
  rintro e w4 ⟨v4, rfl, ⟨ao, cap, rfl, hcell⟩, b4⟩
  rw [hkl.out]
  have b5 := W_hid (b3.out.trans (b4.mono b3.out.size))
  have hown4 : Hid (w4.ownsRow w1.heap.size 49 6 (.slice (some ⟨w1.heap.size, 0, none⟩) 0 N) 0 []) := W_hid (Own.below (Own.below hown0.out ((Below.refl _ w2).alloc (Nat.le_refl _) _)) b4)
  have hcell : Hid (∀ i (hi : i < N), ∃ blk off, ao = some ⟨blk, off, none⟩ ∧ w1.heap.size < blk ∧ blk < w4.heap.size ∧ w4.cell? ⟨blk, off + i, none⟩ = some (.int .i64 ((Ls[i]'(by rw [hNN.out]; exact hi)).1 : Int))) := W_hid (fun i hi => by
    obtain ⟨blk, off, h1, h0, h2, h3⟩ := hcell i (by rw [hkl.out]; exact hi)
    rw [hkat.out i _ (by rw [hNN.out]; exact hi)] at h3
    exact ⟨blk, off, h1, by have := hs2.out; simp at h0; omega, h2, h3⟩)
  have hsw := hs1
  have hsz4 : w1.heap.size ≤ w4.heap.size := by have := b4.size; have := hs2.out; simp at *; omega
  clear hown0 b4 b3 cS cK hkat hkl d0 c0
  replace hw2 := W_hid hw2
  go_wp2_with fail
  go_loopw [24, 3] (fun i v wr => ∃ (j : Nat), j ≤ N ∧ i = .int .i64 (j : Int) ∧ Hid (wr.ownsRow w1.heap.size 49 6 v j (stcl (Ls.take j))) ∧ Hid (v.ownBlock = some w1.heap.size ∨ ∃ g, w4.heap.size ≤ g ∧ v.ownBlock = some g) ∧ Hid (Two w1.heap.size w1.heap.size w4 wr)) (fun i _ _ => N - (intOf i).toNat)
  case atStart => exact ⟨0, Nat.zero_le _, rfl, hown4, W_hid (.inl rfl), W_hid (Two.refl _ _ _)⟩
  case round =>
    obtain ⟨j, hj, rfl, hown, hob, hT⟩ := hrel
    have belr := W_hid (b5.out.trans (hT.out.below (B := w.heap.size) (by omega) hsw hsw))
    by_cases hlt : j < N
    · obtain ⟨blk, off, rfl, hb1, hb2, hc⟩ := hcell.out j hlt
      have hm := hmem.out j (by rw [hNN.out]; exact hlt)
      have htake := EM.take_snoc Ls j (by rw [hNN.out]; exact hlt)
      obtain ⟨⟨nj, dj⟩, hx⟩ : ∃ x, Ls[j]'(by rw [hNN.out]; exact hlt) = x := ⟨_, rfl⟩
      rw [hx] at hc hm htake
      simp only at hc hm
      have hc' : wr.cell? ⟨blk, off + j, none⟩ = some (.int .i64 (nj : Int)) := by
        rw [World.cell?_of_block (w := w4) (w' := wr) (a := ⟨blk, off + j, none⟩) (hT.out.block blk hb2 (by omega) (by omega))]
        exact hc
      have cT := stat_any (nj : Int) dj wr (H.out.keep belr.out).pm ⟨by omega, by omega⟩ hm.2.2 (hgood.out.good _ _ hm.2.2).ok
      simp only [stl] at cT
      replace cT := W_hid cT
      replace htake := W_hid htake
      have hsr := hT.out.size
      clear hx hc hm
      go_wp2_with fail
      refine cT.out.mono ?_
      rintro e w5 ⟨rfl, b6⟩
      have hsrc := stl_cells (w5.alloc (.cells #[.int .i64 (nj : Int), .int .i64 dj.kind, .int .i64 dj.links, .int .i64 dj.opens, .int .i64 dj.size, .int .i64 (EM.cnt dj.l : Int)] 49)) (nj : Int) dj w5.heap.size (Blk.new w5 49 (stl (nj : Int) dj) rfl)
      have b7 := b6.alloc b6.size (.cells #[.int .i64 (nj : Int), .int .i64 dj.kind, .int .i64 dj.links, .int .i64 dj.opens, .int .i64 dj.size, .int .i64 (EM.cnt dj.l : Int)] 49)
      have hown7 := W_hid (Own.below hown.out b7)
      have hT7 := W_hid (hT.out.trans (Two.of b7))
      have hs7 := b7.size
      have hsrc := W_hid hsrc
      clear b6 b7 cT hc'
      go_wp2_with (first
        | (at_builtin; refine Own.wpList_app rfl (.tmp 28) (.tmp 32) 42 rfl Tryz.underlying42 info_stat u3 (.slice (some ⟨w5.heap.size, 0, none⟩) 1 1) rfl rfl hown7.out (by omega) hsrc.out (stl_one _ _) (by unfold maxLen; omega) (by omega) ?_; intro v' w8 ho8 hg8 hb8))
      have hown8 : Hid (w8.ownsRow w1.heap.size 49 6 v' (j + 1) (stcl (Ls.take (j + 1)))) := W_hid (by rw [htake.out, stcl_app, stcl_one]; exact ho8)
      have hob8 : Hid (v'.ownBlock = some w1.heap.size ∨ ∃ g, w4.heap.size ≤ g ∧ v'.ownBlock = some g) := W_hid (by
        rcases hb8 with e | e
        · rw [e]; exact hob.out
        · exact .inr ⟨_, by omega, e⟩)
      have hT8 : Hid (Two w1.heap.size w1.heap.size w4 w8) := W_hid ⟨hg8.os.trans hT7.out.os, hg8.tape.trans hT7.out.tape, hg8.output.trans hT7.out.output, Nat.le_trans hT7.out.size hg8.size, fun k hk h1 h2 => by
        rw [hg8.block k (by omega) (fun e => by
          rcases hob.out with e2 | ⟨g, hg, e2⟩
          · rw [e2] at e; cases e; exact h1 rfl
          · rw [e2] at e; cases e; omega)]
        exact hT7.out.block k hk h1 h2⟩
      clear ho8 hg8 hb8 hown7 hT7 hsrc
      go_wp2_with fail
      go_roundw
      case rel => exact ⟨j + 1, by omega, by go_num, hown8, hob8, hT8⟩
      case measure => simp [intOf]; omega
    · obtain rfl : j = N := by omega
      have hfin := hown.out
      rw [List.take_of_length_le (Nat.le_of_eq hNN.out)] at hfin
      have hfin := W_hid (Own.low (base' := w.heap.size) hsw hfin)
      go_wp2_with fail
      go_ret
      exact ⟨_, rfl, hfin.out, belr.out⟩
end
end IN
end Go.Proofs.YtbloiilinofklaaGreat

/- Contracts of package inode's calls of a nil store. -/
namespace Go.Proofs.YtbloiilinofklaaGreat
open Go.ChangeShapes Go.WideShapes Go.ChangeAt Go.RowKit Go.Maps
set_option linter.unusedVariables false
set_option linter.unusedSimpArgs false
namespace IN

set_option maxRecDepth 100000 in
theorem nil_three (k2 k3 : Nat) (n : Int) (w : World) (e2 : ∀ w, (callFunc k2 #[.pointer none, .int .i64 n]).run Tryz.prog w = .ok (.enter k2 #[.pointer none, .int .i64 n]) w) (e3 : ∀ w, (callFunc k3 #[.pointer none, .int .i64 n]).run Tryz.prog w = .ok (.enter k3 #[.pointer none, .int .i64 n]) w) :
    Calls Tryz.prog 42 #[.int .i64 n, .slice (some ⟨w.heap.size, 0, none⟩) 3 3] (w.alloc (.cells #[.func (.func 43) #[.pointer none] #[], .func (.func k2) #[.pointer none] #[], .func (.func k3) #[.pointer none] #[]] 81)) fun e w' => e = .returned (.int .i64 1) ∧ Below w.heap.size w w' := by
  have hal := (Below.refl w.heap.size w).alloc (Nat.le_refl _) (.cells #[.func (.func 43) #[.pointer none] #[], .func (.func k2) #[.pointer none] #[], .func (.func k3) #[.pointer none] #[]] 81)
  refine (first_three (.pointer none) _ k2 k3 1 0 0 n w.heap.size _ (chk_blk w [.func (.func 43) #[.pointer none] #[], .func (.func k2) #[.pointer none] #[], .func (.func k3) #[.pointer none] #[]] _ rfl)
    (fun w => by kernel_rfl) e2 e3 (fun W hW => made_nil _ W) (fun W h _ => absurd h (by decide)) (fun W h _ _ => absurd h (by decide))).mono ?_
  rintro e w' ⟨rfl, hb⟩
  exact ⟨rfl, hal.trans (hb.mono hal.size)⟩
set_option maxRecDepth 100000 in
theorem nil_make (n : Int) (w : World) :
    Calls Tryz.prog 42 #[.int .i64 n, .slice (some ⟨w.heap.size, 0, none⟩) 3 3] (w.alloc (.cells #[.func (.func 43) #[.pointer none] #[], .func (.func 69) #[] #[], .func (.func 70) #[.pointer none] #[]] 81)) fun e w' => e = .returned (.int .i64 1) ∧ Below w.heap.size w w' := by
  have hal := (Below.refl w.heap.size w).alloc (Nat.le_refl _) (.cells #[.func (.func 43) #[.pointer none] #[], .func (.func 69) #[] #[], .func (.func 70) #[.pointer none] #[]] 81)
  refine (first_make (.pointer none) _ _ _ 1 0 0 n w.heap.size _ (chk_blk w [.func (.func 43) #[.pointer none] #[], .func (.func 69) #[] #[], .func (.func 70) #[.pointer none] #[]] _ rfl)
    (fun w => by kernel_rfl) (fun w => by kernel_rfl) (fun w => by kernel_rfl) (fun W hW => made_nil _ W) (fun W h _ => absurd h (by decide)) (fun W h _ _ => absurd h (by decide))).mono ?_
  rintro e w' ⟨rfl, hb⟩
  exact ⟨rfl, hal.trans (hb.mono hal.size)⟩
set_option maxRecDepth 100000 in
theorem nil_two (n : Int) (w : World) :
    Calls Tryz.prog 42 #[.int .i64 n, .slice (some ⟨w.heap.size, 0, none⟩) 2 2] (w.alloc (.cells #[.func (.func 43) #[.pointer none] #[], .func (.func 71) #[.pointer none] #[]] 81)) fun e w' => e = .returned (.int .i64 1) ∧ Below w.heap.size w w' := by
  have hal := (Below.refl w.heap.size w).alloc (Nat.le_refl _) (.cells #[.func (.func 43) #[.pointer none] #[], .func (.func 71) #[.pointer none] #[]] 81)
  refine (first_two (.pointer none) _ _ 1 0 n w.heap.size _ (chk_blk w [.func (.func 43) #[.pointer none] #[], .func (.func 71) #[.pointer none] #[]] _ rfl)
    (fun w => by kernel_rfl) (fun w => by kernel_rfl) (fun W hW => made_nil _ W) (fun W h _ => absurd h (by decide))).mono ?_
  rintro e w' ⟨rfl, hb⟩
  exact ⟨rfl, hal.trans (hb.mono hal.size)⟩
set_option maxRecDepth 100000 in
theorem nil_one (w : World) :
    Calls Tryz.prog 42 #[.int .i64 0, .slice (some ⟨w.heap.size, 0, none⟩) 1 1] (w.alloc (.cells #[.func (.func 43) #[.pointer none] #[]] 81)) fun e w' => e = .returned (.int .i64 1) ∧ Below w.heap.size w w' := by
  have hal := (Below.refl w.heap.size w).alloc (Nat.le_refl _) (.cells #[.func (.func 43) #[.pointer none] #[]] 81)
  refine (first_one (.pointer none) _ 1 0 w.heap.size _ (chk_blk w [.func (.func 43) #[.pointer none] #[]] _ rfl)
    (fun w => by kernel_rfl) (fun W hW => made_nil _ W)).mono ?_
  rintro e w' ⟨rfl, hb⟩
  exact ⟨rfl, hal.trans (hb.mono hal.size)⟩

set_option maxRecDepth 100000 in
set_option maxHeartbeats 2000000 in
theorem Link_nil (n : Int) (w : World) : Calls Tryz.prog 62 #[.pointer none, .int .i64 n] w fun e w' => e = .returned (.int .i64 1) ∧ Below w.heap.size w w' := by
  have hmf : ∀ (fn : Fn) (first cap : Array Value) (w : World), (Instr.makeFunc fn first cap).run Tryz.prog w = .ok (.func fn first cap) w := fun _ _ _ _ => rfl
  have cA := W_hid (nil_three 71 101 n w (fun w => by kernel_rfl) (fun w => by kernel_rfl))
  go_enter Tryz.func62, Tryz.ntmps62
  go_wp2_with fail
  refine cA.out.mono ?_
  rintro e w1 ⟨rfl, b1⟩
  go_wp2_with fail
  go_ret
  exact ⟨rfl, b1⟩

set_option maxRecDepth 100000 in
set_option maxHeartbeats 2000000 in
theorem Unlink_nil (n : Int) (w : World) : Calls Tryz.prog 94 #[.pointer none, .int .i64 n] w fun e w' => e = .returned (.int .i64 1) ∧ Below w.heap.size w w' := by
  have hmf : ∀ (fn : Fn) (first cap : Array Value) (w : World), (Instr.makeFunc fn first cap).run Tryz.prog w = .ok (.func fn first cap) w := fun _ _ _ _ => rfl
  have cA := W_hid (nil_three 71 110 n w (fun w => by kernel_rfl) (fun w => by kernel_rfl))
  go_enter Tryz.func94, Tryz.ntmps94
  go_wp2_with fail
  refine cA.out.mono ?_
  rintro e w1 ⟨rfl, b1⟩
  go_wp2_with fail
  go_ret
  exact ⟨rfl, b1⟩

set_option maxRecDepth 100000 in
set_option maxHeartbeats 2000000 in
theorem Make_nil (n : Int) (w : World) : Calls Tryz.prog 32 #[.pointer none, .int .i64 n] w fun e w' => e = .returned (.tuple #[.int .i64 0, .int .i64 1]) ∧ Below w.heap.size w w' := by
  have hmf : ∀ (fn : Fn) (first cap : Array Value) (w : World), (Instr.makeFunc fn first cap).run Tryz.prog w = .ok (.func fn first cap) w := fun _ _ _ _ => rfl
  have cA := W_hid (nil_make n w)
  go_enter Tryz.func32, Tryz.ntmps32
  go_wp2_with fail
  refine cA.out.mono ?_
  rintro e w1 ⟨rfl, b1⟩
  go_wp2_with fail
  go_ret2
  exact ⟨rfl, b1⟩

set_option maxRecDepth 100000 in
set_option maxHeartbeats 2000000 in
theorem All_nil  (w : World) : Calls Tryz.prog 16 #[.pointer none] w fun e w' => e = .returned (.slice none 0 0) ∧ Below w.heap.size w w' := by
  have hmf : ∀ (fn : Fn) (first cap : Array Value) (w : World), (Instr.makeFunc fn first cap).run Tryz.prog w = .ok (.func fn first cap) w := fun _ _ _ _ => rfl
  have cA := W_hid (nil_one w)
  go_enter Tryz.func16, Tryz.ntmps16
  go_wp2_with fail
  refine cA.out.mono ?_
  rintro e w1 ⟨rfl, b1⟩
  go_wp2_with fail
  go_ret
  exact ⟨rfl, b1⟩

set_option maxRecDepth 100000 in
set_option maxHeartbeats 2000000 in
theorem Stat_nil (n : Int) (w : World) : Calls Tryz.prog 33 #[.pointer none, .int .i64 n] w fun e w' => e = .returned (.tuple #[.agg zl.toArray, .int .i64 1]) ∧ Below w.heap.size w w' := by
  have hmf : ∀ (fn : Fn) (first cap : Array Value) (w : World), (Instr.makeFunc fn first cap).run Tryz.prog w = .ok (.func fn first cap) w := fun _ _ _ _ => rfl
  obtain ⟨W0, hW0⟩ : ∃ W0, w.alloc (.cells #[.int .i64 0, .int .i64 0, .int .i64 0, .int .i64 0, .int .i64 0, .int .i64 0] 49) = W0 := ⟨_, rfl⟩
  have hb0 : Below w.heap.size w W0 := by rw [← hW0]; exact (Below.refl _ _).alloc (Nat.le_refl _) _
  have hr0 : Blk W0 w.heap.size 49 zl := by rw [← hW0]; exact Blk.new w _ zl rfl
  have hs0 : w.heap.size ≤ W0.heap.size := hb0.size
  have cA := W_hid (nil_two n W0)
  replace hb0 := W_hid hb0
  replace hr0 := W_hid hr0
  go_enter Tryz.func33, Tryz.ntmps33
  go_wp2_with fail
  refine cA.out.mono ?_
  rintro e w1 ⟨rfl, b1⟩
  have hr1 := hr0.out.keep b1
  have f1 := hr1.fz
  have r0 := hr1.cell (j := 0) rfl
  have r1 := hr1.cell (j := 1) rfl
  have r2 := hr1.cell (j := 2) rfl
  have r3 := hr1.cell (j := 3) rfl
  have r4 := hr1.cell (j := 4) rfl
  have r5 := hr1.cell (j := 5) rfl
  have hfin := W_hid (six_blk hr1 0 0 0 0 0 0)
  have hbl := W_hid (six_below (hb0.out.trans (b1.mono hs0)) (Nat.le_refl _) 0 0 0 0 0 0)
  clear hr1 b1
  go_wp2_with fail
  exact bodyPost_ret (res_two rfl _ _ rfl hfin.out) rfl ⟨rfl, hbl.out⟩
end IN
end Go.Proofs.YtbloiilinofklaaGreat

/- Contracts of package names' New. -/
namespace Go.Proofs.YtbloiilinofklaaGreat
open Go.ChangeShapes Go.WideShapes Go.ChangeAt Go.RowKit Go.Maps
set_option linter.unusedVariables false
set_option linter.unusedSimpArgs false
namespace NT
open IN (Keeps)

set_option maxRecDepth 100000 in
set_option maxHeartbeats 2000000 in
theorem New_nil (w : World) : Calls Tryz.prog 29 #[.pointer none] w fun e w' => e = .returned (.tuple #[.pointer none, .int .i64 1]) ∧ Below w.heap.size w w' := by
  have cA := fun w => W_hid (IN.All_nil w)
  have cM := fun w => W_hid (IN.Make_nil 2 w)
  go_enter Tryz.func29, Tryz.ntmps29
  go_wp2_with fail
  refine (cA _).out.mono ?_
  rintro e w1 ⟨rfl, b1⟩
  have B1 := W_hid b1
  clear b1
  go_wp2_with fail
  refine (cM _).out.mono ?_
  rintro e w2 ⟨rfl, b2⟩
  have B2 := W_hid (B1.out.trans (b2.mono B1.out.size))
  clear b2
  go_wp2_with fail
  go_ret2
  exact ⟨rfl, B2.out⟩

section
variable {base sg mb I L B k : Nat} {M : Int → Option Nat} {S : Int → Option IN.Nd}
set_option maxRecDepth 100000 in
set_option maxHeartbeats 2000000 in
theorem New_full (w : World) (h : IN.PS base w sg mb M I L B k S) (hl : 0 < (IN.lst S I).length) : Calls Tryz.prog 29 #[.pointer (some ⟨sg, 0, none⟩)] w fun e w' => e = .returned (.tuple #[.pointer none, .int .i64 2]) ∧ Below w.heap.size w w' := by
  have cA := W_hid (IN.All_any w h)
  have hlen := IN.lst_len S I
  have hI := h.lim.1
  generalize (IN.lst S I).length = N at cA hl hlen
  generalize IN.stcl (IN.lst S I) = xs at cA
  clear h
  go_enter Tryz.func29, Tryz.ntmps29
  go_wp2_with fail
  refine cA.out.mono ?_
  rintro e w1 ⟨v, rfl, hown, b1⟩
  obtain ⟨ao, cap, rfl⟩ := Own.form hown
  have B1 := W_hid b1
  have hpos : decide ((0 : Int) < (N : Int)) = true := decide_eq_true (by omega)
  have hp2 : decide ((N : Int) > 0) = true := decide_eq_true (by omega)
  clear b1 hown cA
  go_wp2_with fail
  go_ret2
  exact ⟨rfl, B1.out⟩

/-- The directories of a new tree. -/
def D0 : Ds := fun n => if n = 1 then some ⟨1, []⟩ else none
/-- The memory of a new tree, from the root's own. -/
def nw (w3 : World) (sg g : Nat) : World := (((w3.alloc (.cells #[.int .i64 1, .pointer (some ⟨g, 0, none⟩)] 104)).setCell ⟨g, 0, none⟩ (.int .i64 1)).setCell ⟨g, 1, none⟩ (.pointer (some ⟨g, 0, none⟩))).alloc (.cells #[.pointer (some ⟨sg, 0, none⟩), .int .i64 1, .pointer (some ⟨g, 0, none⟩)] 118)
theorem new_tree {w2 w3 : World} {g m : Nat} {S : Int → Option IN.Nd} (hp : ∃ M', IN.PS base w2 sg mb M' I L B k S) (hlow : base ≤ w2.heap.size) (hg : w2.heap.size ≤ g) (hm : w2.heap.size ≤ m) (hgm : g ≠ m) (hb : Blk w3 g 126 [.int .i64 0, .pointer none, .map (some m)]) (hM : NS.MB w3 m (fun _ => none)) (b3 : Below w2.heap.size w2 w3) :
    (∃ M', IN.PS base (nw w3 sg g) sg mb M' I L B k S) ∧ TM base (nw w3 sg g) (w3.heap.size + 1) sg mb (fun n => if n = 1 then some (g, m) else none) D0 ∧ Below w2.heap.size w2 (nw w3 sg g) := by
  obtain ⟨M', hp⟩ := hp
  have hsz : w2.heap.size ≤ w3.heap.size := b3.size
  have hmb := hp.pm.mp.lt
  have bA : Below w2.heap.size w2 (w3.alloc (.cells #[.int .i64 1, .pointer (some ⟨g, 0, none⟩)] 104)) := b3.alloc hsz _
  have bB := (bA.setCell (p := ⟨g, 0, none⟩) hg (.int .i64 1)).setCell (p := ⟨g, 1, none⟩) hg (.pointer (some ⟨g, 0, none⟩))
  have bC : Below w2.heap.size w2 (nw w3 sg g) := bB.alloc (by simp; omega) _
  have hb4 : Blk (nw w3 sg g) g 126 [.int .i64 1, .pointer (some ⟨g, 0, none⟩), .map (some m)] := (((hb.alloc _).set 0 (.int .i64 1)).set 1 (.pointer (some ⟨g, 0, none⟩))).alloc _
  have hM4 : NS.MB (nw w3 sg g) m (fun _ => none) := (((hM.alloc _).far (p := ⟨g, 0, none⟩) hgm.symm (.int .i64 1)).far (p := ⟨g, 1, none⟩) hgm.symm (.pointer (some ⟨g, 0, none⟩))).alloc _
  have hbox : Blk (nw w3 sg g) (w3.heap.size + 1) 118 [.pointer (some ⟨sg, 0, none⟩), .int .i64 1, .pointer (some ⟨g, 0, none⟩)] := Blk.new _ _ _ (by simp)
  have hpA : pa (fun n => if n = 1 then some (g, m) else none) 1 = some g := by simp [pa]
  refine ⟨⟨M', hp.keep bC⟩, ⟨?_, fun n => ?_, ?_, fun n g' m' d' hA' hD' => ?_, fun n n' g1 m1 g2 m2 h1 h2 e => ?_, by omega, fun n g1 m1 h1 => ?_⟩, bC⟩
  · rw [hpA]; exact hbox
  · unfold D0; split <;> simp
  · simp [D0]
  · unfold D0 at hD'
    by_cases e : n = 1
    · rw [if_pos e] at hA' hD'
      cases hA'
      cases hD'
      refine ⟨?_, hM4.congr fun f => by simp [nm, look]⟩
      unfold dcl
      rw [hpA]
      exact hb4
    · rw [if_neg e] at hA'
      cases hA'
  · by_cases e1 : n = 1
    · by_cases e2 : n' = 1
      · exact absurd (e1.trans e2.symm) e
      · rw [if_neg e2] at h2; cases h2
    · rw [if_neg e1] at h1; cases h1
  · by_cases e1 : n = 1
    · rw [if_pos e1] at h1
      cases h1
      exact ⟨by omega, by omega, by omega⟩
    · rw [if_neg e1] at h1; cases h1
set_option maxRecDepth 100000 in
set_option maxHeartbeats 4000000 in
theorem New_yes (w : World) (h : IN.PS base w sg mb M I L B k (fun _ => none)) (hI : 1 ≤ I) (hL : 1 ≤ L) : Calls Tryz.prog 29 #[.pointer (some ⟨sg, 0, none⟩)] w fun e w' => ∃ tg A, e = .returned (.tuple #[.pointer (some ⟨tg, 0, none⟩), .int .i64 0]) ∧ (∃ M', IN.PS base w' sg mb M' I L B k (IN.upd (fun _ => none) 1 (some (IN.newNd 2)))) ∧ TM base w' tg sg mb A D0 ∧ Keeps base (IN.PT mb) w w' := by
  have hnil : IN.lst (fun _ => none) I = [] := by unfold IN.lst; simp [IN.ent]
  have cA := IN.All_any w h
  rw [hnil] at cA
  replace cA := W_hid cA
  have cM := W_hid (fun (w' : World) (hb : Below w.heap.size w w') => IN.Make_yes 2 1 w' (h.keep hb) (by unfold IN.mkR; simp [hnil]; omega) ⟨Nat.le_refl _, rfl, fun m h1 h2 => by omega⟩ hI hL)
  have cW := fun w => W_hid (newNode_dir 1 0 none w)
  have hlow := W_hid h.low
  clear h
  go_enter Tryz.func29, Tryz.ntmps29
  go_wp2_with fail
  refine cA.out.mono ?_
  rintro e w1 ⟨v, rfl, hown, b1⟩
  obtain ⟨ao, cap, rfl⟩ := Own.form hown
  have B1 := W_hid b1
  have cM1 := W_hid (cM.out _ b1)
  simp only [List.length_nil] at hown ⊢
  clear b1 hown cA cM
  go_wp2_with fail
  refine cM1.out.mono ?_
  rintro e w2 ⟨rfl, hPS, hK⟩
  have hK2 := W_hid ((Keeps.new (T := IN.PT mb) B1.out hlow.out).trans hK)
  have hPS := W_hid hPS
  clear hK cM1
  go_wp2_with fail
  refine (cW _).out.mono ?_
  rintro e w3 ⟨g, m, rfl, hg, hm, hgm, hb, hM, b3⟩
  have hb2 := hb.alloc (.cells #[.int .i64 1, .pointer (some ⟨g, 0, none⟩)] 104)
  have c0 := hb2.cell (j := 0) rfl
  have c1 := hb2.cell (j := 1) rfl
  have f0 := hb2.fz
  have hn3 : Blk (((w3.alloc (.cells #[.int .i64 1, .pointer (some ⟨g, 0, none⟩)] 104)).setCell ⟨g, 0, none⟩ (.int .i64 1)).setCell ⟨g, 1, none⟩ (.pointer (some ⟨g, 0, none⟩))) w3.heap.size 104 [.int .i64 1, .pointer (some ⟨g, 0, none⟩)] :=
    (((Blk.new w3 _ _ rfl).far (p := ⟨g, 0, none⟩) (Nat.ne_of_gt hb.lt) _).far (p := ⟨g, 1, none⟩) (Nat.ne_of_gt hb.lt) _)
  have e0 := hn3.cell (j := 0) rfl
  have e1 := hn3.cell (j := 1) rfl
  have hfin := W_hid (new_tree hPS.out (Nat.le_trans hlow.out hK2.out.size) hg hm hgm hb hM b3)
  clear hb hb2 hM b3 hn3
  go_wp2_with fail
  go_ret2
  exact ⟨_, _, rfl, hfin.out.1, hfin.out.2.1, hK2.out.trans (Keeps.new hfin.out.2.2 (Nat.le_trans hlow.out hK2.out.size))⟩
end
end NT
end Go.Proofs.YtbloiilinofklaaGreat

/- Package names' calls of no tree. -/
namespace Go.Proofs.YtbloiilinofklaaGreat
open Go.ChangeShapes Go.WideShapes Go.ChangeAt Go.RowKit Go.Maps
set_option linter.unusedVariables false
set_option linter.unusedSimpArgs false
namespace NT

set_option maxRecDepth 100000 in
set_option maxHeartbeats 2000000 in
theorem List_nil (s : ByteArray) (w : World) : Calls Tryz.prog 23 #[.pointer none, .string s] w fun e w' => e = .returned (.tuple #[.slice none 0 0, .int .i64 1]) ∧ w' = w := by
  have cN := fun w => W_hid (none_nil w)
  go_enter Tryz.func23, Tryz.ntmps23
  go_wp2_with fail
  refine (cN _).out.mono ?_
  rintro e w1 ⟨rfl, rfl⟩
  go_wp2_with fail
  go_ret2
  exact ⟨rfl, rfl⟩
set_option maxRecDepth 100000 in
set_option maxHeartbeats 2000000 in
theorem Link_nil (s t : ByteArray) (w : World) : Calls Tryz.prog 25 #[.pointer none, .string s, .string t] w fun e w' => e = .returned (.int .i64 1) ∧ w' = w := by
  have cN := fun w => W_hid (none_nil w)
  go_enter Tryz.func25, Tryz.ntmps25
  go_wp2_with fail
  refine (cN _).out.mono ?_
  rintro e w1 ⟨rfl, rfl⟩
  go_wp2_with fail
  go_ret
  exact ⟨rfl, rfl⟩
set_option maxRecDepth 100000 in
set_option maxHeartbeats 2000000 in
theorem Rename_nil (s t : ByteArray) (w : World) : Calls Tryz.prog 22 #[.pointer none, .string s, .string t] w fun e w' => e = .returned (.int .i64 1) ∧ w' = w := by
  have cN := fun w => W_hid (none_nil w)
  go_enter Tryz.func22, Tryz.ntmps22
  go_wp2_with fail
  refine (cN _).out.mono ?_
  rintro e w1 ⟨rfl, rfl⟩
  go_wp2_with fail
  go_ret
  exact ⟨rfl, rfl⟩
set_option maxRecDepth 100000 in
set_option maxHeartbeats 2000000 in
theorem cut_nil (s : ByteArray) (r : Int) (k : Fn) (fi lb : Array Value) (w : World) : Calls Tryz.prog 63 #[.pointer none, .string s, .int .i64 r, .func k fi lb] w fun e w' => e = .returned (.int .i64 1) ∧ w' = w := by
  have cN := fun w => W_hid (none_nil w)
  go_enter Tryz.func63, Tryz.ntmps63
  go_wp2_with fail
  refine (cN _).out.mono ?_
  rintro e w1 ⟨rfl, rfl⟩
  go_wp2_with fail
  go_ret
  exact ⟨rfl, rfl⟩
set_option maxRecDepth 100000 in
set_option maxHeartbeats 2000000 in
theorem Unlink_nil (s : ByteArray) (w : World) : Calls Tryz.prog 26 #[.pointer none, .string s] w fun e w' => e = .returned (.int .i64 1) ∧ w' = w := by
  have cC := fun r k fi lb w => W_hid (cut_nil s r k fi lb w)
  go_enter Tryz.func26, Tryz.ntmps26
  go_wp2_with fail
  refine (cC _ _ _ _ _).out.mono ?_
  rintro e w1 ⟨rfl, rfl⟩
  go_wp2_with fail
  go_ret
  exact ⟨rfl, rfl⟩
set_option maxRecDepth 100000 in
set_option maxHeartbeats 2000000 in
theorem Rmdir_nil (s : ByteArray) (w : World) : Calls Tryz.prog 27 #[.pointer none, .string s] w fun e w' => e = .returned (.int .i64 1) ∧ w' = w := by
  have cC := fun r k fi lb w => W_hid (cut_nil s r k fi lb w)
  go_enter Tryz.func27, Tryz.ntmps27
  go_wp2_with fail
  refine (cC _ _ _ _ _).out.mono ?_
  rintro e w1 ⟨rfl, rfl⟩
  go_wp2_with fail
  go_ret
  exact ⟨rfl, rfl⟩
end NT
end Go.Proofs.YtbloiilinofklaaGreat

namespace Go.Proofs.YtbloiilinofklaaGreat
open Go.ChangeShapes Go.WideShapes Go.ChangeAt Go.RowKit
open Go.ChangeMaps (open_string shut_string)
set_option linter.unusedVariables false
set_option linter.unusedSimpArgs false

namespace NT
open IN (Keeps cap7)
theorem res_caps {fn : Func} {r : Tmp} (hres : fn.results = #[.cell r 25]) (tmps : Array Value) (w : World) {g : Nat} {a b c d e f h : Int} (hr : tmps.getD r undef = .pointer (some ⟨g, 0, none⟩)) (hB : Blk w g 25 [.int .i64 a, .int .i64 b, .int .i64 c, .int .i64 d, .int .i64 e, .int .i64 f, .int .i64 h]) :
    (results fn tmps).run Tryz.prog w = .ok (cap7 a b c d e f h) w := by
  have h0 := hB.cell (j := 0) rfl
  have h1 := hB.cell (j := 1) rfl
  have h2 := hB.cell (j := 2) rfl
  have h3 := hB.cell (j := 3) rfl
  have h4 := hB.cell (j := 4) rfl
  have h5 := hB.cell (j := 5) rfl
  have h6 := hB.cell (j := 6) rfl
  rw [Array.getD_eq_getD_getElem?] at hr
  simp [results, hres, go_sem, hr, h0, h1, h2, h3, h4, h5, h6, cap7]
set_option maxRecDepth 100000 in
set_option maxHeartbeats 2000000 in
theorem caps_any (w : World) : Calls Tryz.prog 31 #[] w fun e w' => e = .returned (cap7 12 1000 3 0 0 0 0) ∧ Below w.heap.size w w' := by
  go_enter Tryz.func31, Tryz.ntmps31
  go_wp2_with fail
  exact bodyPost_ret (res_caps Tryz.results31 _ _ rfl (Blk.new w _ [.int .i64 12, .int .i64 1000, .int .i64 3, .int .i64 0, .int .i64 0, .int .i64 0, .int .i64 0] rfl)) rfl ⟨rfl, (Below.refl _ w).alloc (Nat.le_refl _) _⟩

/-- The inodes of a new tree. -/
def S0 : Int → Option IN.Nd := IN.upd (fun _ => none) 1 (some (IN.newNd 2))
set_option maxRecDepth 100000 in
set_option maxHeartbeats 4000000 in
theorem opened12 (a b c : Int) (w : World) (hr : IN.Right a b c) : Calls Tryz.prog 11 #[cap7 a b c 0 0 0 0] w fun e w' => ∃ base sg mb tg A, e = .returned (.tuple #[.pointer (some ⟨sg, 0, none⟩), .pointer (some ⟨tg, 0, none⟩), .bool true]) ∧ w.heap.size ≤ base ∧ (∃ M', IN.PS base w' sg mb M' a.toNat c.toNat b.toNat 0 S0) ∧ TM base w' tg sg mb A D0 ∧ Below w.heap.size w w' := by
  have b0 : Below w.heap.size w (w.alloc (.cells #[.int .i64 a, .int .i64 b, .int .i64 c, .int .i64 0, .int .i64 0, .int .i64 0, .int .i64 0] 25)) := (Below.refl _ w).alloc (Nat.le_refl _) _
  have cN := W_hid (IN.New_yes a b c 0 0 0 0 (w.alloc (.cells #[.int .i64 a, .int .i64 b, .int .i64 c, .int .i64 0, .int .i64 0, .int .i64 0, .int .i64 0] 25)) hr)
  have hr2 := W_hid hr
  unfold cap7 at cN ⊢
  clear hr
  go_enter Tryz.func11, Tryz.ntmps11
  go_wp2_with fail
  refine cN.out.mono ?_
  rintro e w1 ⟨sg, mb, M, rfl, hP, b1⟩
  have cT := W_hid (New_yes w1 hP (by have := hr2.out; unfold IN.Right at this; omega) (by have := hr2.out; unfold IN.Right at this; omega))
  have B1 := W_hid (b0.trans (b1.mono b0.size))
  have hlow := W_hid (show w.heap.size ≤ (w.alloc (.cells #[.int .i64 a, .int .i64 b, .int .i64 c, .int .i64 0, .int .i64 0, .int .i64 0, .int .i64 0] 25)).heap.size from b0.size)
  clear hP b1 b0 cN
  go_wp2_with fail
  refine cT.out.mono ?_
  rintro e w2 ⟨tg, A, rfl, hPS, hT, hK⟩
  have hfin := W_hid (And.intro hPS (And.intro hT (B1.out.trans ((hK.below (Nat.le_refl _)).mono hlow.out))))
  clear hPS hT hK cT
  go_wp2_with fail
  go_ret3
  exact ⟨_, sg, mb, tg, A, rfl, hlow.out, hfin.out⟩

/-- A store's number that is free, and what fits in. -/
theorem mkR_zero {I : Nat} {S : Int → Option IN.Nd} {kd : Int} (hk : kd = 1 ∨ kd = 2) (hl : (IN.lst S I).length < I) : IN.mkR I S kd = 0 := by
  unfold IN.mkR
  rw [if_pos hk, if_pos hl]
theorem low_one {S : Int → Option IN.Nd} (n : Nat) (h1 : 1 ≤ n) (h2 : S (n : Int) = none) (h3 : ∀ m : Nat, 1 ≤ m → m < n → S (m : Int) ≠ none) : IN.Low S n := ⟨h1, h2, h3⟩
theorem below_of {B base : Nat} {T : Nat → Obj → Prop} {w w' w2 : World} (h : Below B w w') (hK : Keeps base T w' w2) (hB : B ≤ base) : Below B w w2 := h.trans (hK.below hB)

def s1 : ByteArray := ⟨#[100]⟩
def s2 : ByteArray := ⟨#[47, 100, 47, 102]⟩
def s3 : ByteArray := ⟨#[100, 47, 46, 46, 47, 100, 47, 46, 47, 102]⟩
def Da : Ds := mkD D0 1 ⟨#[100]⟩ 2 2
def Sa : Int → Option IN.Nd := IN.upd S0 2 (some (IN.newNd 2))
def Db : Ds := mkD Da 2 ⟨#[102]⟩ 3 1
def Sb : Int → Option IN.Nd := IN.upd Sa 3 (some (IN.newNd 1))
theorem p1 : PM.perr s1 = 0 := by decide
theorem p2 : PM.perr s2 = 0 := by decide
theorem p3 : PM.perr s3 = 0 := by decide
theorem q1 : PM.pN s1 = [⟨#[100]⟩] := by decide
theorem q2 : PM.pN s2 = [⟨#[100]⟩, ⟨#[102]⟩] := by decide
theorem q3 : PM.pN s3 = [⟨#[100]⟩, ⟨#[46, 46]⟩, ⟨#[100]⟩, ⟨#[46]⟩, ⟨#[102]⟩] := by decide
theorem v1 : vacant D0 2 s1 = .ok 1 := by unfold vacant; rw [q1]; rfl
theorem v2 : vacant Da 1 s2 = .ok 2 := by unfold vacant; rw [q2]; rfl
theorem f3 : findR Db s3 = .ok 3 := by unfold findR; rw [if_pos p3, q3]; rfl

theorem mk_last (D : Ds) (p : Int) (s k : ByteArray) (n kd : Int) (h : last (PM.pN s) = k) : mkD D p (last (PM.pN s)) n kd = mkD D p k n kd := by rw [h]

set_option maxRecDepth 100000 in
set_option maxHeartbeats 8000000 in
theorem shown12 (w : World) : Calls Tryz.prog 9 #[] w fun e w' => e = .returned (.bool true) ∧ Below w.heap.size w w' := by
  have cC := W_hid (caps_any w)
  have cO := fun w => W_hid (opened12 12 1000 3 w (by unfold IN.Right; omega))
  go_enter Tryz.func9, Tryz.ntmps9
  go_wp2_with fail
  refine cC.out.mono ?_
  rintro e w1 ⟨rfl, b1⟩
  have B1 := W_hid b1
  clear b1 cC
  go_wp2_with fail
  refine (cO _).out.mono ?_
  rintro e w2 ⟨base, sg, mb, tg, A, rfl, hbase, ⟨M, hP⟩, hT, b2⟩
  have B2 := W_hid (B1.out.trans (b2.mono B1.out.size))
  have hbw : w.heap.size ≤ base := Nat.le_trans B1.out.size hbase
  have cM := Make_dir 12 3 1000 0 M S0 s1 (by decide) w2 hT hP p1 1 v1 ⟨1, []⟩ rfl (by decide) 2 (mkR_zero (.inr rfl) (by decide)) (low_one 2 (by decide) rfl fun m h1 h2 => by
    obtain rfl : m = 1 := by omega
    simp [S0, IN.upd]) (by decide) (by decide) rfl (fun m d hd => by
    unfold D0 at hd
    split at hd
    · cases hd
      exact ⟨by decide, fun k => by simp [look]⟩
    · cases hd)
  rw [mk_last D0 1 s1 ⟨#[100]⟩ _ _ (by rw [q1]; rfl)] at cM
  replace cM := W_hid cM
  have e1 : s1 = ⟨#[100]⟩ := rfl
  rw [e1] at cM
  clear b2 hP hT B1 cO hbase
  go_wp2_with fail
  refine cM.out.mono ?_
  rintro e w3 ⟨rfl, ⟨M3, hP3⟩, ⟨A3, hT3⟩, hK3⟩
  have B3 := W_hid (below_of B2.out hK3 hbw)
  have cM2 := Make_file 12 3 1000 0 M3 Sa s2 (by decide) w3 hT3 hP3 p2 2 v2 ⟨1, []⟩ rfl (by decide) 3 (mkR_zero (.inl rfl) (by decide)) (low_one 3 (by decide) rfl fun m h1 h2 => by
    rcases (show m = 1 ∨ m = 2 by omega) with rfl | rfl <;> simp [Sa, S0, IN.upd]) (by decide) (by decide) rfl
  rw [mk_last _ 2 s2 ⟨#[102]⟩ _ _ (by rw [q2]; rfl)] at cM2
  replace cM2 := W_hid cM2
  have e2 : s2 = ⟨#[47, 100, 47, 102]⟩ := rfl
  rw [e2] at cM2
  clear hP3 hT3 hK3 B2 cM
  go_wp2_with fail
  refine cM2.out.mono ?_
  rintro e w4 ⟨rfl, ⟨M4, hP4⟩, hT4, hK4⟩
  have B4 := W_hid (below_of B3.out hK4 hbw)
  have cF := Find_any s3 (by decide) w4 hT4
  have e4 : findR (mkD (mkD D0 1 ⟨#[100]⟩ ((2 : Nat) : Int) 2) 2 ⟨#[102]⟩ ((3 : Nat) : Int) 1) s3 = .ok 3 := f3
  rw [e4] at cF
  simp only [nu, er] at cF
  have e3 : s3 = ⟨#[100, 47, 46, 46, 47, 100, 47, 46, 47, 102]⟩ := rfl
  rw [e3] at cF
  replace cF := W_hid cF
  clear hP4 hT4 hK4 B3 cM2
  go_wp2_with fail
  refine cF.out.mono ?_
  rintro e w5 ⟨rfl, b5⟩
  have B5 := W_hid (B4.out.trans (b5.mono B4.out.size))
  clear b5 cF B4
  go_wp2_with fail
  go_ret
  exact ⟨rfl, B5.out⟩
end NT

set_option maxRecDepth 100000 in
set_option maxHeartbeats 8000000 in
theorem NamesNone_walk (a0 a1 : ByteArray) (a2 : Int) (w : World) (w0 : a0.size ≤ maxLen) (w1 : a1.size ≤ maxLen) (w2 : (Lit.int .i64 a2).wf = true) :
    Calls Tryz.prog 7 #[.string a0, .string a1, .int .i64 a2] w fun e w' => e = .returned (.bool true) ∧ Below w.heap.size w w' := by
  have cS := W_hid (NT.shown12 w)
  go_enter Tryz.func7, Tryz.ntmps7
  go_wp2_with fail
  refine cS.out.mono ?_
  rintro e x1 ⟨rfl, b1⟩
  have B1 := W_hid b1
  clear b1 cS
  go_wp2_with fail
  refine (NT.New_nil x1).mono ?_
  rintro e x2 ⟨rfl, b2⟩
  have B2 := W_hid (B1.out.trans (b2.mono B1.out.size))
  clear b2 B1
  go_wp2_with fail
  refine (NT.caps_any x2).mono ?_
  rintro e x3 ⟨rfl, b3⟩
  have B3 := W_hid (B2.out.trans (b3.mono B2.out.size))
  have cN := W_hid (IN.New_yes 12 1000 3 0 0 0 0 x3 (by unfold IN.Right; omega))
  clear b3 B2
  go_wp2_with fail
  refine cN.out.mono ?_
  rintro e x4 ⟨sg, mb, M, rfl, hP, b4⟩
  have B4 := W_hid (B3.out.trans (b4.mono B3.out.size))
  have hbw : w.heap.size ≤ x3.heap.size := B3.out.size
  have cM := W_hid (IN.Make_yes 1 1 x4 hP (NT.mkR_zero (.inl rfl) (by decide)) (NT.low_one 1 (by decide) rfl fun m h1 h2 => by omega) (by decide) (by decide))
  clear b4 hP cN B3
  go_wp2_with fail
  refine cM.out.mono ?_
  rintro e x5 ⟨rfl, ⟨M5, hP5⟩, hK5⟩
  have B5 := W_hid (NT.below_of B4.out hK5 hbw)
  have cF := W_hid (NT.New_full x5 hP5 (by decide))
  clear hP5 hK5 cM B4
  go_wp2_with fail
  refine cF.out.mono ?_
  rintro e x6 ⟨rfl, b6⟩
  have B6 := W_hid (B5.out.trans (b6.mono B5.out.size))
  clear b6 cF B5
  go_wp2_with fail
  refine (NT.Find_nil a0 x6).mono ?_
  rintro e x7 ⟨rfl, rfl⟩
  go_wp2_with fail
  refine (NT.Make_nil a0 a2 _).mono ?_
  rintro e x8 ⟨rfl, rfl⟩
  go_wp2_with fail
  refine (NT.List_nil a0 _).mono ?_
  rintro e x9 ⟨rfl, rfl⟩
  go_wp2_with fail
  refine (NT.Link_nil a0 a1 _).mono ?_
  rintro e x10 ⟨rfl, rfl⟩
  go_wp2_with fail
  refine (NT.Unlink_nil a0 _).mono ?_
  rintro e x11 ⟨rfl, rfl⟩
  go_wp2_with fail
  refine (NT.Rmdir_nil a0 _).mono ?_
  rintro e x12 ⟨rfl, rfl⟩
  go_wp2_with fail
  refine (NT.Rename_nil a0 a1 _).mono ?_
  rintro e x13 ⟨rfl, rfl⟩
  go_wp2_with fail
  go_ret
  exact ⟨rfl, B6.out⟩

set_option maxRecDepth 100000 in
theorem NamesNone_lifted (os : Os) (started : os.Started) (H : Type) (enc : TypeId × Value → H) :
    ReturnsInHanded {} Tryz.checked os 7 .any (Rows.namesNoneSpec.pre6 enc Tryz.prog Tryz.f7 Rows.namesNoneRow.domain false) (Rows.namesNoneSpec.post enc Tryz.prog Tryz.f7 false true false false) := by
  refine returnsInHanded_of_change (C := Tryz.checked) (by kernel_rfl) started (by kernel_rfl) Tryz.func7
    (ChangeSpec.witness6 (enc := enc) (C := Tryz.checked) false ⟨#[], #[.string ByteArray.empty, .string ByteArray.empty, .int .i64 0], []⟩ 8 (by kernel_rfl) (by kernel_rfl) (by kernel_rfl) (by kernel_rfl)) ?_
  intro W base args ds gs before hval0 hW hcnd _
  have hval : ∀ (j : Nat) t v, Tryz.f7.params[j]? = some t → args[j]? = some v → Value.okWide Tryz.prog W .any base t v := hval0
  have hW' := hW
  obtain ⟨p, q, hA0, hV, rfl, hfz, hnd⟩ := hW
  have hA : DataW.TrodAll enc Tryz.prog W 0 (fun _ => true) true Tryz.f7.params.toList args.toList ds p := hA0
  rw [Tryz.params7] at hA hval
  obtain ⟨v0, vs0, d0, ds0, p0, q0, hargs, rfl, rfl, h0, r0⟩ := trodAll_cons hA
  obtain ⟨v1, vs1, d1, ds1, p1, q1, rfl, rfl, rfl, h1, r1⟩ := trodAll_cons r0
  obtain ⟨v2, vs2, d2, ds2, p2, q2, rfl, rfl, rfl, h2, r2⟩ := trodAll_cons r1
  obtain ⟨rfl, rfl, rfl⟩ := trodAll_nil r2
  obtain rfl : args = #[v0, v1, v2] := by cases args; simp_all
  obtain ⟨rfl, rfl⟩ := trodVars_none hV
  obtain ⟨a0, rfl, rfl, rfl, w0⟩ := open_string Tryz.underlying9 (hval 0 9 v0 rfl rfl) h0
  obtain ⟨a1, rfl, rfl, rfl, w1⟩ := open_string Tryz.underlying9 (hval 1 9 v1 rfl rfl) h1
  obtain ⟨a2, rfl, rfl, rfl, w2⟩ := open_int Tryz.underlying3 (hval 2 3 v2 rfl rfl) h2
  clear hA0 hval0
  refine (NamesNone_walk a0 a1 a2 W w0 w1 w2).mono fun e W' ⟨he, bel⟩ => ?_
  subst he
  exact ⟨_, rfl, _, _, _, [], _, [], hW', trodAll_mk1 (shut_bool Tryz.underlying4 _), (trodAll_cons_mk (shut_string Tryz.underlying9 w0) (trodAll_cons_mk (shut_string Tryz.underlying9 w1) (trodAll_cons_mk (shut_int Tryz.underlying3 w2) trodAll_mk0))), rfl, bel.frame _, fun h => by cases h⟩

/-- The given statement of NamesNone. -/
theorem NamesNone_holds : Rows.NamesNoneSaid :=
  OpenClaim.holds_of_wide 7 Tryz.f7 rfl rfl rfl rfl rfl rfl rfl ⟨rfl, rfl, rfl, rfl, rfl⟩ rfl rfl rfl rfl rfl (by kernel_rfl) Tryz.func7 (by kernel_rfl)
    (of_decide_eq_true (by kernel_rfl)) (by unfold Func.isWrapper; first | (rw [if_pos (by decide +kernel)]; kernel_rfl) | (rw [if_neg (by decide +kernel)]; exact ⟨rfl, rfl⟩))
    (fun os started H enc _ => NamesNone_lifted os started H enc)
end Go.Proofs.YtbloiilinofklaaGreat

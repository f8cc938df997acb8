/- Rows of elements of any size: copy, clear, append of noughts that grows, append in place, as operations of a walk. Free of any program's numbers. -/
import Derived.Test.YtjafjjfcmcpaoaaOwn3
import Derived.Laws.CopyRow
import Derived.Deep.DeepAppendRoom
import Derived.Lib.AppendZerosOnto
namespace Go.Proofs.Ytjafjjfcmcpaoaa
open Go.ChangeShapes Go.WideShapes Go.ChangeAt Go.RowKit
set_option linter.unusedVariables false
set_option linter.unusedSimpArgs false
namespace RL

/-- Cells laid over a row from a place on. -/
def lay (L : List Value) (o : Nat) (cs : List Value) : List Value := L.take o ++ (cs ++ L.drop (o + cs.length))
theorem lay_len {L cs : List Value} {o : Nat} (h : o + cs.length ≤ L.length) : (lay L o cs).length = L.length := by
  unfold lay; simp; omega
theorem lay_take {L cs : List Value} {o : Nat} (ho : o ≤ L.length) : (lay L o cs).take (o + cs.length) = L.take o ++ cs := by
  unfold lay
  rw [← List.append_assoc, List.take_append_of_le_length (by simp; omega), List.take_of_length_le (by simp; omega)]
theorem lay_take_lo {L cs : List Value} {o k : Nat} (hk : k ≤ o) (ho : o ≤ L.length) : (lay L o cs).take k = L.take k := by
  unfold lay
  rw [List.take_append_of_le_length (by simp; omega), List.take_take, Nat.min_eq_left hk]
theorem lay_drop {L cs : List Value} {o : Nat} (ho : o ≤ L.length) : (lay L o cs).drop o = cs ++ L.drop (o + cs.length) := by
  unfold lay
  rw [List.drop_append, List.drop_of_length_le (by rw [List.length_take]; exact Nat.min_le_left _ _), List.nil_append, List.length_take, Nat.min_eq_left ho, Nat.sub_self, List.drop_zero]

variable {P : Program}
theorem run_copy_k (w : World) (dT sT ty elem : TypeId) (size m g o dLen dCap : Nat) (a : Addr) (sLen sCap : Nat) (cur : List Value) (t : TypeId) (cs : List Value)
    (hu : P.underlying dT = some (.slice elem)) (hs : (P.info? elem).map (·.size) = some size)
    (hg : w.heap[g]? = some (.cells cur.toArray t (0, 0))) (hm : m = Nat.min sLen dLen) (hn : cs.length = m * size)
    (hsrc : ∀ j v, cs[j]? = some v → w.cell? (a.add j) = some v) (hfit : o + cs.length ≤ cur.length) (h1 : ∀ v ∈ cs, v.oneCell' = true) :
    (Builtin.copy_ #[dT, sT] ty #[.slice (some ⟨g, o, none⟩) dLen dCap, .slice (some a) sLen sCap]).run P w =
      .ok (goInt m) (w.setRow g (lay cur o cs).toArray) := by
  have hl := run_firstCells_some (P := P) w size m a sLen sCap cs hn hsrc
  have hst := run_storeCells_at P g o t cs 0 cur.toArray w hg (by simpa using hfit) h1
  simp only [Nat.add_zero] at hst
  cases hq : P.info? elem with
  | none => simp [hq] at hs
  | some i =>
    have hi : i.size = size := by simpa [hq] using hs
    simp [Builtin.copy_, run_underlying hu, Builtin.lenOf, sizeOf, typeInfo, hq, hi, ← hm, hl, hst, lay]
theorem grown_setRow (w : World) (g : Nat) (cs : Array Value) : w.grownBy (w.setRow g cs) (some g) :=
  ⟨rfl, rfl, rfl, by simp [World.setRow], fun k _ hk => setRow_other w g k _ (fun e => hk (by rw [e]))⟩
theorem wpList_copy_k {w : World} {ops : Array Oper} {rest : List Oper} {o : Oper} {a : Act} {Q : Exit → Act → World → Prop} (hgd : o.guard = none) (d s : Operand) (dT sT : TypeId)
    (ho : o.op = .call { callee := .builtin .copy, args := #[d, s], argTypes := #[dT, sT] }) {elem : TypeId} {size : Nat} (hu : P.underlying dT = some (.slice elem)) (hs : (P.info? elem).map (·.size) = some size)
    (m g off dLen dCap : Nat) (ad : Addr) (sLen sCap : Nat) (cur : List Value) (t : TypeId) (cs : List Value) (hd : a.eval d = .slice (some ⟨g, off, none⟩) dLen dCap) (hx : a.eval s = .slice (some ad) sLen sCap)
    (hg : w.heap[g]? = some (.cells cur.toArray t (0, 0))) (hm : m = Nat.min sLen dLen) (hn : cs.length = m * size)
    (hsrc : ∀ j v, cs[j]? = some v → w.cell? (ad.add j) = some v) (hfit : off + cs.length ≤ cur.length) (h1 : ∀ v ∈ cs, v.oneCell' = true)
    (hK : ∀ w', w'.heap[g]? = some (.cells (lay cur off cs).toArray t (0, 0)) → w.grownBy w' (some g) → wpList P ops Q rest (a.put o.dst (goInt m)) w') : wpList P ops Q (o :: rest) a w := by
  refine wpList_plain hgd fun K hK' => ?_
  have hrun := run_copy_k (P := P) w dT sT o.type elem size m g off dLen dCap ad sLen sCap cur t cs hu hs hg hm hn hsrc hfit h1
  unfold Oper.wp
  simp [execOp, ho, resolve, invoke, builtin, hd, hx, hrun, Result.andThen]
  exact hK' _ _ (hK _ (setRow_heap w g _ _ _ _ hg) (grown_setRow _ _ _))
theorem step_copy_k {w : World} {ops : Array Oper} {o : Oper} {a : Act} {K : Act → World → Prop} {Q : Exit → Act → World → Prop} {E : Prop} (hgd : o.guard = none) (d s : Operand) (dT sT : TypeId)
    (ho : o.op = .call { callee := .builtin .copy, args := #[d, s], argTypes := #[dT, sT] }) {elem : TypeId} {size : Nat} (hu : P.underlying dT = some (.slice elem)) (hs : (P.info? elem).map (·.size) = some size)
    (m g off dLen dCap : Nat) (ad : Addr) (sLen sCap : Nat) (cur : List Value) (t : TypeId) (cs : List Value) (hd : a.eval d = .slice (some ⟨g, off, none⟩) dLen dCap) (hx : a.eval s = .slice (some ad) sLen sCap)
    (hg : w.heap[g]? = some (.cells cur.toArray t (0, 0))) (hm : m = Nat.min sLen dLen) (hn : cs.length = m * size)
    (hsrc : ∀ j v, cs[j]? = some v → w.cell? (ad.add j) = some v) (hfit : off + cs.length ≤ cur.length) (h1 : ∀ v ∈ cs, v.oneCell' = true)
    (hK : ∀ w', w'.heap[g]? = some (.cells (lay cur off cs).toArray t (0, 0)) → w.grownBy w' (some g) → K (a.put o.dst (goInt m)) w') :
    if Region.wanted o (yielded ops a.tmps) = true then Oper.wp P o a w K Q else E := by
  have hw : Region.wanted o (yielded ops a.tmps) = true := by simp [Region.wanted, hgd]
  rw [if_pos hw]
  have hrun := run_copy_k (P := P) w dT sT o.type elem size m g off dLen dCap ad sLen sCap cur t cs hu hs hg hm hn hsrc hfit h1
  unfold Oper.wp
  simp [execOp, ho, resolve, invoke, builtin, hd, hx, hrun, Result.andThen]
  exact hK _ (setRow_heap w g _ _ _ _ hg) (grown_setRow _ _ _)

/-- 'clear' of some elements of a row. -/
theorem wpList_clear_k {w : World} {ops : Array Oper} {rest : List Oper} {o : Oper} {a : Act} {Q : Exit → Act → World → Prop} (hgd : o.guard = none) (s : Operand) (t : TypeId)
    (ho : o.op = .call { callee := .builtin .clear, args := #[s], argTypes := #[t] }) {e : TypeId} {z : Value} {size bytes : Nat} (hu : P.underlying t = some (.slice e)) (hinf : Own.Info P e z size bytes) (h1 : ∀ v ∈ z.cells, v.oneCell' = true)
    (g off n c : Nat) (hn : 0 < n) (cur : List Value) (ty : TypeId) (hx : a.eval s = .slice (some ⟨g, off, none⟩) n c)
    (hg : w.heap[g]? = some (.cells cur.toArray ty (0, 0))) (hfit : off + n * size ≤ cur.length)
    (hK : ∀ w' cs, cs.length = n * size → w'.heap[g]? = some (.cells (lay cur off cs).toArray ty (0, 0)) → w.grownBy w' (some g) → wpList P ops Q rest (a.put o.dst (.tuple #[])) w') : wpList P ops Q (o :: rest) a w := by
  refine wpList_plain hgd fun K hK' => ?_
  obtain ⟨i, hi, hz, hsize, hby, hzs, hsz⟩ := hinf
  have hl : (Builtin.zeroCells z.cells n).toList.length = n * size := by rw [Array.length_toList, size_zeroCells, hzs]
  have h1' : ∀ v ∈ (Builtin.zeroCells z.cells n).toList, v.oneCell' = true := by
    intro v hv
    rw [Array.mem_toList_iff, Builtin.zeroCells, Array.mem_map] at hv
    obtain ⟨j, hj, rfl⟩ := hv
    have hp : 0 < z.cells.size := by omega
    have hlt : j % z.cells.size < z.cells.size := Nat.mod_lt _ hp
    rw [getElem!_pos z.cells _ hlt]
    exact h1 _ (Array.getElem_mem hlt)
  have hst := run_storeCells_at P g off ty (Builtin.zeroCells z.cells n).toList 0 cur.toArray w hg (by rw [hl]; simpa using hfit) h1'
  simp only [Nat.add_zero] at hst
  have hzv : (zeroValue e).run P w = .ok z w := by simp [zeroValue, typeInfo, hi, hz]
  obtain ⟨m, rfl⟩ : ∃ m, n = m + 1 := ⟨n - 1, by omega⟩
  have hrun : (Builtin.clear_ #[t] o.type #[.slice (some ⟨g, off, none⟩) (m + 1) c]).run P w = .ok (.tuple #[]) (w.setRow g (lay cur off (Builtin.zeroCells z.cells (m + 1)).toList).toArray) := by
    simp [Builtin.clear_, run_underlying hu, hzv, hst, lay]
  unfold Oper.wp
  simp [execOp, ho, resolve, invoke, builtin, hx, hrun, Result.andThen]
  exact hK' _ _ (hK _ _ hl (setRow_heap w g _ _ _ _ hg) (grown_setRow _ _ _))

/-- 'append(s, make(..)...)' where there is no room. -/
theorem wpList_zeros {w : World} {ops : Array Oper} {rest : List Oper} {o : Oper} {a : Act} {Q : Exit → Act → World → Prop} (hgd : o.guard = none) (s x : Operand) (t tn : TypeId)
    (ho : o.op = .call { callee := .builtin .append, args := #[s, x], argTypes := #[t, tn] }) {e : TypeId} {z : Value} {size bytes : Nat} {kn : IntKind} (hu : P.underlying t = some (.slice e)) (htn : P.underlying tn = some (.int kn)) (hinf : Own.Info P e z size bytes)
    (ao : Option Addr) (sLen sCap : Nat) (olds : List Value) (k : Nat) (hs : a.eval s = .slice ao sLen sCap) (hx : a.eval x = .int .i64 (k : Int)) (h0 : 0 < k) (hg : sCap < sLen + k) (hsrc : Own.Src w size (.slice ao sLen sCap) sLen olds)
    (hk : k * bytes ≤ 281474976710656) (h63 : sLen + k ≤ maxLen)
    (hnx : Builtin.nextslicecap (sLen + k) sCap * bytes ≤ 281474976710656)
    (hK : ∀ w' c zs tl, zs.length = k * size → sLen + k ≤ c → c ≤ maxLen → tl.length = (c - (sLen + k)) * size → w'.heap[w.heap.size]? = some (.cells (olds ++ (zs ++ tl)).toArray e (0, 0)) → w.grownBy w' none → w.heap.size < w'.heap.size →
      wpList P ops Q rest (a.put o.dst (.slice (some ⟨w.heap.size, 0, none⟩) (sLen + k) c)) w') : wpList P ops Q (o :: rest) a w := by
  refine wpList_plain hgd fun K hK' => ?_
  obtain ⟨i, hi, hz, hsize, hby, hzs, hsz⟩ := hinf
  subst hsize
  have hold : (Builtin.firstCells i.size sLen (.slice ao sLen sCap)).run P w.drew = .ok olds.toArray w.drew := by
    rcases hsrc with ⟨h1, rfl, rfl⟩ | ⟨ad, c, h1, h2, h3⟩
    · simp only [Value.slice.injEq] at h1
      obtain ⟨rfl, -, rfl⟩ := h1
      simp [Builtin.firstCells]
    · simp only [Value.slice.injEq, true_and] at h1
      obtain ⟨rfl, rfl⟩ := h1
      exact run_firstCells_some (P := P) w.drew i.size sLen ad sLen sCap olds h2 (fun j v hj => h3 j v hj)
  have hrun := Lib.run_append_grow_zeros (P := P) w t tn o.type e i z .i64 kn hu htn hi hz ao sLen sCap olds hold k h0 hsz hg (by unfold maxLen at h63; omega) (by rw [hby]; exact hk) (by rw [hby]; exact hnx)
  have g1 := grownCap_ge w (sLen + k) sCap e
  have g2 := grownCap_le_maxLen w (sLen + k) sCap e h63
  have harr : olds.toArray ++ Builtin.zeroCells z.cells k ++ Builtin.zeroCells z.cells (grownCap w (sLen + k) sCap e - (sLen + k)) = (olds ++ ((Builtin.zeroCells z.cells k).toList ++ (Builtin.zeroCells z.cells (grownCap w (sLen + k) sCap e - (sLen + k))).toList)).toArray := by
    apply Array.toList_inj.1; simp
  rw [harr] at hrun
  have l1 : (Builtin.zeroCells z.cells k).toList.length = k * i.size := by rw [Array.length_toList, size_zeroCells, hzs]
  have l2 : (Builtin.zeroCells z.cells (grownCap w (sLen + k) sCap e - (sLen + k))).toList.length = (grownCap w (sLen + k) sCap e - (sLen + k)) * i.size := by rw [Array.length_toList, size_zeroCells, hzs]
  obtain ⟨zs, hzs'⟩ : ∃ zs, (Builtin.zeroCells z.cells k).toList = zs := ⟨_, rfl⟩
  obtain ⟨tl, htl'⟩ : ∃ tl, (Builtin.zeroCells z.cells (grownCap w (sLen + k) sCap e - (sLen + k))).toList = tl := ⟨_, rfl⟩
  rw [hzs'] at hrun l1
  rw [htl'] at hrun l2
  obtain ⟨LL, hLL⟩ : ∃ LL, (olds ++ (zs ++ tl)).toArray = LL := ⟨_, rfl⟩
  rw [hLL] at hrun
  have hnew : (w.drew.alloc (.cells LL e)).heap[w.heap.size]? = some (.cells LL e (0, 0)) := heap_alloc_new w.drew (.cells LL e)
  have hold2 : ∀ j, j < w.heap.size → (w.drew.alloc (.cells LL e)).heap[j]? = w.heap[j]? := fun j hj => Below.heap_alloc w.drew _ j hj
  unfold Oper.wp
  simp only [execOp, ho, resolve, invoke, builtin, Sem.run_bind, Sem.run_pure, Result.andThen_ok, List.map_toArray, List.map_cons, List.map_nil, hs, hx, hrun]
  refine hK' _ _ (hK _ _ zs tl l1 g1 g2 l2 (by rw [hLL]; exact hnew) ⟨rfl, rfl, rfl, by simp, fun j hj _ => hold2 j hj⟩ (by simp))

/-- 'append' in place, as a step of a region that draws. -/
theorem step_spare {w : World} {ops : Array Oper} {o : Oper} {a : Act} {K : Act → World → Prop} {Q : Exit → Act → World → Prop} {E : Prop} (hgd : o.guard = none) (s x : Operand) (t : TypeId)
    (ho : o.op = .call { callee := .builtin .append, args := #[s, x], argTypes := #[t, t] }) {e : TypeId} {z : Value} {size bytes : Nat} (hu : P.underlying t = some (.slice e)) (hinf : Own.Info P e z size bytes)
    (base g n cap : Nat) (xs : List Value) (ad : Addr) (m c : Nat) (news : List Value) (hs : a.eval s = .slice (some ⟨g, 0, none⟩) n cap) (hx : a.eval x = .slice (some ad) m c)
    (hown : w.ownsRow base e size (.slice (some ⟨g, 0, none⟩) n cap) n xs) (hl : news.length = m * size) (hnews : ∀ j u, news[j]? = some u → w.cell? (ad.add j) = some u) (h1 : ∀ u ∈ news, u.oneCell' = true) (hroom : n + m ≤ cap)
    (hK : ∀ w', w'.ownsRow base e size (.slice (some ⟨g, 0, none⟩) (n + m) cap) (n + m) (xs ++ news) → w.grownBy w' (some g) → K (a.put o.dst (.slice (some ⟨g, 0, none⟩) (n + m) cap)) w') :
    if Region.wanted o (yielded ops a.tmps) = true then Oper.wp P o a w K Q else E := by
  have hw : Region.wanted o (yielded ops a.tmps) = true := by simp [Region.wanted, hgd]
  rw [if_pos hw]
  obtain ⟨i, hi, hz, hsize, hby, hzs, hsz⟩ := hinf
  exact wp_append_own_spare w s x t ho base e i size hu hi hsize g n cap xs hs hown ad m c news hx hl hnews h1 hroom hK

/-- A block that holds a row is owned. -/
theorem own_of {w : World} {base e size g n cap : Nat} {L xs : List Value} (hb : base ≤ g) (hg : w.heap[g]? = some (.cells L.toArray e (0, 0))) (hl : L.length = cap * size) (hn : n ≤ cap) (hm : cap ≤ maxLen) (hx : L.take (n * size) = xs) :
    w.ownsRow base e size (.slice (some ⟨g, 0, none⟩) n cap) n xs := by
  refine ⟨?_, .inr ⟨g, cap, L.toArray, rfl, hb, hg, hn, hm, by simpa using hl, by simpa using hx⟩⟩
  rw [← hx, List.length_take, hl]
  exact Nat.min_eq_left (Nat.mul_le_mul_right _ hn)
end RL
end Go.Proofs.Ytjafjjfcmcpaoaa

/- Rows that are owned, continued: what reads as cells, appended; rows made empty; cuts. Free of any program's numbers. -/
import Derived.Test.YtjafjjfcmcpaoaaOwn
import Derived.Maps.AppendAt
import Derived.Laws.OwnMore
import Derived.Laws.AppendOwnNone
namespace Go.Proofs.Ytjafjjfcmcpaoaa
open Go.ChangeShapes Go.WideShapes Go.ChangeAt Go.RowKit
set_option linter.unusedVariables false
set_option linter.unusedSimpArgs false
namespace Own

/-- A slice value that reads as these cells, m elements of so many. -/
def Src (w : World) (size : Nat) (u : Value) (m : Nat) (ys : List Value) : Prop :=
  (u = .slice none 0 0 ∧ m = 0 ∧ ys = []) ∨ ∃ ad c, u = .slice (some ad) m c ∧ ys.length = m * size ∧ ∀ j v, ys[j]? = some v → w.cell? (ad.add j) = some v
theorem Src.keep {w w' : World} {size m : Nat} {u : Value} {ys : List Value} (h : Src w size u m ys) (hb : Below w.heap.size w w') : Src w' size u m ys := by
  rcases h with h | ⟨ad, c, h1, h2, h3⟩
  · exact .inl h
  · exact .inr ⟨ad, c, h1, h2, fun j v hj => by rw [hb.cell (World.block_lt_of_cell? w _ (h3 j v hj))]; exact h3 j v hj⟩
theorem Src.grown {w w' : World} {size m : Nat} {u : Value} {ys : List Value} {row : Option Nat} (h : Src w size u m ys) (hg : w.grownBy w' row) (hr : ∀ ad n c, u = .slice (some ad) n c → 0 < n → some ad.block ≠ row) : Src w' size u m ys := by
  rcases h with h | ⟨ad, c, h1, h2, h3⟩
  · exact .inl h
  · refine .inr ⟨ad, c, h1, h2, fun j v hj => ?_⟩
    have hm : 0 < m := by
      rcases Nat.eq_zero_or_pos m with h0 | h0
      · subst h0
        rw [Nat.zero_mul] at h2
        rw [List.eq_nil_of_length_eq_zero h2] at hj
        cases hj
      · exact h0
    refine cellg hg (h3 j v hj) ?_
    have e : (ad.add j).block = ad.block := by unfold Addr.add; split <;> rfl
    rw [e]
    exact hr ad m c h1 hm

/-- What the model says of an element's type. -/
def Info (P : Program) (e : TypeId) (z : Value) (size bytes : Nat) : Prop := ∃ i, P.info? e = some i ∧ i.zero = some z ∧ i.size = size ∧ i.bytes = bytes ∧ z.cells.size = size ∧ 0 < size
theorem info_of {P : Program} {e : TypeId} {z : Value} {size bytes : Nat} (h : (P.info? e).map (fun i => (i.zero, i.size, i.bytes)) = some (some z, size, bytes)) (h2 : z.cells.size = size) (h3 : 0 < size) : Info P e z size bytes := by
  cases hi : P.info? e with
  | none => rw [hi] at h; cases h
  | some i =>
    rw [hi] at h
    simp only [Option.map_some, Option.some.injEq, Prod.mk.injEq] at h
    exact ⟨i, hi, h.1, h.2.1, h.2.2, h2, h3⟩

theorem run_app {P : Program} {w : World} {t ty e : TypeId} {z : Value} {size bytes : Nat} (ht : P.underlying t = some (.slice e)) (hinf : Info P e z size bytes) {base n m : Nat} {v u : Value} {xs ys : List Value}
    (hown : w.ownsRow base e size v n xs) (hbase : base ≤ w.heap.size) (hs : Src w size u m ys) (h1 : ∀ u ∈ ys, u.oneCell' = true) (h63 : n + m ≤ maxLen) (hb : (n + m) * bytes ≤ 140737488355328) :
    ∃ v' w', (Builtin.append_ #[t, t] ty #[v, u]).run P w = .ok v' w' ∧ w'.ownsRow base e size v' (n + m) (xs ++ ys) ∧ w.grownBy w' v.ownBlock ∧ (v'.ownBlock = v.ownBlock ∨ v'.ownBlock = some w.heap.size) := by
  obtain ⟨i, hi, hz, hsize, hby, hzs, hsz⟩ := hinf
  rcases hs with ⟨rfl, rfl, rfl⟩ | ⟨ad, c, rfl, hl, hc⟩
  · refine ⟨v, w, run_append_owned_none (P := P) (w := w) base t ty e i size ht hi v n xs hown, ?_, World.grownBy.refl w _, .inl rfl⟩
    simpa using hown
  · obtain ⟨v', w', h1, h2, h3, -, h5⟩ := run_append_own_at (P := P) w base t ty e i z size bytes ht hi hz hsize hby hzs hsz v n xs hown ad m c ys hl hc h1 h63 hb hbase
    exact ⟨v', w', h1, h2, h3, h5⟩
/-- 'append', as one step of a region that draws. -/
theorem step_app {P : Program} {ops : Array Oper} {o : Oper} {a : Act} {w : World} {K : Act → World → Prop} {Q : Exit → Act → World → Prop} {E : Prop}
    (hg : o.guard = none) (s x : Operand) (t : TypeId) (hop : o.op = Op.call { callee := Callee.builtin Builtin.append, args := #[s, x], argTypes := #[t, t] })
    {e : TypeId} {z : Value} {size bytes : Nat} (ht : P.underlying t = some (.slice e)) (hinf : Info P e z size bytes) {base n m : Nat} (v u : Value) {xs ys : List Value} (hs : a.eval s = v) (hx : a.eval x = u)
    (hown : w.ownsRow base e size v n xs) (hbase : base ≤ w.heap.size) (hsrc : Src w size u m ys) (h1 : ∀ u ∈ ys, u.oneCell' = true) (h63 : n + m ≤ maxLen) (hb : (n + m) * bytes ≤ 140737488355328)
    (hK : ∀ v' w', w'.ownsRow base e size v' (n + m) (xs ++ ys) → w.grownBy w' v.ownBlock → (v'.ownBlock = v.ownBlock ∨ v'.ownBlock = some w.heap.size) → K (a.put o.dst v') w') :
    if Region.wanted o (yielded ops a.tmps) = true then Oper.wp P o a w K Q else E := by
  have hw : Region.wanted o (yielded ops a.tmps) = true := by simp [Region.wanted, hg]
  rw [if_pos hw]
  obtain ⟨v', w', hrun, r1, r2, r3⟩ := run_app (ty := o.type) ht hinf hown hbase hsrc h1 h63 hb
  unfold Oper.wp
  simp [execOp, hop, resolve, invoke, builtin, hs, hx, hrun, Result.andThen]
  exact hK v' w' r1 r2 r3
/-- 'append', at the list of a plain region's operations. -/
theorem wpList_app {P : Program} {ops : Array Oper} {rest : List Oper} {o : Oper} {a : Act} {w : World} {Q : Exit → Act → World → Prop} (hgd : o.guard = none) (s x : Operand) (t : TypeId)
    (hop : o.op = Op.call { callee := Callee.builtin Builtin.append, args := #[s, x], argTypes := #[t, t] })
    {e : TypeId} {z : Value} {size bytes : Nat} (ht : P.underlying t = some (.slice e)) (hinf : Info P e z size bytes) {base n m : Nat} (v u : Value) {xs ys : List Value} (hs : a.eval s = v) (hx : a.eval x = u)
    (hown : w.ownsRow base e size v n xs) (hbase : base ≤ w.heap.size) (hsrc : Src w size u m ys) (h1 : ∀ u ∈ ys, u.oneCell' = true) (h63 : n + m ≤ maxLen) (hb : (n + m) * bytes ≤ 140737488355328)
    (hK : ∀ v' w', w'.ownsRow base e size v' (n + m) (xs ++ ys) → w.grownBy w' v.ownBlock → (v'.ownBlock = v.ownBlock ∨ v'.ownBlock = some w.heap.size) → wpList P ops Q rest (a.put o.dst v') w') : wpList P ops Q (o :: rest) a w := by
  refine wpList_plain hgd fun K' hK' => ?_
  obtain ⟨v', w', hrun, r1, r2, r3⟩ := run_app (ty := o.type) ht hinf hown hbase hsrc h1 h63 hb
  unfold Oper.wp
  simp [execOp, hop, resolve, invoke, builtin, hs, hx, hrun, Result.andThen]
  exact hK' _ _ (hK v' w' r1 r2 r3)
/-- 'make' of an empty row with room. -/
theorem make_room {P : Program} {t e : TypeId} {z : Value} {size bytes : Nat} (ht : P.underlying t = some (.slice e)) (hinf : Info P e z size bytes) (m : Nat) (zz : Int) (hzm : zz = m) (h : m * bytes ≤ 140737488355328) (h2 : m ≤ 140737488355328) :
    ∃ X : Obj, (∀ W : World, (Instr.makeSlice t (.int .i64 0) (.int .i64 zz)).run P W = .ok (.slice (some ⟨W.heap.size, 0, none⟩) 0 m) (W.alloc X)) ∧
    ∀ (W : World) (base : Nat), base ≤ W.heap.size → (W.alloc X).ownsRow base e size (.slice (some ⟨W.heap.size, 0, none⟩) 0 m) 0 [] := by
  subst hzm
  obtain ⟨i0, hi, hz0, hz1, hz2, hzs, hsz⟩ := hinf
  refine ⟨_, fun W => ?_, fun W base hb => World.ownsRow_made (size := size) W _ m hb (by unfold maxLen; omega) (size_madeCells z.cells (m * size))⟩
  have hr := run_make (P := P) W t e i0 z ht hi hz0 .i64 .i64 0 (m : Int) (Int.le_refl _) (by omega) (by rw [hz2, Int.mul_comm, ← Int.natCast_mul]; omega) (by omega)
  simp only [Int.toNat_zero, Int.toNat_natCast, hz1] at hr
  exact hr
end Own
end Go.Proofs.Ytjafjjfcmcpaoaa

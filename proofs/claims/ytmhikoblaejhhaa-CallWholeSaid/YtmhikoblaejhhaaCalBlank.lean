/- Iterators of strings in memory, and the program's blank. -/
import Derived.Test.YtmhikoblaejhhaaCalMath
import Derived.Laws.RangeString
namespace Go.Proofs.Ytmhikoblaejhhaa
open Go.ChangeShapes Go.WideShapes Go.ChangeAt Go.RowKit Go.Maps
set_option linter.unusedVariables false
set_option linter.unusedSimpArgs false
namespace CA
/-- Block g is an iterator over s, at pos. -/
def IT (w : World) (g : Nat) (s : ByteArray) (pos : Nat) : Prop := w.heap[g]? = some (.stringIter s pos)
theorem IT.lt {w : World} {g : Nat} {s : ByteArray} {pos : Nat} (h : IT w g s pos) : g < w.heap.size := by
  unfold IT at h
  by_cases hl : g < w.heap.size
  · exact hl
  · rw [Array.getElem?_eq_none (by omega)] at h; cases h
theorem IT.keep {w w' : World} {g : Nat} {s : ByteArray} {pos : Nat} (h : IT w g s pos) (hb : Below w.heap.size w w') : IT w' g s pos := (hb.block g h.lt).trans h
set_option maxRecDepth 100000 in
theorem run_next_b {P : Program} (w : World) (g : Nat) (s : ByteArray) (pos : Nat) (ty : TypeId) (h : IT w g s pos) (c : UInt8) (hc : s.data.toList[pos]? = some c) (ha : c.toNat < 128) :
    (Instr.next (.pointer (some ⟨g, 0, none⟩)) true ty).run P w = .ok (.tuple #[.bool true, .int .i64 pos, .int .i32 c.toNat]) { w with heap := w.heap.setIfInBounds g (.stringIter s (pos + 1)) } := by
  have hlt := h.lt
  unfold IT at h
  have hp : pos < s.size := by
    have := (List.getElem?_eq_some_iff.1 hc).1
    show pos < s.data.size
    simpa using this
  have hce : s[pos]'hp = c := by
    have := (List.getElem?_eq_some_iff.1 hc).2
    rw [← this]; rfl
  have hd := decode_ascii s pos hp (by rw [hce]; exact ha)
  simp only [Instr.next, getObj, setObj, Sem.run_bind, Sem.run, h, Result.andThen, hp, if_true, hd]
  rw [hce]
  rfl
theorem run_next_e {P : Program} (w : World) (g : Nat) (s : ByteArray) (pos : Nat) (ty : TypeId) (h : IT w g s pos) (hp : ¬ pos < s.size) :
    (Instr.next (.pointer (some ⟨g, 0, none⟩)) true ty).run P w = .ok (.tuple #[.bool false]) w := by
  unfold IT at h
  simp [Instr.next, getObj, Sem.run, h, hp]
theorem wpList_next {P : Program} {w : World} {ops : Array Oper} {rest : List Oper} {o : Oper} {a : Act} {Q : Exit → Act → World → Prop} (g : Nat) (s : ByteArray) (pos : Nat) (h : IT w g s pos) (hg : o.guard = none) (x : Operand) (hop : o.op = Op.next x true)
    (hx : a.eval x = .pointer (some ⟨g, 0, none⟩)) (c : UInt8) (hc : s.data.toList[pos]? = some c) (ha : c.toNat < 128)
    (hK : ∀ w', IT w' g s (pos + 1) → w.grownBy w' (some g) → wpList P ops Q rest (a.put o.dst (.tuple #[.bool true, .int .i64 pos, .int .i32 c.toNat])) w') :
    wpList P ops Q (o :: rest) a w := by
  refine wpList_plain hg fun K' hK' => ?_
  have hrun := run_next_b (P := P) w g s pos o.type h c hc ha
  unfold Oper.wp
  simp [execOp, hop, hx, hrun, Result.andThen]
  refine hK' _ _ (hK _ ?_ ⟨rfl, rfl, rfl, by simp, fun j _ hj => ?_⟩)
  · unfold IT
    simp [h.lt]
  · show (w.heap.setIfInBounds g _)[j]? = _
    rw [Array.getElem?_setIfInBounds, if_neg (fun e => hj (by rw [e]))]

theorem bs_full {s : ByteArray} (h : s ≠ { data := #[] }) : (s.toList = []) = False ∧ s.toList.isEmpty = false ∧ s.size ≠ 0 := by
  cases s with
  | mk d =>
    rw [ByteArray.toList_eq]
    cases he : d.toList with
    | nil =>
      have : d = #[] := Array.toList_inj.1 he
      exact absurd (by rw [this]) h
    | cons c r =>
      refine ⟨by simp, rfl, ?_⟩
      show d.size ≠ 0
      rw [← Array.length_toList, he]; simp

set_option maxRecDepth 100000 in
set_option maxHeartbeats 1000000 in
theorem blank_any (g o1 o2 : Nat) (zs : List Int) (ss : List ByteArray) (n m : Nat) (hzn : zs.length = n) (hsm : ss.length = m) (hn : n ≤ 3) (hm : m ≤ 2) (w : World)
    (hz : ∀ j, (h : j < n) → w.cell? ⟨g, o1 + j, none⟩ = some (.int .i64 (zs[j]'(by omega)))) (hs : ∀ j, (h : j < m) → w.cell? ⟨g, o2 + j, none⟩ = some (.string (ss[j]'(by omega)))) :
    Calls Try.prog 22 #[.slice (some ⟨g, o1, none⟩) n n, .slice (some ⟨g, o2, none⟩) m m] w fun e w' => e = .returned (.bool (zs.all (· == 0) && ss.all (fun s => s.size == 0))) ∧ w = w' := by
  replace hzn := W_hid hzn
  replace hsm := W_hid hsm
  replace hz := W_hid hz
  replace hs := W_hid hs
  go_enter Try.func22, Try.ntmps22
  go_wp2
  go_loop [6, 11] (fun _ i => ∃ k : Nat, k ≤ n ∧ i = .int .i64 k ∧ Hid ((zs.take k).all (· == 0) = true)) (fun _ i => n - (intOf i).toNat)
  case atStart => exact ⟨0, Nat.zero_le _, rfl, rfl⟩
  case round =>
    obtain ⟨k, hk, rfl, hall⟩ := hrel
    by_cases hlt : k < n
    · have hc := hz.out k hlt
      have hzl : k < zs.length := by have := hzn.out; omega
      have ht : Hid (zs.take (k + 1) = zs.take k ++ [zs[k]]) := by rw [List.take_succ_eq_append_getElem hzl]; exact rfl
      have hmem : Hid (zs[k] ∈ zs) := List.getElem_mem hzl
      obtain ⟨z, hzz⟩ : ∃ z, zs[k] = z := ⟨_, rfl⟩
      rw [hzz] at hc ht hmem
      replace hzz := W_hid hzz
      by_cases h0 : z = 0
      · subst h0
        go_wp2
        go_round
        case rel => exact ⟨k + 1, hlt, by push_cast; rfl, by rw [ht.out, List.all_append, hall.out]; rfl⟩
        case measure => simp [intOf]; omega
      · go_wp2
        go_ret
        refine ⟨?_, rfl⟩
        have : zs.all (· == 0) = false := by
          rw [List.all_eq_false]
          exact ⟨z, hmem.out, by simp [h0]⟩
        rw [this]; rfl
    · obtain rfl : k = n := by omega
      have hall0 : Hid (zs.all (· == 0) = true) := by
        have := hall.out
        rwa [List.take_of_length_le (by rw [hzn.out]; exact Nat.le_refl _)] at this
      go_wp2
      go_loop [8, 20] (fun _ i => ∃ k : Nat, k ≤ m ∧ i = .int .i64 k ∧ Hid ((ss.take k).all (fun s => s.size == 0) = true)) (fun _ i => m - (intOf i).toNat)
      case atStart => exact ⟨0, Nat.zero_le _, rfl, rfl⟩
      case round =>
        obtain ⟨q, hq, rfl, hall2⟩ := hrel
        by_cases hlt2 : q < m
        · have hc := hs.out q hlt2
          have hsl : q < ss.length := by have := hsm.out; omega
          have ht : Hid (ss.take (q + 1) = ss.take q ++ [ss[q]]) := by rw [List.take_succ_eq_append_getElem hsl]; exact rfl
          have hmem : Hid (ss[q] ∈ ss) := List.getElem_mem hsl
          obtain ⟨z, hzz⟩ : ∃ z, ss[q] = z := ⟨_, rfl⟩
          rw [hzz] at hc ht hmem
          replace hzz := W_hid hzz
          by_cases h0 : z = { data := #[] }
          · subst h0
            go_wp2
            go_round
            case rel => exact ⟨q + 1, hlt2, by push_cast; rfl, by rw [ht.out, List.all_append, hall2.out]; rfl⟩
            case measure => simp [intOf]; omega
          · obtain ⟨f1, f2, f3⟩ := bs_full h0
            go_wp2
            go_ret
            refine ⟨?_, rfl⟩
            have : ss.all (fun s => s.size == 0) = false := by
              rw [List.all_eq_false]
              exact ⟨z, hmem.out, fun e => f3 (by simpa using e)⟩
            rw [this]; simp
        · obtain rfl : q = m := by omega
          have hall3 : Hid (ss.all (fun s => s.size == 0) = true) := by
            have := hall2.out
            rwa [List.take_of_length_le (by rw [hsm.out]; exact Nat.le_refl _)] at this
          go_wp2
          go_ret
          exact ⟨by rw [hall0.out, hall3.out]; rfl, rfl⟩
end CA
end Go.Proofs.Ytmhikoblaejhhaa

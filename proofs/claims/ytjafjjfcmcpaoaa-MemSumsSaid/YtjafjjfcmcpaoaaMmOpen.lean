/- Stage 18: programs that came in. -/
import Derived.Test.YtjafjjfcmcpaoaaMmShow
import Derived.ChangeOld
import Derived.ShutString
import Derived.SizedLaws
import Derived.Deep.Slices
namespace Go.Proofs.Ytjafjjfcmcpaoaa
open Go.ChangeShapes Go.WideShapes Go.ChangeAt Go.RowKit
set_option linter.unusedVariables false
set_option linter.unusedSimpArgs false
set_option maxRecDepth 100000
namespace MC
open IN (lt_of_some)

theorem weightsAll_mem {H : Type} {P : Program} {e : TypeId} : ∀ {l : List (DataW H)} {d : DataW H}, d ∈ l → ∀ n ∈ d.weights P e, n ∈ DataW.weightsAll P e l
  | y :: l, d, hd, n, hn => by
    simp only [DataW.weightsAll, List.mem_append]
    rcases List.mem_cons.1 hd with rfl | h
    · exact .inl hn
    · exact .inr (weightsAll_mem h n hn)
theorem src_lt {w : World} {v : Value} {p : List In} (h : Own.Src w 5 v p.length (xcl p)) (hn : p ≠ []) {k : Nat} (hk : vb v = some k) : k < w.heap.size := by
  obtain ⟨b, o, c, rfl, hb, -⟩ := src_at h (k := 0) (x := p.head hn) (by cases p with | nil => exact absurd rfl hn | cons y p => rfl)
  simp only [vb, Option.some.injEq] at hk
  omega
theorem open_prog {H : Type} {enc : TypeId × Value → H} {W : World} {fuel : Nat} {v : Value} {x : DataW H × List MemPlace} (h : DataW.trod enc Try.prog W 0 (fun _ => true) true fuel 39 [v] = some x) :
    ∃ (ao : Option Addr) (cap : Nat) (p : List In), v = .slice ao p.length cap ∧ Own.Src W 5 v p.length (xcl p) ∧ (∀ y ∈ p, InFit y) ∧ (p = [] ∨ ∃ m ∈ x.1.weights Try.prog 39, p.length * 40 ≤ m) := by
  rcases Deep.open_slice Try.underlying39 h with ⟨e1, -⟩ | ⟨ad, len, cap, m, n, D, Pl, e1, hb, hl, hm, hmm, hxx, hx⟩
  · simp only [List.cons.injEq, and_true] at e1
    subst e1
    exact ⟨none, 0, [], rfl, .inl ⟨rfl, rfl, rfl⟩, fun y hy => by simp at hy, .inl rfl⟩
  · simp only [List.cons.injEq, and_true] at e1
    subst e1
    have hlm : len ≤ m := by rw [hmm]; split <;> omega
    have each : ∀ i, i < len → ∃ q : In, InFit q ∧ ∀ mm u, (irow q)[mm]? = some u → W.cell? (ad.add (i * 5 + mm)) = some u := by
      intro i hi
      obtain ⟨cs', h1, h2⟩ := hx i (by omega)
      rw [show Try.prog.cellsOf 45 = 5 from by kernel_rfl] at h1
      obtain ⟨_, hlen, hcell⟩ := World.cells?_some h1
      obtain ⟨xs, k, hk, hxy, _, hxl, hff⟩ := DataW.trod_struct Try.underlying45 h2
      match xs, hxl, cs', hlen with
      | [y0, y1, y2, y3, y4], _, [v0, v1, v2, v3, v4], _ =>
        have g0 := hff 0 _ rfl
        have g1 := hff 1 _ rfl
        have g2 := hff 2 _ rfl
        have g3 := hff 3 _ rfl
        have g4 := hff 4 _ rfl
        have t0 : Try.prog.cellsOf 3 = 1 := by kernel_rfl
        have t1 : Try.prog.cellsOf 2 = 1 := by kernel_rfl
        simp [t0, t1] at g0 g1 g2 g3 g4
        have e0 := hcell 0 (by omega)
        have e1 := hcell 1 (by omega)
        have e2 := hcell 2 (by omega)
        have e3 := hcell 3 (by omega)
        have e4 := hcell 4 (by omega)
        rw [Deep.add_add] at e0 e1 e2 e3 e4
        obtain ⟨z0, q0, -, b0⟩ := DataW.trod_int Try.underlying3 g0
        have b0' := bounds_i64 b0
        obtain ⟨z1, q1, -, b1⟩ := DataW.trod_int Try.underlying3 g1
        have b1' := bounds_i64 b1
        obtain ⟨z2, q2, -, b2⟩ := DataW.trod_int Try.underlying2 g2
        have b2' := bounds_i64 b2
        obtain ⟨z3, q3, -, b3⟩ := DataW.trod_int Try.underlying2 g3
        have b3' := bounds_i64 b3
        obtain ⟨z4, q4, -, b4⟩ := DataW.trod_int Try.underlying3 g4
        have b4' := bounds_i64 b4
        simp at q0 q1 q2 q3 q4
        subst q0 q1 q2 q3 q4
        refine ⟨⟨z0, z1, z2, z3, z4⟩, ⟨b0', b1', b2', b3', b4'⟩, fun mm u hu => ?_⟩
        have hmm5 : mm < 5 := (List.getElem?_eq_some_iff.1 hu).1
        have : mm = 0 ∨ mm = 1 ∨ mm = 2 ∨ mm = 3 ∨ mm = 4 := by omega
        rcases this with rfl | rfl | rfl | rfl | rfl
        · cases hu; simpa using e0
        · cases hu; simpa using e1
        · cases hu; simpa using e2
        · cases hu; simpa using e3
        · cases hu; simpa using e4
    have key : ∀ k, k ≤ len → ∃ l : List In, l.length = k ∧ ∀ j (hj : j < l.length), InFit l[j] ∧ ∀ mm u, (irow l[j])[mm]? = some u → W.cell? (ad.add (j * 5 + mm)) = some u := by
      intro k
      induction k with
      | zero => exact fun _ => ⟨[], rfl, fun j hj => by simp at hj⟩
      | succ k ih =>
        intro hk
        obtain ⟨l, h1, h2⟩ := ih (by omega)
        obtain ⟨q, hq⟩ := each k (by omega)
        refine ⟨l ++ [q], by simp [h1], fun j hj => ?_⟩
        by_cases hjl : j < l.length
        · rw [List.getElem_append_left hjl]; exact h2 j hjl
        · have : j = k := by simp at hj; omega
          subst this
          rw [List.getElem_append_right (by omega)]
          simpa [h1] using hq
    obtain ⟨l, h1, h2⟩ := key len (Nat.le_refl _)
    subst h1
    refine ⟨some ad, cap, l, rfl, .inr ⟨ad, cap, rfl, xcl_len l, fun j u hu => ?_⟩, fun y hy => ?_, .inr ⟨m * 40, ?_, by omega⟩⟩
    · have hj : j < l.length * 5 := by have := (List.getElem?_eq_some_iff.1 hu).1; rwa [xcl_len] at this
      have hd : j / 5 < l.length := by omega
      have hr := xcl_get l (j / 5) hd (j % 5) (by omega)
      rw [show j / 5 * 5 + j % 5 = j by omega, hu] at hr
      have := (h2 (j / 5) hd).2 (j % 5) u hr.symm
      rwa [show j / 5 * 5 + j % 5 = j by omega] at this
    · obtain ⟨j, hj, rfl⟩ := List.getElem_of_mem hy
      exact (h2 j hj).1
    · rw [hxx]
      simp only [DataW.weights, Try.underlying39]
      refine List.mem_cons.2 (.inl ?_)
      rw [show Try.prog.bytesOf 45 = 40 from by kernel_rfl, List.length_map, List.length_map, List.length_range, List.length_range]
      congr 1
      omega
/-- A program that came in. -/
def IA (W : World) (ao : Option Addr) (n cap : Nat) (p : List In) : Prop := n = p.length ∧ Own.Src W 5 (.slice ao n cap) n (xcl p) ∧ (∀ y ∈ p, InFit y) ∧ n ≤ 3518437208780
theorem open_ins {H : Type} {enc : TypeId × Value → H} {W : World} {r : Reach} {b0 : Nat} {v : Value} {d : DataW H} {p : List MemPlace} (hv : Value.okWide Try.prog W r b0 39 v)
    (h : DataW.Trod enc Try.prog W 0 (fun _ => true) true 39 v d p) (hsz : ∀ q ∈ d.weights Try.prog 39, q ≤ reachBytes) :
    ∃ (ao : Option Addr) (n cap : Nat) (l : List In), v = .slice ao n cap ∧ IA W ao n cap l := by
  obtain ⟨a, len, cap, rfl⟩ := okWide_slice Try.underlying39 hv
  obtain ⟨fuel, hf⟩ := h
  rw [show (Value.slice a len cap).cells.toList = [.slice a len cap] from rfl] at hf
  obtain ⟨ao, c2, l, he, hs, hfit, hw⟩ := open_prog hf
  refine ⟨ao, l.length, c2, l, he, rfl, he ▸ hs, hfit, ?_⟩
  rcases hw with rfl | ⟨m, hm, hle⟩
  · simp
  · have := hsz m hm
    unfold reachBytes at this
    omega
/-- Programs that came in. -/
def PA (W : World) (ao : Option Addr) (n : Nat) (l : List (Value × List In)) : Prop := PIn W ao n l ∧ ∀ x ∈ l, x.2 ≠ [] → ∀ k, vb x.1 = some k → k < W.heap.size
theorem open_progs {H : Type} {enc : TypeId × Value → H} {W : World} {r : Reach} {b0 : Nat} {v : Value} {d : DataW H} {p : List MemPlace} (hv : Value.okWide Try.prog W r b0 22 v)
    (h : DataW.Trod enc Try.prog W 0 (fun _ => true) true 22 v d p) (hsz : ∀ q ∈ d.weights Try.prog 22, q ≤ reachBytes) :
    ∃ (ao : Option Addr) (n cap : Nat) (l : List (Value × List In)), v = .slice ao n cap ∧ PA W ao n l := by
  obtain ⟨a, len, cap, rfl⟩ := okWide_slice Try.underlying22 hv
  obtain ⟨fuel, hf⟩ := h
  rw [show (Value.slice a len cap).cells.toList = [.slice a len cap] from rfl] at hf
  rcases Deep.open_slice1 Try.underlying22 (by kernel_rfl) hf with ⟨e1, -⟩ | ⟨ad, len', cap', m, n, V, D, Pl, e1, hb, hl, hm, hmm, hxx, hx⟩
  · simp only [List.cons.injEq, and_true, Value.slice.injEq] at e1
    obtain ⟨rfl, rfl, rfl⟩ := e1
    exact ⟨none, 0, 0, [], rfl, ⟨rfl, by decide, fun j x hj => by simp at hj⟩, fun x hx => by simp at hx⟩
  · simp only [List.cons.injEq, and_true, Value.slice.injEq] at e1
    obtain ⟨rfl, rfl, rfl⟩ := e1
    have hlm : len ≤ m := by rw [hmm]; split <;> omega
    have hdw : d = .slice ((List.range len).map D) ((List.range (m - len)).map fun j => D (len + j)) := (Prod.mk.inj hxx).1
    have each : ∀ i, i < len → ∃ q : Value × List In, W.cell? (ad.add i) = some q.1 ∧ Own.Src W 5 q.1 q.2.length (xcl q.2) ∧ (∀ y ∈ q.2, InFit y) ∧ q.2.length ≤ 3518437208880 := by
      intro i hi
      obtain ⟨h1, h2⟩ := hx i (by omega)
      obtain ⟨ao, c2, l, he, hs, hfit, hw⟩ := open_prog h2
      refine ⟨(V i, l), h1, hs, hfit, ?_⟩
      rcases hw with rfl | ⟨q, hq, hle⟩
      · simp
      · have hmem : q ∈ d.weights Try.prog 22 := by
          rw [hdw]
          simp only [DataW.weights, Try.underlying22]
          exact List.mem_cons_of_mem _ (List.mem_append_left _ (weightsAll_mem (List.mem_map.2 ⟨i, List.mem_range.2 hi, rfl⟩) q hq))
        have := hsz q hmem
        unfold reachBytes at this
        simp only
        omega
    have key : ∀ k, k ≤ len → ∃ l : List (Value × List In), l.length = k ∧ ∀ j (hj : j < l.length), W.cell? (ad.add j) = some l[j].1 ∧ Own.Src W 5 l[j].1 l[j].2.length (xcl l[j].2) ∧ (∀ y ∈ l[j].2, InFit y) ∧ l[j].2.length ≤ 3518437208880 := by
      intro k
      induction k with
      | zero => exact fun _ => ⟨[], rfl, fun j hj => by simp at hj⟩
      | succ k ih =>
        intro hk
        obtain ⟨l, h1, h2⟩ := ih (by omega)
        obtain ⟨q, hq⟩ := each k (by omega)
        refine ⟨l ++ [q], by simp [h1], fun j hj => ?_⟩
        by_cases hjl : j < l.length
        · rw [List.getElem_append_left hjl]; exact h2 j hjl
        · have : j = k := by simp at hj; omega
          subst this
          rw [List.getElem_append_right (by omega)]
          simpa [h1] using hq
    obtain ⟨l, h1, h2⟩ := key len (Nat.le_refl _)
    subst h1
    refine ⟨some ad, l.length, cap, l, rfl, ⟨rfl, by unfold maxLen at hm; omega, fun j x hj => ?_⟩, fun x hx hn k hk => ?_⟩
    · obtain ⟨hjl, rfl⟩ := List.getElem?_eq_some_iff.1 hj
      obtain ⟨h3, h4, h5, h6⟩ := h2 j hjl
      obtain ⟨b, off, spot⟩ := ad
      have hs : spot = none := by
        have := World.cell?_spot ((h2 0 (by omega)).1)
        simpa [Addr.add] using this
      subst hs
      rw [Addr.add_lit] at h3
      exact ⟨b, off, rfl, cell_lt h3, h3, h4, h5, h6⟩
    · obtain ⟨j, hj, rfl⟩ := List.getElem_of_mem hx
      exact src_lt (h2 j hj).2.1 hn hk
/-- A list of numbers that came in. -/
theorem nu_row {W : World} {a : Option Addr} {len cap : Nat} {zs : List Int} (h : IsRow .i64 W a len cap zs) : Nu W a len (zs.take len) ∧ len ≤ cap ∧ cap ≤ 9223372036854775807 := by
  have h1 := row_at h
  have hz : len ≤ zs.length ∧ len ≤ cap ∧ cap ≤ 9223372036854775807 := by
    rcases h with ⟨-, rfl, rfl, -⟩ | ⟨x, -, hl, hm, hz, -⟩
    · exact ⟨Nat.zero_le _, Nat.le_refl _, by decide⟩
    · unfold maxLen at hm; omega
  refine ⟨⟨by rw [List.length_take]; omega, by have := h1.1; unfold maxLen at this; omega, fun j x hj => ?_⟩, hz.2⟩
  obtain ⟨hjl, he⟩ := List.getElem?_eq_some_iff.1 hj
  rw [List.length_take] at hjl
  obtain ⟨b, o, h2, h3, h4, h5⟩ := h1.2 j (by omega)
  rw [List.getElem_take] at he
  have hg : zs.getD j 0 = x := by rw [List.getD_eq_getElem?_getD, List.getElem?_eq_getElem (by omega), he]; rfl
  rw [hg] at h4 h5
  exact ⟨h5, b, o, h2, h3, h4⟩
end MC
end Go.Proofs.Ytjafjjfcmcpaoaa

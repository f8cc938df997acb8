/- What the laws with calls of layer 11 share: calls that came in; the document's Same, of lists that are the same. -/
import Derived.Test.YtieneehpijilpaaLaws11b
import Derived.Test.YtieneehpijilpaaInoFile2
import Derived.Test.YtieneehpijilpaaInoAll
import Derived.Deep.Slices
namespace Go.Proofs.Ytieneehpijilpaa
open Go.ChangeShapes Go.WideShapes Go.ChangeAt Go.RowKit
open Go.ChangeMaps (open_string shut_string)
set_option linter.unusedVariables false
set_option linter.unusedSimpArgs false

/-- A call. -/
abbrev OpT11 := Int × Int × Int × Int × ByteArray
/-- What the walk is told of a slice of calls that came in. -/
def OS11 (w : World) (a : Option Addr) (len cap : Nat) (l : List OpT11) : Prop :=
  len ≤ maxLen ∧ l.length = len ∧ ∀ j (hj : j < l.length), ∃ blk off, a = some ⟨blk, off, none⟩ ∧ blk < w.heap.size ∧ w.cell? ⟨blk, off + j * 5, none⟩ = some (.int .i64 l[j].1) ∧ w.cell? ⟨blk, off + j * 5 + 1, none⟩ = some (.int .i64 l[j].2.1) ∧ w.cell? ⟨blk, off + j * 5 + 2, none⟩ = some (.int .i64 l[j].2.2.1) ∧ w.cell? ⟨blk, off + j * 5 + 3, none⟩ = some (.int .i64 l[j].2.2.2.1) ∧ w.cell? ⟨blk, off + j * 5 + 4, none⟩ = some (.string l[j].2.2.2.2) ∧ -9223372036854775808 ≤ l[j].1 ∧ l[j].1 ≤ 9223372036854775807 ∧ -9223372036854775808 ≤ l[j].2.1 ∧ l[j].2.1 ≤ 9223372036854775807 ∧ -9223372036854775808 ≤ l[j].2.2.1 ∧ l[j].2.2.1 ≤ 9223372036854775807 ∧ -9223372036854775808 ≤ l[j].2.2.2.1 ∧ l[j].2.2.2.1 ≤ 9223372036854775807 ∧ l[j].2.2.2.2.size ≤ maxLen

set_option maxRecDepth 100000 in
theorem open_ops11 {H : Type} {enc : TypeId × Value → H} {W : World} {r : Reach} {b0 : Nat} {v : Value} {d : DataW H} {p : List MemPlace} (hv : Value.okWide Try.prog W r b0 24 v)
    (h : DataW.Trod enc Try.prog W 0 (fun _ => true) true 24 v d p) :
    ∃ (ao : Option Addr) (n cap : Nat) (l : List OpT11), v = .slice ao n cap ∧ OS11 W ao n cap l := by
  obtain ⟨a, len, cap, rfl⟩ := okWide_slice Try.underlying24 hv
  obtain ⟨fuel, hf⟩ := h
  rcases Deep.open_slice Try.underlying24 hf with ⟨e1, -⟩ | ⟨x, len', cap', m, n, D, Pl, e1, hb, hl, hm, hmm, -, hx⟩
  · simp [Value.cells] at e1
    obtain ⟨rfl, rfl, rfl⟩ := e1
    exact ⟨none, 0, 0, [], rfl, Nat.zero_le _, rfl, fun j hj => by simp at hj⟩
  · simp [Value.cells] at e1
    obtain ⟨rfl, rfl, rfl⟩ := e1
    have hlm : len ≤ m := by rw [hmm]; split <;> omega
    have each : ∀ i, i < len → ∃ q : OpT11, W.cell? (x.add (i * 5)) = some (.int .i64 q.1) ∧ W.cell? (x.add (i * 5 + 1)) = some (.int .i64 q.2.1) ∧ W.cell? (x.add (i * 5 + 2)) = some (.int .i64 q.2.2.1) ∧ W.cell? (x.add (i * 5 + 3)) = some (.int .i64 q.2.2.2.1) ∧ W.cell? (x.add (i * 5 + 4)) = some (.string q.2.2.2.2) ∧ -9223372036854775808 ≤ q.1 ∧ q.1 ≤ 9223372036854775807 ∧ -9223372036854775808 ≤ q.2.1 ∧ q.2.1 ≤ 9223372036854775807 ∧ -9223372036854775808 ≤ q.2.2.1 ∧ q.2.2.1 ≤ 9223372036854775807 ∧ -9223372036854775808 ≤ q.2.2.2.1 ∧ q.2.2.2.1 ≤ 9223372036854775807 ∧ q.2.2.2.2.size ≤ maxLen := by
      intro i hi
      obtain ⟨cs', h1, h2⟩ := hx i (by omega)
      rw [show Try.prog.cellsOf 35 = 5 from by kernel_rfl] at h1
      obtain ⟨_, hlen, hcell⟩ := World.cells?_some h1
      obtain ⟨xs, k, hk, hxy, _, hxl, hff⟩ := DataW.trod_struct Try.underlying35 h2
      match xs, hxl, cs', hlen with
      | [y0, y1, y2, y3, y4], _, [v0, v1, v2, v3, v4], _ =>
        have g0 := hff 0 _ rfl
        have g1 := hff 1 _ rfl
        have g2 := hff 2 _ rfl
        have g3 := hff 3 _ rfl
        have g4 := hff 4 _ rfl
        have t0 : Try.prog.cellsOf 3 = 1 := by kernel_rfl
        have t1 : Try.prog.cellsOf 2 = 1 := by kernel_rfl
        have t2 : Try.prog.cellsOf 9 = 1 := by kernel_rfl
        simp [t0, t1, t2] at g0 g1 g2 g3 g4
        have e0 := hcell 0 (by omega)
        have e1 := hcell 1 (by omega)
        have e2 := hcell 2 (by omega)
        have e3 := hcell 3 (by omega)
        have e4 := hcell 4 (by omega)
        rw [Deep.add_add] at e0 e1 e2 e3 e4
        obtain ⟨z0, q0, -, b0⟩ := DataW.trod_int Try.underlying3 g0
        have b0' := bounds_i64 b0
        obtain ⟨z1, q1, -, b1⟩ := DataW.trod_int Try.underlying3 g1
        have b1' := bounds_i64 b1
        obtain ⟨z2, q2, -, b2⟩ := DataW.trod_int Try.underlying2 g2
        have b2' := bounds_i64 b2
        obtain ⟨z3, q3, -, b3⟩ := DataW.trod_int Try.underlying2 g3
        have b3' := bounds_i64 b3
        obtain ⟨z4, q4, -, b4⟩ := DataW.trod_string Try.underlying9 g4
        simp at q0 q1 q2 q3 q4
        subst q0 q1 q2 q3 q4
        exact ⟨(z0, z1, z2, z3, z4), by simpa using e0, by simpa using e1, by simpa using e2, by simpa using e3, by simpa using e4, b0'.1, b0'.2, b1'.1, b1'.2, b2'.1, b2'.2, b3'.1, b3'.2, b4⟩
    have key : ∀ k, k ≤ len → ∃ l : List OpT11, l.length = k ∧ ∀ j (hj : j < l.length), W.cell? (x.add (j * 5)) = some (.int .i64 l[j].1) ∧ W.cell? (x.add (j * 5 + 1)) = some (.int .i64 l[j].2.1) ∧ W.cell? (x.add (j * 5 + 2)) = some (.int .i64 l[j].2.2.1) ∧ W.cell? (x.add (j * 5 + 3)) = some (.int .i64 l[j].2.2.2.1) ∧ W.cell? (x.add (j * 5 + 4)) = some (.string l[j].2.2.2.2) ∧ -9223372036854775808 ≤ l[j].1 ∧ l[j].1 ≤ 9223372036854775807 ∧ -9223372036854775808 ≤ l[j].2.1 ∧ l[j].2.1 ≤ 9223372036854775807 ∧ -9223372036854775808 ≤ l[j].2.2.1 ∧ l[j].2.2.1 ≤ 9223372036854775807 ∧ -9223372036854775808 ≤ l[j].2.2.2.1 ∧ l[j].2.2.2.1 ≤ 9223372036854775807 ∧ l[j].2.2.2.2.size ≤ maxLen := by
      intro k
      induction k with
      | zero => exact fun _ => ⟨[], rfl, fun j hj => by simp at hj⟩
      | succ k ih =>
        intro hk
        obtain ⟨l, h1, h2⟩ := ih (by omega)
        obtain ⟨q, hq⟩ := each k (by omega)
        refine ⟨l ++ [q], by simp [h1], fun j hj => ?_⟩
        by_cases hjl : j < l.length
        · rw [List.getElem_append_left hjl]; exact h2 j hjl
        · have : j = k := by simp at hj; omega
          subst this
          rw [List.getElem_append_right (by omega)]
          simpa [h1] using hq
    obtain ⟨l, h1, h2⟩ := key len (Nat.le_refl _)
    refine ⟨some x, len, cap, l, rfl, Nat.le_trans hl hm, h1, fun j hj => ?_⟩
    obtain ⟨c0, c1, c2, c3, c4, hbn⟩ := h2 j hj
    obtain ⟨b, off, spot⟩ := x
    have h0 := (h2 0 (by omega)).1
    have hs : spot = none := by simpa [Addr.add] using World.cell?_spot h0
    subst hs
    rw [Addr.add_lit] at c0 c1 c2 c3 c4
    exact ⟨b, off, rfl, cell_lt c0, c0, by rw [← Nat.add_assoc] at c1; exact c1, by rw [← Nat.add_assoc] at c2; exact c2, by rw [← Nat.add_assoc] at c3; exact c3, by rw [← Nat.add_assoc] at c4; exact c4, hbn⟩


namespace IN
theorem stat_neq (a b c d e f : Int) (w : World) : (binOp .neq 41 (.agg #[.int .i64 a, .int .i64 b, .int .i64 c, .int .i64 d, .int .i64 e, .int .i64 f]) (.agg #[.int .i64 a, .int .i64 b, .int .i64 c, .int .i64 d, .int .i64 e, .int .i64 f])).run Try.prog w = .ok (.bool false) w := by
  simp [go_sem]
/-- Rows of inodes, by cells. -/
theorem stcl_get : ∀ (l : List (Nat × Nd)) (i : Nat) (hi : i < l.length) (m : Nat), m < 6 → (stcl l)[i * 6 + m]? = (stl (l[i].1 : Int) l[i].2)[m]?
  | [], i, hi, _, _ => by simp at hi
  | x :: r, 0, _, m, hm => by
    simp only [stcl, List.flatMap_cons]
    rw [List.getElem?_append_left (by simp [stl]; omega)]
    simp
  | x :: r, i + 1, hi, m, hm => by
    have ih := stcl_get r i (by simpa using hi) m hm
    simp only [stcl, List.flatMap_cons] at ih ⊢
    rw [List.getElem?_append_right (by simp [stl]; omega)]
    rw [show (i + 1) * 6 + m - (stl (x.1 : Int) x.2).length = i * 6 + m by simp [stl]; omega, ih]
    rfl
theorem own_at {w : World} {base : Nat} {v : Value} {l : List (Nat × Nd)} (h : w.ownsRow base 41 6 v l.length (stcl l)) : ∃ ao cap, v = .slice ao l.length cap ∧ ∀ i (hi : i < l.length), ∃ blk, ao = some ⟨blk, 0, none⟩ ∧ blk < w.heap.size ∧ ∀ m u, (stl (l[i].1 : Int) l[i].2)[m]? = some u → w.cell? ⟨blk, i * 6 + m, none⟩ = some u := by
  rcases h.2 with ⟨rfl, h0⟩ | ⟨g, cap, cur, rfl, hb, hg, h1, h2, h3, h4⟩
  · have hl : l.length = 0 := by have := stcl_len l; rw [h0] at this; simp at this; omega
    skip
    exact ⟨none, 0, by rw [hl], fun i hi => by omega⟩
  · refine ⟨_, cap, rfl, fun i hi => ⟨g, rfl, lt_of_some hg, fun m u hu => ?_⟩⟩
    have hm : m < 6 := by
      rcases Nat.lt_or_ge m 6 with hlt | hge
      · exact hlt
      · rw [List.getElem?_eq_none (by simp [stl]; omega)] at hu; cases hu
    have := h.cells (g := g) rfl (i * 6 + m) u (by rw [stcl_get l i hi m hm]; exact hu)
    rw [Addr.add_lit, Nat.zero_add] at this
    exact this

set_option maxRecDepth 100000 in
set_option maxHeartbeats 4000000 in
theorem Same_yes (v1 v2 : Value) (B1 B2 : Nat) (L : List (Nat × Nd)) (w : World) (hl : L.length ≤ 100000) (h1 : w.ownsRow B1 41 6 v1 L.length (stcl L)) (h2 : w.ownsRow B2 41 6 v2 L.length (stcl L)) :
    Calls Try.prog 13 #[v1, v2] w fun e w' => e = .returned (.bool true) ∧ Below w.heap.size w w' := by
  have hm1 : L.length ≤ maxLen := by unfold maxLen; omega
  obtain ⟨x1, c1, rfl, H1⟩ := own_at h1
  obtain ⟨x2, c2, rfl, H2⟩ := own_at h2
  have H1 := W_hid H1
  have H2 := W_hid H2
  obtain ⟨N, hN⟩ : ∃ N, L.length = N := ⟨_, rfl⟩
  rw [hN] at hl ⊢
  replace hN := W_hid hN
  have he : ((N : Int) != (N : Int)) = false := by simp
  clear h1 h2 hm1
  go_enter Try.func13, Try.ntmps13
  go_wp2
  go_loopw [5] (fun i wr => ∃ k : Nat, k ≤ N ∧ i = .int .i64 k ∧ Below w.heap.size w wr) (fun i _ => N - (intOf i).toNat)
  case atStart => exact ⟨0, Nat.zero_le _, rfl, Below.refl _ _⟩
  case round =>
    obtain ⟨k, hk, rfl, bel⟩ := hrel
    by_cases hlt : k < N
    · have hkl : k < L.length := by rw [hN.out]; exact hlt
      obtain ⟨b1, rfl, hb1, g⟩ := H1.out k hkl
      obtain ⟨b2, rfl, hb2, g'⟩ := H2.out k hkl
      obtain ⟨⟨nj, dj⟩, hx⟩ : ∃ x, L[k] = x := ⟨_, rfl⟩
      rw [hx] at g g'
      have kk : ∀ {b m : Nat} {u : Value}, b < w.heap.size → w.cell? ⟨b, m, none⟩ = some u → wr.cell? ⟨b, m, none⟩ = some u := fun {b m u} hb hc => by rw [bel.cell (p := ⟨b, m, none⟩) hb]; exact hc
      have i0 := kk hb1 (g 0 _ rfl)
      have i1 := kk hb1 (g 1 _ rfl)
      have i2 := kk hb1 (g 2 _ rfl)
      have i3 := kk hb1 (g 3 _ rfl)
      have i4 := kk hb1 (g 4 _ rfl)
      have i5 := kk hb1 (g 5 _ rfl)
      have j0 := kk hb2 (g' 0 _ rfl)
      have j1 := kk hb2 (g' 1 _ rfl)
      have j2 := kk hb2 (g' 2 _ rfl)
      have j3 := kk hb2 (g' 3 _ rfl)
      have j4 := kk hb2 (g' 4 _ rfl)
      have j5 := kk hb2 (g' 5 _ rfl)
      rw [Nat.add_zero] at i0 j0
      have hq := stat_neq (nj : Int) dj.kind dj.links dj.opens dj.size (EM.cnt dj.l : Int)
      clear g g' kk hkl hx
      go_wp2
      go_quiet (fail)
      go_wp2
      go_roundw
      case rel => exact ⟨k + 1, by omega, by go_num, below_drewN bel _⟩
      case measure => simp [intOf]; omega
    · obtain rfl : k = N := by omega
      go_wp2
      go_ret
      exact ⟨rfl, bel⟩
end IN
end Go.Proofs.Ytieneehpijilpaa

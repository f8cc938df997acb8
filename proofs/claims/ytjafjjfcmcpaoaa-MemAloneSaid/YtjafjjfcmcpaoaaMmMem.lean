/- Stage 18: machines in memory. -/
import Derived.Test.YtjafjjfcmcpaoaaMmMath
import Derived.Test.YtjafjjfcmcpaoaaOwn3
import Derived.Test.YtjafjjfcmcpaoaaKeep
namespace Go.Proofs.Ytjafjjfcmcpaoaa
open Go.ChangeShapes Go.WideShapes Go.ChangeAt Go.RowKit
set_option linter.unusedVariables false
set_option linter.unusedSimpArgs false
set_option maxRecDepth 100000
namespace MC
open IN (lt_of_some)

abbrev ptr (b : Nat) : Value := .pointer (some ⟨b, 0, none⟩)
abbrev TM : TypeId := 51
abbrev TT : TypeId := 54
abbrev TD : TypeId := 58
abbrev TU : TypeId := 60
abbrev TX : TypeId := 45
abbrev TI : TypeId := 3
abbrev TC : TypeId := 2
def icl (L : List Int) : List Value := L.map (Value.int .i64)
theorem icl_len (L : List Int) : (icl L).length = L.length := by simp [icl]
theorem icl_app (a b : List Int) : icl (a ++ b) = icl a ++ icl b := by simp [icl]
theorem icl_get (L : List Int) (j : Nat) : (icl L)[j]? = (L[j]?).map (Value.int .i64) := by simp [icl]
theorem icl_set (L : List Int) (j : Nat) (x : Int) : (icl L).set j (.int .i64 x) = icl (L.set j x) := by simp [icl, List.map_set]
theorem icl_one (L : List Int) : ∀ u ∈ icl L, u.oneCell' = true := by
  intro u hu
  obtain ⟨x, -, rfl⟩ := List.mem_map.1 hu
  rfl
def irow (x : In) : List Value := [.int .i64 x.op, .int .i64 x.cell, .int .i64 x.a, .int .i64 x.b, .int .i64 x.t]
def xcl (p : List In) : List Value := (p.map irow).flatten
theorem irows (q : List In) : ∀ x ∈ q.map irow, x.length = 5 := by
  intro x hx
  obtain ⟨y, -, rfl⟩ := List.mem_map.1 hx
  rfl
theorem xcl_len (q : List In) : (xcl q).length = q.length * 5 := by unfold xcl; rw [Own.rows_len (irows q), List.length_map]
theorem xcl_app (a b : List In) : xcl (a ++ b) = xcl a ++ xcl b := by simp [xcl]
theorem xcl_take (q : List In) (k : Nat) : (xcl q).take (k * 5) = xcl (q.take k) := by unfold xcl; rw [Own.rows_take (irows q), List.map_take]
theorem xcl_get (q : List In) (i : Nat) (hi : i < q.length) (m : Nat) (hm : m < 5) : (xcl q)[i * 5 + m]? = (irow q[i])[m]? := by
  unfold xcl; rw [Own.rows_get (irows q) i (by simpa using hi) m hm]; simp
theorem xcl_one (q : List In) : ∀ u ∈ xcl q, u.oneCell' = true := by
  intro u hu
  unfold xcl at hu
  rw [List.mem_flatten] at hu
  obtain ⟨l, hl, hu⟩ := hu
  obtain ⟨x, -, rfl⟩ := List.mem_map.1 hl
  simp only [irow, List.mem_cons, List.not_mem_nil, or_false] at hu
  rcases hu with rfl | rfl | rfl | rfl | rfl <;> rfl
def trow (v : Value) (t : Th) : List Value := v :: (icl t.r ++ [.int .i64 t.pc])
def tcl (L : List (Value × Th)) : List Value := (L.map fun x => trow x.1 x.2).flatten
def R8 (L : List (Value × Th)) : Prop := ∀ x ∈ L, x.2.r.length = 8
theorem trow_len {v : Value} {t : Th} (h : t.r.length = 8) : (trow v t).length = 10 := by simp [trow, icl, h]
theorem trows {q : List (Value × Th)} (h : R8 q) : ∀ x ∈ q.map (fun x => trow x.1 x.2), x.length = 10 := by
  intro x hx
  obtain ⟨y, hy, rfl⟩ := List.mem_map.1 hx
  exact trow_len (h y hy)
theorem tcl_len {q : List (Value × Th)} (h : R8 q) : (tcl q).length = q.length * 10 := by unfold tcl; rw [Own.rows_len (trows h), List.length_map]
theorem tcl_app (a b : List (Value × Th)) : tcl (a ++ b) = tcl a ++ tcl b := by simp [tcl]
theorem tcl_one (x : Value × Th) : tcl [x] = trow x.1 x.2 := by simp [tcl]
theorem tcl_get {q : List (Value × Th)} (h : R8 q) (i : Nat) (hi : i < q.length) (m : Nat) (hm : m < 10) : (tcl q)[i * 10 + m]? = (trow q[i].1 q[i].2)[m]? := by
  unfold tcl; rw [Own.rows_get (trows h) i (by simpa using hi) m hm]; simp
theorem tcl_set {q : List (Value × Th)} (h : R8 q) (i : Nat) (hi : i < q.length) (m : Nat) (u : Value) (hm : m < 10) (x : Value × Th) (hx : (trow q[i].1 q[i].2).set m u = trow x.1 x.2) : (tcl q).set (i * 10 + m) u = tcl (q.set i x) := by
  unfold tcl
  rw [Own.rows_set (trows h) i (by simpa using hi) m u hm, List.getElem_map, hx, List.map_set]
theorem trow_pc {v : Value} {t : Th} (h : t.r.length = 8) (n : Int) : (trow v t).set 9 (.int .i64 n) = trow v ⟨t.p, t.r, n⟩ := by
  unfold trow
  rw [List.set_cons_succ, List.set_append_right _ _ (by rw [icl_len]; omega), icl_len, h]
  rfl
theorem trow_r {v : Value} {t : Th} (h : t.r.length = 8) {k : Nat} (hk : k < 8) (n : Int) : (trow v t).set (1 + k) (.int .i64 n) = trow v ⟨t.p, t.r.set k n, t.pc⟩ := by
  unfold trow
  rw [Nat.add_comm, List.set_cons_succ, List.set_append_left _ _ (by rw [icl_len]; omega), icl_set]
theorem trow_gr {v : Value} {t : Th} (h : t.r.length = 8) {k : Nat} (hk : k < 8) : (trow v t)[1 + k]? = some (.int .i64 (t.r.getD k 0)) := by
  unfold trow
  rw [Nat.add_comm, List.getElem?_cons_succ, List.getElem?_append_left (by rw [icl_len]; omega), icl_get, List.getD_eq_getElem?_getD, List.getElem?_eq_getElem (by omega)]
  rfl
theorem trow_gpc {v : Value} {t : Th} (h : t.r.length = 8) : (trow v t)[9]? = some (.int .i64 t.pc) := by
  unfold trow
  rw [List.getElem?_cons_succ, List.getElem?_append_right (by rw [icl_len]; omega), icl_len, h]
  rfl
theorem tcl_one_cell {q : List (Value × Th)} (h1 : ∀ x ∈ q, x.1.oneCell' = true) : ∀ u ∈ tcl q, u.oneCell' = true := by
  intro u hu
  unfold tcl at hu
  rw [List.mem_flatten] at hu
  obtain ⟨l, hl, hu⟩ := hu
  obtain ⟨x, hx, rfl⟩ := List.mem_map.1 hl
  unfold trow at hu
  rcases List.mem_cons.1 hu with rfl | hu
  · exact h1 x hx
  · rcases List.mem_append.1 hu with hu | hu
    · exact icl_one _ u hu
    · simp only [List.mem_singleton] at hu; subst hu; rfl
theorem info_int : Own.Info Try.prog TI (.int .i64 0) 1 8 := Own.info_of (by kernel_rfl) rfl (by decide)
theorem info_i64 : Own.Info Try.prog TC (.int .i64 0) 1 8 := Own.info_of (by kernel_rfl) rfl (by decide)
theorem info_ins : Own.Info Try.prog TX (.agg #[.int .i64 0, .int .i64 0, .int .i64 0, .int .i64 0, .int .i64 0]) 5 40 := Own.info_of (by kernel_rfl) rfl (by decide)
def zth : Value := .agg #[.slice none 0 0, .int .i64 0, .int .i64 0, .int .i64 0, .int .i64 0, .int .i64 0, .int .i64 0, .int .i64 0, .int .i64 0, .int .i64 0]
theorem zth_len : zth.cells.size = 10 := rfl
theorem info_thr : Own.Info Try.prog TT zth 10 96 := Own.info_of (by kernel_rfl) zth_len (by decide)
theorem info_uth : Own.Info Try.prog TU zth 10 96 := Own.info_of (by kernel_rfl) zth_len (by decide)
theorem und_ints : Try.prog.underlying 23 = some (.slice TI) := by kernel_rfl
theorem und_i64s : Try.prog.underlying 38 = some (.slice TC) := by kernel_rfl
theorem und_inss : Try.prog.underlying 39 = some (.slice TX) := by kernel_rfl
theorem und_thrs : Try.prog.underlying 49 = some (.slice TT) := by kernel_rfl
theorem und_uths : Try.prog.underlying 56 = some (.slice TU) := by kernel_rfl

theorem own_obj {w : World} {base e size n : Nat} {v : Value} {xs : List Value} (h : w.ownsRow base e size v n xs) {k : Nat} (hk : v.ownBlock = some k) : ∃ cur, w.heap[k]? = some (.cells cur e (0, 0)) := by
  rcases h.2 with ⟨rfl, _⟩ | ⟨g, cap, cur, rfl, hb, hg, _⟩
  · cases hk
  · simp only [Value.ownBlock, Option.some.injEq] at hk
    subst hk
    exact ⟨cur, hg⟩
theorem own_move {w w' : World} {base e size n : Nat} {v : Value} {xs : List Value} (h : w.ownsRow base e size v n xs) (hk : ∀ k, v.ownBlock = some k → w'.heap[k]? = w.heap[k]?) : w'.ownsRow base e size v n xs := by
  rcases h.2 with h0 | ⟨g, cap, cur, rfl, hb, hg, h3⟩
  · exact ⟨h.1, .inl h0⟩
  · exact ⟨h.1, .inr ⟨g, cap, cur, rfl, hb, (hk g rfl).trans hg, h3⟩⟩
theorem obj_ne {w : World} {g b : Nat} {e f : TypeId} {x y : Array Value} {p q : Nat × Nat} (h : w.heap[g]? = some (.cells x e p)) (k : w.heap[b]? = some (.cells y f q)) (hef : e ≠ f) : g ≠ b := by
  rintro rfl
  rw [h] at k
  simp only [Option.some.injEq, Obj.cells.injEq] at k
  exact hef k.2.1
/-- The block that a slice points into. -/
def vb : Value → Option Nat
  | .slice (some a) _ _ => some a.block
  | _ => none
theorem src_move {w w' : World} {size m : Nat} {v : Value} {ys : List Value} (h : Own.Src w size v m ys) (hk : ys ≠ [] → ∀ k, vb v = some k → w'.heap[k]? = w.heap[k]?) : Own.Src w' size v m ys := by
  rcases h with h | ⟨ad, c, rfl, h2, h3⟩
  · exact .inl h
  · refine .inr ⟨ad, c, rfl, h2, fun j v hj => ?_⟩
    have e : (ad.add j).block = ad.block := by unfold Addr.add; split <;> rfl
    rw [World.cell?_of_block (w := w) (by rw [e]; exact hk (by rintro rfl; simp at hj) _ rfl)]
    exact h3 j v hj
/-- An instruction, as the walk wants it. -/
theorem src_at {w : World} {v : Value} {p : List In} (h : Own.Src w 5 v p.length (xcl p)) {k : Nat} {x : In} (hx : p[k]? = some x) : ∃ b o c, v = .slice (some ⟨b, o, none⟩) p.length c ∧ b < w.heap.size ∧ k < p.length ∧
    w.cell? ⟨b, o + k * 5, none⟩ = some (.int .i64 x.op) ∧ w.cell? ⟨b, o + k * 5 + 1, none⟩ = some (.int .i64 x.cell) ∧ w.cell? ⟨b, o + k * 5 + 2, none⟩ = some (.int .i64 x.a) ∧ w.cell? ⟨b, o + k * 5 + 3, none⟩ = some (.int .i64 x.b) ∧ w.cell? ⟨b, o + k * 5 + 4, none⟩ = some (.int .i64 x.t) := by
  obtain ⟨hk, rfl⟩ := List.getElem?_eq_some_iff.1 hx
  rcases h with ⟨-, h0, -⟩ | ⟨ad, c, rfl, h2, h3⟩
  · omega
  · have hc : ∀ m u, m < 5 → (irow p[k])[m]? = some u → w.cell? (ad.add (k * 5 + m)) = some u := fun m u hm hu => h3 _ u (by rw [xcl_get p k hk m hm]; exact hu)
    obtain ⟨b, o, spot⟩ := ad
    have hs : spot = none := by
      have := World.cell?_spot (h3 0 (.int .i64 p[0].op) (by have := xcl_get p 0 (by omega) 0 (by omega); rw [Nat.zero_mul] at this; exact this))
      simpa [Addr.add] using this
    subst hs
    have h0 := hc 0 _ (by omega) rfl
    have h1 := hc 1 _ (by omega) rfl
    have h2 := hc 2 _ (by omega) rfl
    have h3 := hc 3 _ (by omega) rfl
    have h4 := hc 4 _ (by omega) rfl
    rw [Addr.add_lit] at h0 h1 h2 h3 h4
    exact ⟨b, o, c, rfl, cell_lt h0, hk, h0, h1, h2, h3, h4⟩

theorem xne {p : List In} (h : xcl p ≠ []) : p ≠ [] := by rintro rfl; exact h rfl
/-- What a call leaves outside of a window of blocks. -/
structure Win (a b : Nat) (w w' : World) : Prop where
  os : w'.os = w.os
  tape : w'.tape = w.tape
  output : w'.output = w.output
  size : w.heap.size ≤ w'.heap.size
  block : ∀ k, k < w.heap.size → (k < a ∨ b ≤ k) → w'.heap[k]? = w.heap[k]?
section
variable {w w' w2 : World} {a b : Nat}
theorem Win.refl (a b : Nat) (w : World) : Win a b w w := ⟨rfl, rfl, rfl, Nat.le_refl _, fun _ _ _ => rfl⟩
theorem Win.trans (h : Win a b w w') (k : Win a b w' w2) : Win a b w w2 :=
  ⟨k.os.trans h.os, k.tape.trans h.tape, k.output.trans h.output, Nat.le_trans h.size k.size, fun i hi hab => (k.block i (Nat.lt_of_lt_of_le hi h.size) hab).trans (h.block i hi hab)⟩
theorem Win.of (h : Below w.heap.size w w') : Win a b w w' := ⟨h.os, h.tape, h.output, h.size, fun k hk _ => h.block k hk⟩
theorem Win.below {B : Nat} (h : Win a b w w') (hB : B ≤ w.heap.size) (ha : B ≤ a) : Below B w w' := ⟨h.os, h.tape, h.output, h.size, fun k hk => h.block k (by omega) (.inl (by omega))⟩
theorem Win.two {g d : Nat} (h : Two g d w w') (hg : a ≤ g ∧ g < b) (hd : a ≤ d ∧ d < b) : Win a b w w' := ⟨h.os, h.tape, h.output, h.size, fun k hk hab => h.block k hk (by omega) (by omega)⟩
theorem Win.set (h : Win a b w w') {p : Addr} (hp : a ≤ p.block ∧ p.block < b) (u : Value) : Win a b w (w'.setCell p u) :=
  h.trans ⟨rfl, rfl, rfl, by simp [World.setCell], fun k hk hab => Below.heap_setCell _ _ _ _ (by omega)⟩
theorem Win.grown {row : Option Nat} (h : w.grownBy w' row) (hr : ∀ k, row = some k → a ≤ k ∧ k < b) : Win a b w w' := ⟨h.os, h.tape, h.output, h.size, fun k hk hab => h.block k hk (by rintro rfl; have := hr k rfl; omega)⟩
theorem Win.undrew (h : Win a b w.drew w') : Win a b w w' := ⟨h.os, h.tape, h.output, h.size, h.block⟩
theorem Win.drew (h : Win a b w w') : Win a b w w'.drew := ⟨h.os, h.tape, h.output, h.size, h.block⟩
theorem Win.drewN (h : Win a b w w') (n : Nat) : Win a b w (w'.drewN n) := ⟨h.os, h.tape, h.output, h.size, h.block⟩
end

/-- The cells and the threads of a machine: its blocks lie from a on, ahead of b, its programs there or ahead of lo. -/
structure Raw (e : TypeId) (lo a b : Nat) (w : World) (gc : Nat) (vt : Value) (c : List Int) (L : List (Value × Th)) : Prop where
  cel : Blk w gc TC (icl c)
  thr : w.ownsRow a e 10 vt L.length (tcl L)
  gc1 : a ≤ gc
  gc2 : gc < b
  thb : ∀ k, vt.ownBlock = some k → k < b
  prg : ∀ x ∈ L, Own.Src w 5 x.1 x.2.p.length (xcl x.2.p)
  far : ∀ x ∈ L, x.2.p ≠ [] → ∀ k, vb x.1 = some k → k < lo ∨ (a ≤ k ∧ k < b ∧ ∃ arr, w.heap[k]? = some (.cells arr TX (0, 0)))
  lo : lo ≤ a
  top : b ≤ w.heap.size
  r8 : R8 L
section
variable {e : TypeId} {lo a b : Nat} {w w' : World} {gc : Nat} {vt : Value} {c : List Int} {L : List (Value × Th)}
theorem Raw.moved (h : Raw e lo a b w gc vt c L) (hs : w.heap.size ≤ w'.heap.size) (hk : ∀ k, k < lo ∨ (a ≤ k ∧ k < b) → w'.heap[k]? = w.heap[k]?) : Raw e lo a b w' gc vt c L :=
  ⟨(hk gc (.inr ⟨h.gc1, h.gc2⟩)).trans h.cel, own_move h.thr fun k hv => hk k (.inr ⟨Own.ge h.thr k hv, h.thb k hv⟩), h.gc1, h.gc2, h.thb,
   fun x hx => src_move (h.prg x hx) fun hn k hv => hk k ((h.far x hx (xne hn) k hv).elim .inl fun h1 => .inr ⟨h1.1, h1.2.1⟩),
   fun x hx hn k hv => by
    rcases h.far x hx hn k hv with h1 | ⟨h1, h2, arr, h3⟩
    · exact .inl h1
    · exact .inr ⟨h1, h2, arr, (hk k (.inr ⟨h1, h2⟩)).trans h3⟩,
   h.lo, Nat.le_trans h.top hs, h.r8⟩
theorem Raw.keep (h : Raw e lo a b w gc vt c L) (hb : Below w.heap.size w w') : Raw e lo a b w' gc vt c L :=
  h.moved hb.size fun k hk => hb.block k (by have := h.top; have := h.lo; have := h.gc1; have := h.gc2; omega)
theorem Raw.drewN (h : Raw e lo a b w gc vt c L) (n : Nat) : Raw e lo a b (w.drewN n) gc vt c L := h.moved (Nat.le_refl _) fun _ _ => rfl
/-- A thread's cells. -/
structure TCell (w : World) (g o : Nat) (v : Value) (t : Th) : Prop where
  p : w.cell? ⟨g, o, none⟩ = some v
  r : ∀ k, k < 8 → w.cell? ⟨g, o + 1 + k, none⟩ = some (.int .i64 (t.r.getD k 0))
  pc : w.cell? ⟨g, o + 9, none⟩ = some (.int .i64 t.pc)
  fz : ∀ j, w.frozen? ⟨g, j, none⟩ = false
  lt : g < w.heap.size
theorem Raw.opened (h : Raw e lo a b w gc vt c L) {i : Nat} {v : Value} {t : Th} (hi : L[i]? = some (v, t)) : ∃ g cap, vt = .slice (some ⟨g, 0, none⟩) L.length cap ∧ L.length ≤ cap ∧ cap ≤ 9223372036854775807 ∧ i < L.length ∧ a ≤ g ∧ g < b ∧ TCell w g (i * 10) v t := by
  obtain ⟨hl, he⟩ := List.getElem?_eq_some_iff.1 hi
  have hr := h.thr
  have hb := h.thb
  rcases hr.2 with ⟨rfl, h0⟩ | ⟨g, cap, cur, rfl, hb1, hg, h1, h2, h3, h4⟩
  · omega
  · have h8 : t.r.length = 8 := by have := h.r8 _ (List.getElem_mem hl); rwa [he] at this
    have hc : ∀ m u, m < 10 → (trow v t)[m]? = some u → w.cell? ⟨g, i * 10 + m, none⟩ = some u := fun m u hm hu => by
      have := hr.cells (g := g) rfl (i * 10 + m) u (by rw [tcl_get h.r8 i hl m hm, he]; exact hu)
      rw [Addr.add_lit, Nat.zero_add] at this
      exact this
    refine ⟨g, cap, rfl, h1, by unfold maxLen at h2; omega, hl, hb1, hb g rfl, ?_, fun k hk => ?_, hc 9 _ (by omega) (trow_gpc h8), fun j => hr.frozenAt j, lt_of_some hg⟩
    · have := hc 0 _ (by omega) rfl
      rwa [Nat.add_zero] at this
    · have := hc (1 + k) _ (by omega) (trow_gr h8 hk)
      rwa [← Nat.add_assoc] at this
/-- The thread's block is none of the others. -/
theorem Raw.ne (h : Raw e lo a b w gc vt c L) (he : e ≠ TC) {g : Nat} (hg : vt.ownBlock = some g) : g ≠ gc := by
  obtain ⟨cur, hc⟩ := own_obj h.thr hg
  exact obj_ne hc h.cel he
/-- A store into a thread. -/
theorem Raw.setT {g cap n : Nat} (h : Raw e lo a b w gc (.slice (some ⟨g, 0, none⟩) n cap) c L) (hn : L.length = n) (he : e ≠ TC) (hX : e ≠ TX) {i : Nat} {v : Value} {t u : Th} (hi : L[i]? = some (v, t)) (m : Nat) (x : Value) (hm : m < 10) (hx : (trow v t).set m x = trow v u) (h8 : u.r.length = 8) (hp : u.p = t.p) :
    Raw e lo a b (w.setCell ⟨g, i * 10 + m, none⟩ x) gc (.slice (some ⟨g, 0, none⟩) n cap) c (L.set i (v, u)) := by
  subst hn
  obtain ⟨hl, heq⟩ := List.getElem?_eq_some_iff.1 hi
  have hne := h.ne he (g := g) rfl
  obtain ⟨cur, hc⟩ := own_obj h.thr (k := g) rfl
  have hge := Own.ge h.thr g rfl
  have hs := (h.thr.stored (i * 10 + m) x).1
  rw [tcl_set h.r8 i hl m x hm (v, u) (by rw [heq]; exact hx)] at hs
  have mem : ∀ y ∈ L.set i (v, u), ∃ z ∈ L, z.1 = y.1 ∧ z.2.p = y.2.p ∧ y.2.r.length = 8 := fun y hy => by
    rcases List.mem_or_eq_of_mem_set hy with hy | rfl
    · exact ⟨y, hy, rfl, rfl, h.r8 y hy⟩
    · exact ⟨_, List.getElem_mem hl, by rw [heq], by rw [heq]; exact hp.symm, h8⟩
  have hgn : ∀ y ∈ L, y.2.p ≠ [] → ∀ k, vb y.1 = some k → k ≠ g := fun y hy hn k hk => by
    rcases h.far y hy hn k hk with h1 | ⟨-, -, arr, h3⟩
    · have := h.lo; omega
    · exact fun e2 => obj_ne hc h3 hX e2.symm
  refine ⟨h.cel.far (p := ⟨g, i * 10 + m, none⟩) (fun e2 => hne e2.symm) x, by rw [List.length_set]; exact hs, h.gc1, h.gc2, h.thb, fun y hy => ?_, fun y hy hn k hk => ?_, h.lo, by simpa [World.setCell] using h.top, fun y hy => ?_⟩
  · obtain ⟨z, hz, e1, e2, -⟩ := mem y hy
    rw [← e1, ← e2]
    exact src_move (h.prg z hz) fun hn k hk => Below.heap_setCell w ⟨g, i * 10 + m, none⟩ x k (hgn z hz (xne hn) k hk)
  · obtain ⟨z, hz, e1, e2, -⟩ := mem y hy
    rw [← e1] at hk
    rw [← e2] at hn
    rcases h.far z hz hn k hk with h1 | ⟨h1, h2, arr, h3⟩
    · exact .inl h1
    · exact .inr ⟨h1, h2, arr, (Below.heap_setCell w ⟨g, i * 10 + m, none⟩ x k (hgn z hz hn k hk)).trans h3⟩
  · exact (mem y hy).choose_spec.2.2.2
/-- A store into a cell. -/
theorem Raw.setC (h : Raw e lo a b w gc vt c L) (he : e ≠ TC) (j : Nat) (x : Int) : Raw e lo a b (w.setCell ⟨gc, j, none⟩ (.int .i64 x)) gc vt (c.set j x) L := by
  have hgn : ∀ y ∈ L, y.2.p ≠ [] → ∀ k, vb y.1 = some k → k ≠ gc := fun y hy hn k hk => by
    rcases h.far y hy hn k hk with h1 | ⟨-, -, arr, h3⟩
    · have := h.lo; have := h.gc1; omega
    · exact fun e2 => obj_ne h.cel h3 (by decide) e2.symm
  refine ⟨by have := h.cel.set j (.int .i64 x); rwa [icl_set] at this, own_move h.thr fun k hk => Below.heap_setCell w ⟨gc, j, none⟩ _ k (h.ne he hk), h.gc1, h.gc2, h.thb, fun y hy => src_move (h.prg y hy) fun hn k hk => Below.heap_setCell w ⟨gc, j, none⟩ _ k (hgn y hy (xne hn) k hk), fun y hy hn k hk => ?_, h.lo, by simpa [World.setCell] using h.top, h.r8⟩
  rcases h.far y hy hn k hk with h1 | ⟨h1, h2, arr, h3⟩
  · exact .inl h1
  · exact .inr ⟨h1, h2, arr, (Below.heap_setCell w ⟨gc, j, none⟩ _ k (hgn y hy hn k hk)).trans h3⟩
end
end MC
end Go.Proofs.Ytjafjjfcmcpaoaa

/- The document's queue in memory; its at, level, off, last. -/
import Derived.Test.YtmikgkelmdgckaaSchList
import Derived.Test.YtmikgkelmdgckaaSchJoin
import Derived.Deep.RegionLaw
namespace Go.Proofs.Ytmikgkelmdgckaa
open Go.ChangeShapes Go.WideShapes Go.ChangeAt Go.RowKit
set_option linter.unusedVariables false
set_option linter.unusedSimpArgs false
set_option maxRecDepth 100000
namespace SD
open IN (Keeps lt_of_some)

abbrev DQ : TypeId := 32
abbrev DP : TypeId := 37
abbrev DPs : TypeId := 29
def drow (x : Pr) : List Value := [.int .i64 x.pid, .int .i64 x.nice, .bool x.on, .float .f64 x.load]
def dcl (P : List Pr) : List Value := (P.map drow).flatten
theorem drows (q : List Pr) : ∀ x ∈ q.map drow, x.length = 4 := by
  intro x hx
  obtain ⟨y, -, rfl⟩ := List.mem_map.1 hx
  rfl
theorem dcl_len (q : List Pr) : (dcl q).length = q.length * 4 := by unfold dcl; rw [Own.rows_len (drows q), List.length_map]
theorem dcl_app (a b : List Pr) : dcl (a ++ b) = dcl a ++ dcl b := by simp [dcl]
theorem dcl_one (x : Pr) : dcl [x] = drow x := by simp [dcl]
theorem dcl_take (q : List Pr) (k : Nat) : (dcl q).take (k * 4) = dcl (q.take k) := by unfold dcl; rw [Own.rows_take (drows q), List.map_take]
theorem dcl_drop (q : List Pr) (k : Nat) : (dcl q).drop (k * 4) = dcl (q.drop k) := by unfold dcl; rw [Own.rows_drop (drows q), List.map_drop]
theorem dcl_get (q : List Pr) (i : Nat) (hi : i < q.length) (m : Nat) (hm : m < 4) : (dcl q)[i * 4 + m]? = (drow q[i])[m]? := by
  unfold dcl; rw [Own.rows_get (drows q) i (by simpa using hi) m hm]; simp
theorem dcl_set (q : List Pr) (i : Nat) (hi : i < q.length) (m : Nat) (u : Value) (hm : m < 4) (x : Pr) (hx : (drow q[i]).set m u = drow x) : (dcl q).set (i * 4 + m) u = dcl (q.set i x) := by
  unfold dcl
  rw [Own.rows_set (drows q) i (by simpa using hi) m u hm, List.getElem_map, hx, List.map_set]
theorem drow_one (x : Pr) : ∀ u ∈ drow x, u.oneCell' = true := by
  intro u hu
  simp only [drow, List.mem_cons, List.not_mem_nil, or_false] at hu
  rcases hu with rfl | rfl | rfl | rfl <;> rfl
theorem dcl_one_cell (q : List Pr) : ∀ u ∈ dcl q, u.oneCell' = true := by
  intro u hu
  unfold dcl at hu
  rw [List.mem_flatten] at hu
  obtain ⟨l, hl, hu⟩ := hu
  obtain ⟨x, -, rfl⟩ := List.mem_map.1 hl
  exact drow_one x u hu
theorem info_drow : Own.Info Try.prog DP (.agg #[.int .i64 0, .int .i64 0, .bool false, .float .f64 0]) 4 32 := Own.info_of (by kernel_rfl) rfl (by decide)
theorem und_drows : Try.prog.underlying DPs = some (.slice DP) := by kernel_rfl
theorem elem_drows : Try.prog.elem DPs = DP := by kernel_rfl

structure DM (base : Nat) (w : World) (rb : Nat) (vp vl : Value) (P : List Pr) (L : List Int) : Prop where
  box : Blk w rb DQ [vp, vl]
  row : w.ownsRow base DP 4 vp P.length (dcl P)
  lst : w.ownsRow base TI 1 vl L.length (icl L)
  ge : base ≤ rb
def DX (rb : Nat) (vp vl : Value) (k : Nat) : Prop := k = rb ∨ vp.ownBlock = some k ∨ vl.ownBlock = some k
section
variable {base : Nat} {w w' : World} {rb : Nat} {vp vl : Value} {P : List Pr} {L : List Int}
theorem DM.base_le (h : DM base w rb vp vl P L) : base ≤ w.heap.size := Nat.le_trans h.ge (Nat.le_of_lt h.box.lt)
theorem DM.tlt (h : DM base w rb vp vl P L) : ∀ k, DX rb vp vl k → k < w.heap.size := by
  rintro k (rfl | hk | hk)
  · exact h.box.lt
  · obtain ⟨cur, hc⟩ := own_obj h.row hk
    exact lt_of_some hc
  · obtain ⟨cur, hc⟩ := own_obj h.lst hk
    exact lt_of_some hc
theorem DM.low (h : DM base w rb vp vl P L) : ∀ k, DX rb vp vl k → base ≤ k := by
  rintro k (rfl | hk | hk)
  · exact h.ge
  · exact Own.ge h.row k hk
  · exact Own.ge h.lst k hk
theorem DM.moved (h : DM base w rb vp vl P L) (hk : ∀ k, DX rb vp vl k → w'.heap[k]? = w.heap[k]?) : DM base w' rb vp vl P L :=
  ⟨(hk rb (.inl rfl)).trans h.box, own_move h.row fun k hv => hk k (.inr (.inl hv)), own_move h.lst fun k hv => hk k (.inr (.inr hv)), h.ge⟩
theorem DM.keep (h : DM base w rb vp vl P L) (hb : Below w.heap.size w w') : DM base w' rb vp vl P L := h.moved fun k hk => hb.block k (h.tlt k hk)
theorem DM.drewN (h : DM base w rb vp vl P L) (n : Nat) : DM base (w.drewN n) rb vp vl P L := h.moved fun _ _ => rfl
theorem DM.keeps (h : DM base w rb vp vl P L) {C : Nat} {Y : Nat → Prop} (hK : Keeps C (fun k _ => Y k) w w') (hY : ∀ k, DX rb vp vl k → ¬ Y k) : DM base w' rb vp vl P L :=
  h.moved fun k hk => by
    have hlt := h.tlt k hk
    obtain ⟨o, ho⟩ : ∃ o, w.heap[k]? = some o := ⟨_, Array.getElem?_eq_getElem hlt⟩
    rw [ho, hK.block k o ho (hY k hk)]
theorem DM.pr (h : DM base w rb vp vl P L) {g : Nat} (hg : vp.ownBlock = some g) : g ≠ rb ∧ vl.ownBlock ≠ some g := by
  obtain ⟨cur, hc⟩ := own_obj h.row hg
  refine ⟨obj_ne hc h.box (by decide), fun e => ?_⟩
  obtain ⟨cur2, hc2⟩ := own_obj h.lst e
  exact obj_ne hc hc2 (by decide) rfl
theorem DM.lr (h : DM base w rb vp vl P L) {g : Nat} (hg : vl.ownBlock = some g) : g ≠ rb ∧ vp.ownBlock ≠ some g := by
  obtain ⟨cur, hc⟩ := own_obj h.lst hg
  exact ⟨obj_ne hc h.box (by decide), fun e => (h.pr e).2 hg⟩
/-- An element, as the walk wants it. -/
theorem DM.opened (h : DM base w rb vp vl P L) {p : Nat} (hp : p < P.length) : ∃ g n cap, vp = .slice (some ⟨g, 0, none⟩) n cap ∧ P.length = n ∧ (p : Int) < (n : Int) ∧ n ≤ cap ∧ cap ≤ 9223372036854775807 ∧ base ≤ g ∧ g ≠ rb ∧ g < w.heap.size ∧ rb < w.heap.size ∧ (∀ j, w.frozen? ⟨g, j, none⟩ = false) ∧ (∀ j, w.frozen? ⟨rb, j, none⟩ = false) ∧
    w.cell? ⟨rb, 0, none⟩ = some (.slice (some ⟨g, 0, none⟩) n cap) ∧
    w.cell? ⟨g, p * 4, none⟩ = some (.int .i64 P[p].pid) ∧ w.cell? ⟨g, p * 4 + 1, none⟩ = some (.int .i64 P[p].nice) ∧ w.cell? ⟨g, p * 4 + 2, none⟩ = some (.bool P[p].on) ∧ w.cell? ⟨g, p * 4 + 3, none⟩ = some (.float .f64 P[p].load) := by
  have hr := h.row
  rcases hr.2 with ⟨rfl, h0⟩ | ⟨g, cap, cur, rfl, hb, hg, h1, h2, h3, h4⟩
  · omega
  · have hc : ∀ m u, m < 4 → (drow P[p])[m]? = some u → w.cell? ⟨g, p * 4 + m, none⟩ = some u := fun m u hm hu => by
      have := hr.cells (g := g) rfl (p * 4 + m) u (by rw [dcl_get P p hp m hm]; exact hu)
      rw [Addr.add_lit, Nat.zero_add] at this
      exact this
    exact ⟨g, _, cap, rfl, rfl, by omega, h1, h2, hb, (h.pr rfl).1, lt_of_some hg, h.box.lt, fun j => hr.frozenAt j, h.box.fz, h.box.cell rfl, by have := hc 0 _ (by omega) rfl; rwa [Nat.add_zero] at this, hc 1 _ (by omega) rfl, hc 2 _ (by omega) rfl, hc 3 _ (by omega) rfl⟩
/-- A store into an element. -/
theorem DM.set {g cap n : Nat} (h : DM base w rb (.slice (some ⟨g, 0, none⟩) n cap) vl P L) (hn : P.length = n) {i : Nat} (hi : i < P.length) (m : Nat) (u : Value) (hm : m < 4) (x : Pr) (hx : (drow P[i]).set m u = drow x) :
    DM base (w.setCell ⟨g, i * 4 + m, none⟩ u) rb (.slice (some ⟨g, 0, none⟩) n cap) vl (P.set i x) L ∧ Keeps base (fun k _ => DX rb (.slice (some ⟨g, 0, none⟩) n cap) vl k) w (w.setCell ⟨g, i * 4 + m, none⟩ u) := by
  subst hn
  obtain ⟨h1, h2⟩ := h.pr (g := g) rfl
  have hs := (h.row.stored (i * 4 + m) u).1
  rw [dcl_set P i hi m u hm x hx] at hs
  refine ⟨⟨h.box.far (p := ⟨g, i * 4 + m, none⟩) (fun e => h1 e.symm) u, by rw [List.length_set]; exact hs, own_move h.lst fun b hb => Below.heap_setCell w ⟨g, i * 4 + m, none⟩ u b (fun e => h2 (by rw [hb, e])), h.ge⟩, ?_⟩
  obtain ⟨cur, hc⟩ := own_obj h.row (k := g) rfl
  exact (Keeps.refl base _ w).setCell (p := ⟨g, i * 4 + m, none⟩) hc (.inr (.inl rfl)) (Own.ge h.row g rfl) u
/-- Another row. -/
theorem DM.newRow {w1 : World} (h : DM base w rb vp vl P L) (hb : Below w.heap.size w w1) {v' : Value} {P' : List Pr} (ho : w1.ownsRow w.heap.size DP 4 v' P'.length (dcl P')) :
    DM base (w1.setCell ⟨rb, 0, none⟩ v') rb v' vl P' L ∧ Keeps base (fun k _ => DX rb vp vl k) w (w1.setCell ⟨rb, 0, none⟩ v') ∧ ∀ k, DX rb v' vl k → DX rb vp vl k ∨ w.heap.size ≤ k := by
  have h1 := h.keep hb
  have hlt := h.box.lt
  refine ⟨⟨h1.box.set 0 v', Own.low h.base_le (Own.set ho (p := ⟨rb, 0, none⟩) hlt v'), own_move h1.lst fun b hb' => Below.heap_setCell w1 ⟨rb, 0, none⟩ v' b (h1.lr hb').1, h.ge⟩, ?_, ?_⟩
  · exact (Keeps.new hb h.base_le).trans ((Keeps.refl base _ w1).setCell (p := ⟨rb, 0, none⟩) h1.box (.inl rfl) h.ge v')
  · rintro k (rfl | hk | hk)
    · exact .inl (.inl rfl)
    · exact .inr (Own.ge ho k hk)
    · exact .inl (.inr (.inr hk))
/-- Another list. -/
theorem DM.newList (h : DM base w rb vp vl P L) {w1 : World} (hg : w.grownBy w1 vl.ownBlock) {v' : Value} {L' : List Int} (ho : w1.ownsRow base TI 1 v' L'.length (icl L')) (hv : ∀ b, v'.ownBlock = some b → vl.ownBlock = some b ∨ w.heap.size ≤ b) :
    DM base (w1.setCell ⟨rb, 1, none⟩ v') rb vp v' P L' ∧ Keeps base (fun k _ => DX rb vp vl k) w (w1.setCell ⟨rb, 1, none⟩ v') ∧ ∀ k, DX rb vp v' k → DX rb vp vl k ∨ w.heap.size ≤ k := by
  have hq1 : vl.ownBlock ≠ some rb := fun e => (h.lr e).1 rfl
  have hb1 : Blk w1 rb DQ [vp, vl] := h.box.grown hg (fun e => hq1 e.symm)
  have old : ∀ b, b < w.heap.size → v'.ownBlock = some b → vl.ownBlock = some b := fun b hb e => (hv b e).resolve_right (by omega)
  have hqv : v'.ownBlock ≠ some rb := fun e => hq1 (old _ h.box.lt e)
  have far : ∀ {b : Nat}, b ≠ rb → (w1.setCell ⟨rb, 1, none⟩ v').heap[b]? = w1.heap[b]? := fun {b} hb => Below.heap_setCell w1 ⟨rb, 1, none⟩ v' b hb
  refine ⟨⟨hb1.set 1 v', own_move h.row fun b hb => ?_, own_move ho fun b hb => far (fun e => hqv (e ▸ hb)), h.ge⟩, ?_, ?_⟩
  · obtain ⟨cur, hc⟩ := own_obj h.row hb
    rw [far (h.pr hb).1, hg.block b (lt_of_some hc) (fun e => (h.pr hb).2 e.symm)]
  · have k1 : Keeps base (fun k _ => DX rb vp vl k) w w1 := by
      cases hvr : vl.ownBlock with
      | none =>
        rw [hvr] at hg
        exact ⟨hg.os, hg.tape, hg.output, hg.size, fun k hk => hg.block k (Nat.lt_of_lt_of_le hk h.base_le) (by simp), fun k o ho' _ => (hg.block k (lt_of_some ho') (by simp)).trans ho'⟩
      | some b =>
        rw [hvr] at hg
        obtain ⟨cur, hc⟩ := own_obj h.lst hvr
        exact (Keeps.refl base _ w).grown hc (.inr (.inr hvr)) (Own.ge h.lst b hvr) hg
    exact k1.setCell (p := ⟨rb, 1, none⟩) hb1 (.inl rfl) h.ge v'
  · rintro k (rfl | hk | hk)
    · exact .inl (.inl rfl)
    · exact .inl (.inr (.inl hk))
    · rcases Nat.lt_or_ge k w.heap.size with hlt | hge
      · exact .inl (.inr (.inr (old k hlt hk)))
      · exact .inr hge
end
/-- The document's queue, with the blocks that it is. -/
def DW (base : Nat) (w : World) (rb : Nat) (S : Qs) (Y : Nat → Prop) : Prop := ∃ vp vl, DM base w rb vp vl S.P S.L ∧ ∀ k, Y k ↔ DX rb vp vl k
def DO (base : Nat) (w : World) (rb : Nat) (S : Qs) (Y : Nat → Prop) (w' : World) : Prop := ∃ Y', DW base w' rb S Y' ∧ Keeps base (fun k _ => Y k) w w' ∧ ∀ k, Y' k → Y k ∨ w.heap.size ≤ k
section
variable {base : Nat} {w w' : World} {rb : Nat} {S : Qs} {Y : Nat → Prop}
theorem DW.lt (h : DW base w rb S Y) : ∀ k, Y k → k < w.heap.size := by
  obtain ⟨vp, vl, h1, h2⟩ := h
  exact fun k hk => h1.tlt k ((h2 k).1 hk)
theorem DW.base_le (h : DW base w rb S Y) : base ≤ w.heap.size := by
  obtain ⟨vp, vl, h1, h2⟩ := h
  exact h1.base_le
theorem DW.keeps (h : DW base w rb S Y) {C : Nat} {X : Nat → Prop} (hK : Keeps C (fun k _ => X k) w w') (hX : ∀ k, Y k → ¬ X k) : DW base w' rb S Y := by
  obtain ⟨vp, vl, h1, h2⟩ := h
  exact ⟨vp, vl, h1.keeps hK fun k hk => hX k ((h2 k).2 hk), h2⟩
theorem DW.keep (h : DW base w rb S Y) (hb : Below w.heap.size w w') : DW base w' rb S Y := by
  obtain ⟨vp, vl, h1, h2⟩ := h
  exact ⟨vp, vl, h1.keep hb, h2⟩
theorem DW.same (h : DW base w rb S Y) (hb : Below w.heap.size w w') : DO base w rb S Y w' :=
  ⟨Y, h.keep hb, Keeps.new hb h.base_le, fun k hk => .inl hk⟩
end
theorem DO.of {base : Nat} {w w' : World} {rb : Nat} {vp vp' vl vl' : Value} {S' : Qs} {Y : Nat → Prop} (hY : ∀ k, Y k ↔ DX rb vp vl k) (h : DM base w' rb vp' vl' S'.P S'.L) (hK : Keeps base (fun k _ => DX rb vp vl k) w w') (hn : ∀ k, DX rb vp' vl' k → DX rb vp vl k ∨ w.heap.size ≤ k) : DO base w rb S' Y w' :=
  ⟨_, ⟨vp', vl', h, fun k => Iff.rfl⟩, keeps_iff hK fun k hk => (hY k).2 hk, fun k hk => (hn k hk).imp_left (hY k).2⟩
end SD
end Go.Proofs.Ytmikgkelmdgckaa

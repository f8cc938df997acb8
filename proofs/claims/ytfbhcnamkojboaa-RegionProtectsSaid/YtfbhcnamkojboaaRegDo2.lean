/- What goes over the iterators: gather, covers. -/
import Derived.Test.YtfbhcnamkojboaaRegDo
import Derived.Maps.OwnIn
namespace Go.Proofs.Ytfbhcnamkojboaa
open Go.ChangeShapes Go.WideShapes Go.ChangeAt Go.RowKit Go.Shelf
open SQ
set_option linter.unusedVariables false
set_option linter.unusedSimpArgs false
attribute [local go_sem] Oper.semAt_some
open RG (Rg)

/-- A call gives a list in a row of its own. -/
def GvL (f : FuncId) (args : Array Value) (L : List Rg) (w : World) : Prop :=
  Calls Try.prog f args w fun e w' => ∃ v, e = .returned v ∧ w'.ownsRow w.heap.size 25 4 v L.length (rcl L) ∧ Below w.heap.size w w'
theorem info_reg : (Try.prog.info? 25).map (fun i => (i.zero, i.size, i.bytes)) = some (some (.agg #[.int .u64 0, .int .u64 0, .int .i64 0, .int .i64 0]), 4, 32) := by kernel_rfl
theorem own_of {w w' : World} {base e size n : Nat} {v : Value} {xs : List Value} (h : w.ownsRow base e size v n xs) (hb : ∀ g, v.ownBlock = some g → w'.heap[g]? = w.heap[g]?) : w'.ownsRow base e size v n xs := by
  rcases h.2 with h0 | ⟨g, cap, cur, h1, h2, h3, h4⟩
  · exact ⟨h.1, .inl h0⟩
  · exact ⟨h.1, .inr ⟨g, cap, cur, h1, h2, (hb g (by rw [h1]; rfl)).trans h3, h4⟩⟩
theorem gown_cells {w : World} {base e size n : Nat} {v : Value} {xs : List Value} (h : w.ownsRow base e size v n xs) : ∀ g, v.ownBlock = some g → Cells w g ∧ base ≤ g := fun g hg => by
  rcases h.2 with ⟨h0, _⟩ | ⟨g', cap, cur, h1, h2, h3, h4⟩
  · rw [h0] at hg; cases hg
  · rw [h1] at hg
    cases hg
    exact ⟨⟨_, h3, rfl⟩, h2⟩
/-- The variable out in cell q and its row. -/
def OutB (q base : Nat) (L : List Rg) (V : World) : Prop := ∃ v, Blk V q 22 [v] ∧ V.ownsRow base 25 4 v L.length (rcl L)
theorem OutB.rw {q base : Nat} {L : List Rg} {V : World} (h : OutB q base L V) : Rw q V := by
  obtain ⟨v, h1, h2⟩ := h
  exact ⟨cells_blk h1, fun g hg => by rw [rowOf_blk h1] at hg; exact (gown_cells h2 g hg).1⟩
theorem OutB.own {q base : Nat} {L : List Rg} {V V' : World} {row : Option Nat} (h : OutB q base L V) (hg : V.grownBy V' row) (hr : ∀ r, row = some r → r ≠ q ∧ some r ≠ rowOf V q) : OutB q base L V' := by
  obtain ⟨v, h1, h2⟩ := h
  refine ⟨v, (hg.block q h1.lt (fun e => (hr q e.symm).1 rfl)).trans h1, own_of h2 (fun g hg' => hg.block g (gown_cells h2 g hg').1.lt (fun e => (hr g e.symm).2 (by rw [rowOf_blk h1, hg'])))⟩

/-- A region more. -/
theorem OutB.appended {q base n : Nat} {L : List Rg} {V w1 : World} {v v' : Value} {tmp : Obj} {r : Rg} (hv : Blk V q 22 [v]) (hrow : V.ownsRow base 25 4 v L.length (rcl L)) (hown' : w1.ownsRow base 25 4 v' (L.length + 1) (rcl L ++ rv r))
    (hgrow : (V.alloc tmp).grownBy w1 v.ownBlock) (hat : v'.ownBlock = v.ownBlock ∨ v'.ownBlock = some (V.alloc tmp).heap.size) (hq : q < base) (hn : n ≤ V.heap.size) :
    OutB q base (L ++ [r]) (w1.setCell ⟨q, 0, none⟩ v') ∧ Kq n q V (w1.setCell ⟨q, 0, none⟩ v') ∧ Blk w1 q 22 [v] := by
  have hne : some q ≠ v.ownBlock := fun e => by have := (gown_cells hrow q e.symm).2; omega
  have hv1 : Blk w1 q 22 [v] := (hv.alloc tmp).grown hgrow hne
  have hro := rowOf_blk hv
  have hnew : ∀ g, v'.ownBlock = some g → rowOf V q = some g ∨ n ≤ g := fun g hg => by
    rcases hat with e | e
    · left; rw [hro, ← e, hg]
    · rw [hg] at e; cases e; right; rw [World.size_alloc]; omega
  have hk1 : Kq n q V w1 := ((Kq.refl q hn).alloc hv.lt tmp).grown hgrow (fun g hg => .inl (by rw [hro, hg])) hne (hv.alloc tmp).lt
  refine ⟨⟨v', hv1.set 0 v', ?_⟩, hk1.setq (hv1.cell (j := 0) rfl) hnew, hv1⟩
  rw [List.length_append, rcl_append, rcl_single]
  exact own_of hown' (fun g hg => Below.heap_setCell _ _ _ _ (by have := (gown_cells hown' g hg).2; show g ≠ q; omega))
theorem four_new (w : World) (a b c d : Value) (t : TypeId) (s : Nat × Nat) : ∀ j u, [a, b, c, d][j]? = some u → (w.alloc (.cells #[a, b, c, d] t s)).cell? ((⟨w.heap.size, 0, none⟩ : Addr).add j) = some u := by
  intro j u hu
  have hr := heap_alloc_new w (.cells #[a, b, c, d] t s)
  rw [Addr.add_lit, cell_of_row _ _ _ _ _ _ hr]
  match j, hu with
  | 0, hu => simpa using hu
  | 1, hu => simpa using hu
  | 2, hu => simpa using hu
  | 3, hu => simpa using hu

set_option maxRecDepth 100000 in
set_option maxHeartbeats 4000000 in
theorem gather_parts (ao : Option Addr) (n cap : Nat) (l : List Rg) (lo hi b1 b2 b3 : Nat) (w : World) (h : ML ao n cap l lo hi b1 b2 b3 w) (hlen : l.length ≤ 34359738368) :
    GvL 27 #[.func (.func 40) #[] #[.pointer (some ⟨b1, 0, none⟩), .pointer (some ⟨b2, 0, none⟩), .pointer (some ⟨b3, 0, none⟩)]] (RG.parts lo hi l) w := by
  unfold GvL
  refine wide_fit ?_
  obtain ⟨i0, hi0, hz0, hz1, hz2⟩ := info_parts info_reg
  obtain ⟨w1, hw1⟩ : ∃ w1, w.alloc (.cells #[.slice none 0 0] 22) = w1 := ⟨_, rfl⟩
  have hb1 : Below w.heap.size w w1 := by rw [← hw1]; exact (Below.refl _ _).alloc (Nat.le_refl _) _
  have hs1 : w1.heap.size = w.heap.size + 1 := by rw [← hw1]; simp
  have hQ : Blk w1 w.heap.size 22 [.slice none 0 0] := by rw [← hw1]; exact Blk.new _ _ [.slice none 0 0] rfl
  have hM : MA w.heap.size ao n cap l lo hi b1 b2 b3 w1 := (h.keep hb1).ma (by have := h.x1.lt; omega) (by have := h.x2.lt; omega) (by have := h.x3.lt; omega) (fun a e e' => by have := h.sn a e e'; omega) (rowOf_blk hQ)
  have hG := parts_gives w.heap.size ao n cap l lo hi b1 b2 b3
  have hln : (RG.parts lo hi l).length ≤ 34359738368 := by
    rw [parts_len]
    exact Nat.le_trans (List.length_filter_le _ _) hlen
  obtain ⟨xs, hxs⟩ : ∃ xs, RG.parts lo hi l = xs := ⟨_, rfl⟩
  rw [hxs] at hG hln ⊢
  refine callsIn_of_wp_marks Try.func27 rfl trivial ?_ rfl
  simp only [Try.ntmps27, List.size_toArray, List.length_cons, List.length_nil, Nat.reduceAdd, Nat.reduceSub, Array.replicate_succ, Array.replicate_zero, List.push_toArray, List.append_toArray, List.nil_append, List.cons_append]
  gi_wp2
  clear hw1
  refine range_gives (gf := 40) rfl enters_parts hG hM (fun V V' _ hk h => h.kp hk) (fun _ => rfl)
    (fun k V => OutB w.heap.size w1.heap.size (xs.take k) V ∧ Below w.heap.size w V)
    (fun c k V => False)
    (fun k V V' row h hg hr => ⟨h.1.own hg (fun r e => (hr r e).2), Below.own2 h.2 hg (Nat.le_refl _) (by omega) hr⟩)
    (fun c k V V' row h hg hr => h)
    (fun k V h => h.1.rw) (fun c k V h => h.elim) ⟨⟨_, hQ, World.ownsRow_nil _ _ _ _⟩, hb1⟩
    (fun m x a' V => ∃ bx, m ≤ bx ∧ RB V bx x ∧ a' = { tmps := #[.func (.func 40) #[] #[.pointer (some ⟨b1, 0, none⟩), .pointer (some ⟨b2, 0, none⟩), .pointer (some ⟨b3, 0, none⟩)], undef, .slice none 0 0, .pointer (some ⟨w.heap.size, 0, none⟩), .pointer (some ⟨bx, 0, none⟩), .func (.func 40) #[] #[.pointer (some ⟨b1, 0, none⟩), .pointer (some ⟨b2, 0, none⟩), .pointer (some ⟨b3, 0, none⟩)], ra x, undef, undef, undef, undef, undef], defers := [] })
    (fun m x a' _ V V' row h hg hr => by
      obtain ⟨bx, h1, h3, h5⟩ := h
      exact ⟨bx, h1, Blk.own' h3 hg (fun r e => (hr r e).2), h5⟩)
    ?assign ?body ?done ?stop
  case assign =>
    rintro lq k ⟨f, t, p, s⟩ V K hsz ⟨hO, hB⟩ hK
    have hkp := (Kp.refl w.heap.size V).alloc hO.rw.box.lt (.cells #[.int .u64 (f : Int), .int .u64 (t : Int), .int .i64 p, .int .i64 s] 25)
    have hKn := hK _ _ hkp ⟨hO.own (World.grownBy_alloc _ _ none) (fun r e => by cases e), hB.alloc hB.size _⟩ ⟨V.heap.size, Nat.le_refl _, Blk.new _ _ _ rfl, rfl⟩
    simp only [ra] at hKn ⊢
    gi_wp2
    exact hKn
  case body =>
    rintro lq k ⟨f, t, p, s⟩ a' m V hx hm hmV ⟨⟨v, hv, hrow⟩, hB⟩ ⟨bx, hbx, hX, rfl⟩
    obtain ⟨u0, u1, u2, u3⟩ := hX.re
    have hc := hv.cell (j := 0) rfl
    have hkl : k < xs.length := (List.getElem?_eq_some_iff.1 hx).1
    have hll : (xs.take k).length = k := by rw [List.length_take]; omega
    have hnext : Hid (xs.take (k + 1) = xs.take k ++ [⟨f, t, p, s⟩]) := by
      show _ = _
      rw [List.take_add_one, hx]; rfl
    rw [hll] at hrow
    have hx := W_hid hx
    have hro := rowOf_blk hv
    simp only [ra]
    have hrow' : V.ownsRow w1.heap.size 25 4 v (xs.take k).length (rcl (xs.take k)) := by rw [hll]; exact hrow
    have happ := fun (w2 : World) v' h1 h2 h3 => OutB.appended (q := w.heap.size) (base := w1.heap.size) (n := m) (L := xs.take k) (V := V) (w1 := w2) (v := v) (v' := v') (tmp := .cells #[.int .u64 (f : Int), .int .u64 (t : Int), .int .i64 p, .int .i64 s] 25) (r := ⟨f, t, p, s⟩) hv hrow' h1 h2 h3 (by omega) hmV
    obtain ⟨va, vc, rfl⟩ := Own.form hrow
    have hbs := hB.size
    gi_wp2_with (first | (gi_at_builtin; apply Hid.out) | gi_in)
    refine W_hid ?_
    refine wpListIn_append_own_at _ rfl (.tmp 7) (.tmp 9) 22 rfl w1.heap.size 25 i0 (.agg #[.int .u64 0, .int .u64 0, .int .i64 0, .int .i64 0]) 4 32 Try.underlying22 hi0 hz0 hz1 hz2 rfl (by decide) _ k (rcl (xs.take k)) rfl (hrow.alloc _) ⟨V.heap.size, 0, none⟩ 1 1 (rv ⟨f, t, p, s⟩) rfl rfl (four_new _ _ _ _ _ _ _) (by intro u hu; simp only [rv, List.mem_cons, List.not_mem_nil, or_false] at hu; rcases hu with rfl | rfl | rfl | rfl <;> rfl) (by unfold maxLen; omega) (by omega) (by rw [World.size_alloc]; omega) ?_
    intro v' w2 hown' hgrow _ hat
    obtain ⟨hO2, hK2, hv2⟩ := happ w2 v' (by rw [hll]; exact hown') hgrow hat
    obtain ⟨va2, vc2, rfl⟩ := Own.form hown'
    have hc2 := hv2.cell (j := 0) rfl
    have hf2 := hv2.fz 0
    gi_wp2
    rw [← hnext.out] at hO2
    have hB2 : Below w.heap.size w (w2.setCell ⟨w.heap.size, 0, none⟩ (.slice va2 (k + 1) vc2)) := ((hB.alloc hB.size _).grown hgrow (by rw [World.size_alloc]; omega) (fun j hj => by have := (gown_cells hrow j hj).2; omega)).setCell (Nat.le_refl _) _
    exact ⟨hK2, hO2, hB2⟩
  case done =>
    rintro D V hD ⟨⟨v, hv, hrow⟩, hB⟩ hkp hK
    rw [List.take_length] at hrow
    have hc := hv.cell (j := 0) rfl
    have hfin : (V.putObj D (.deferred none)).ownsRow w.heap.size 25 4 v xs.length (rcl xs) := Own.low (by omega) (own_of hrow (fun g hg => World.putObj_heap_other (fun e => by
      subst e
      have := (gown_cells hrow g hg).1.not hK rfl
      exact this rfl)))
    obtain ⟨va, vc, rfl⟩ := Own.form hrow
    gi_wp2
    refine ⟨by simp, .inl ⟨_, _, rfl, run_takeDeferred hK, ?_⟩⟩
    exact ⟨_, results_tmp rfl _ _ _, .slice va xs.length vc, rfl, hfin, Below.putD hB (by omega) hK⟩
  case stop =>
    rintro D c k V hD hlt h hK
    exact h.elim
end Go.Proofs.Ytfbhcnamkojboaa

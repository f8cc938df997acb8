/- What goes over the iterators: first, gather. -/
import Derived.Test.YtfbhcnamkojboaaRegIter2
namespace Go.Proofs.Ytfbhcnamkojboaa
open Go.ChangeShapes Go.WideShapes Go.ChangeAt Go.RowKit Go.Shelf
open SQ
set_option linter.unusedVariables false
set_option linter.unusedSimpArgs false
attribute [local go_sem] Oper.semAt_some
open RG (Rg)

/-- What an iterator has captured lies there. -/
structure ML (ao : Option Addr) (n cap : Nat) (l : List Rg) (lo hi b1 b2 b3 : Nat) (w : World) : Prop where
  x1 : Blk w b1 22 [.slice ao n cap]
  x2 : Blk w b2 23 [.int .u64 (lo : Int)]
  x3 : Blk w b3 23 [.int .u64 (hi : Int)]
  rs : RS w ao n cap l
  sn : ∀ a, ao = some a → 0 < n → a.block < w.heap.size
theorem ML.keep {ao : Option Addr} {n cap : Nat} {l : List Rg} {lo hi b1 b2 b3 : Nat} {w w' : World} (h : ML ao n cap l lo hi b1 b2 b3 w) (hb : Below w.heap.size w w') : ML ao n cap l lo hi b1 b2 b3 w' :=
  ⟨h.x1.keep hb, h.x2.keep hb, h.x3.keep hb, h.rs.below hb (Nat.le_refl _), fun a e e' => Nat.lt_of_lt_of_le (h.sn a e e') hb.size⟩
theorem ML.ma {ao : Option Addr} {n cap : Nat} {l : List Rg} {lo hi b1 b2 b3 q : Nat} {w : World} (h : ML ao n cap l lo hi b1 b2 b3 w) (h1 : b1 ≠ q) (h2 : b2 ≠ q) (h3 : b3 ≠ q) (ha : ∀ a, ao = some a → 0 < n → a.block ≠ q) (hr : rowOf w q = none) : MA q ao n cap l lo hi b1 b2 b3 w :=
  ⟨⟨h.x1, h.x1.lt, h1, by rw [hr]; simp⟩, ⟨h.x2, h.x2.lt, h2, by rw [hr]; simp⟩, ⟨h.x3, h.x3.lt, h3, by rw [hr]; simp⟩, h.rs, fun a e e' => ⟨h.sn a e e', ha a e e', by rw [hr]; simp⟩⟩
theorem rowOf_blk {w : World} {q : Nat} {t : TypeId} {v : Value} (h : Blk w q t [v]) : rowOf w q = v.ownBlock := by
  unfold rowOf
  rw [h.cell (j := 0) rfl]; rfl
theorem cells_blk {w : World} {q : Nat} {t : TypeId} {l : List Value} (h : Blk w q t l) : Cells w q := ⟨_, h, rfl⟩
theorem rw_blk {w : World} {q : Nat} {t : TypeId} {v : Value} (h : Blk w q t [v]) (hv : v.ownBlock = none) : Rw q w := ⟨cells_blk h, fun g hg => by rw [rowOf_blk h, hv] at hg; cases hg⟩

theorem Blk.own2 {q B b : Nat} {W W' : World} {row : Option Nat} {t : TypeId} {l : List Value} (h : Blk W b t l) (hg : W.grownBy W' row) (hb : b < B) (hrow : ∀ r, row = some r → B ≤ r ∧ r ≠ q ∧ some r ≠ rowOf W q) : Blk W' b t l :=
  (hg.block b h.lt (fun e => by have := (hrow b e.symm).1; omega)).trans h
theorem Below.own2 {q B n : Nat} {w W W' : World} {row : Option Nat} (h : Below n w W) (hg : W.grownBy W' row) (hn : n ≤ w.heap.size) (hb : n ≤ B) (hrow : ∀ r, row = some r → B ≤ r ∧ r ≠ q ∧ some r ≠ rowOf W q) : Below n w W' :=
  h.grown hg (by have := h.size; omega) (fun k e => by have := (hrow k e).1; omega)
theorem Blk.putD {V : World} {b D : Nat} {t : TypeId} {l : List Value} {o : Obj} (h : Blk V b t l) (hD : V.heap[D]? = some (.deferred (some []))) : Blk (V.putObj D o) b t l :=
  (World.putObj_heap_other (fun e => by subst e; rw [show V.heap[b]? = _ from h] at hD; cases hD)).trans h
theorem Below.putD {n D : Nat} {w V : World} {o : Obj} (h : Below n w V) (hn : n ≤ D) (hD : V.heap[D]? = some (.deferred (some []))) : Below n w (V.putObj D o) :=
  h.grown (grownBy_putObj' V D o) (by have := (Array.getElem?_eq_some_iff.1 hD).1; omega) (fun k e => by cases e; exact hn)
theorem res_reg2 {fn : Func} {r b : Tmp} (hres : fn.results = #[.cell r 25, .cell b 4]) (tmps : Array Value) (w : World) {g h : Nat} {x : Rg} {z : Bool} (hr : tmps.getD r undef = .pointer (some ⟨g, 0, none⟩)) (hb : tmps.getD b undef = .pointer (some ⟨h, 0, none⟩))
    (hp : RB w g x) (hq : Blk w h 4 [.bool z]) : (results fn tmps).run Try.prog w = .ok (.tuple #[ra x, .bool z]) w := by
  obtain ⟨c0, c1, c2, c3⟩ := hp.re
  have c4 := hq.cell (j := 0) rfl
  rw [Array.getD_eq_getD_getElem?] at hr hb
  simp [results, hres, go_sem, hr, hb, c0, c1, c2, c3, c4, ra]
theorem res_reg1 {fn : Func} {r b : Tmp} (hres : fn.results = #[.cell r 25, .tmp b]) (tmps : Array Value) (w : World) {g : Nat} {x : Rg} (hr : tmps.getD r undef = .pointer (some ⟨g, 0, none⟩))
    (hp : RB w g x) : (results fn tmps).run Try.prog w = .ok (.tuple #[ra x, tmps.getD b undef]) w := by
  obtain ⟨c0, c1, c2, c3⟩ := hp.re
  rw [Array.getD_eq_getD_getElem?] at hr
  simp [results, hres, go_sem, hr, c0, c1, c2, c3, ra]
theorem res_bool1 {fn : Func} {b : Tmp} (hres : fn.results = #[.cell b 4]) (tmps : Array Value) (w : World) {h : Nat} {z : Bool} (hb : tmps.getD b undef = .pointer (some ⟨h, 0, none⟩)) (hq : Blk w h 4 [.bool z]) : (results fn tmps).run Try.prog w = .ok (.bool z) w := by
  have c4 := hq.cell (j := 0) rfl
  rw [Array.getD_eq_getD_getElem?] at hb
  simp [results, hres, go_sem, hb, c4]

/-- What first gives. -/
def fstV (xs : List Rg) : Value := match xs with
  | [] => .tuple #[ra ⟨0, 0, 0, 0⟩, .bool false]
  | r :: _ => .tuple #[ra r, .bool true]

set_option maxRecDepth 100000 in
set_option maxHeartbeats 4000000 in
theorem first_meet (ao : Option Addr) (n cap : Nat) (l : List Rg) (lo hi b1 b2 b3 : Nat) (w : World) (h : ML ao n cap l lo hi b1 b2 b3 w) :
    Gv 19 #[.func (.func 36) #[] #[.pointer (some ⟨b1, 0, none⟩), .pointer (some ⟨b2, 0, none⟩), .pointer (some ⟨b3, 0, none⟩)]] (fstV (RG.meeting lo hi l)) w := by
  refine wide_fit ?_
  obtain ⟨w1, hw1⟩ : ∃ w1, (w.alloc (.cells #[.int .u64 0, .int .u64 0, .int .i64 0, .int .i64 0] 25)).alloc (.cells #[.bool false] 4) = w1 := ⟨_, rfl⟩
  have hb1 : Below w.heap.size w w1 := by rw [← hw1]; exact ((Below.refl _ _).alloc (Nat.le_refl _) _).alloc (by simp) _
  have hs1 : w1.heap.size = w.heap.size + 2 := by rw [← hw1]; simp
  have hR : Blk w1 w.heap.size 25 [.int .u64 0, .int .u64 0, .int .i64 0, .int .i64 0] := by rw [← hw1]; exact (Blk.new _ _ [.int .u64 0, .int .u64 0, .int .i64 0, .int .i64 0] rfl).alloc _
  have hQ : Blk w1 (w.heap.size + 1) 4 [.bool false] := by rw [← hw1]; exact Blk.new _ _ [.bool false] (by simp)
  have hM : MA (w.heap.size + 1) ao n cap l lo hi b1 b2 b3 w1 := (h.keep hb1).ma (by have := h.x1.lt; omega) (by have := h.x2.lt; omega) (by have := h.x3.lt; omega) (fun a e e' => by have := h.sn a e e'; omega) (rowOf_blk hQ)
  obtain ⟨xs, hxs⟩ : ∃ xs, RG.meeting lo hi l = xs := ⟨_, rfl⟩
  have hG := meet_gives (w.heap.size + 1) ao n cap l lo hi b1 b2 b3
  rw [hxs] at hG ⊢
  refine callsIn_of_wp_marks Try.func19 rfl trivial ?_ rfl
  simp only [Try.ntmps19, List.size_toArray, List.length_cons, List.length_nil, Nat.reduceAdd, Nat.reduceSub, Array.replicate_succ, Array.replicate_zero, List.push_toArray, List.append_toArray, List.nil_append, List.cons_append]
  gi_wp2
  clear hw1
  refine range_gives (gf := 36) rfl enters_meet hG hM (fun V V' _ hk h => h.kp hk) (fun _ => rfl)
    (fun k V => (k = 0 ∧ Blk V w.heap.size 25 [.int .u64 0, .int .u64 0, .int .i64 0, .int .i64 0]) ∧ Blk V (w.heap.size + 1) 4 [.bool false] ∧ Below w.heap.size w V)
    (fun c k V => (c = .ret ∧ k = 0) ∧ (∃ x, xs[0]? = some x ∧ RB V w.heap.size x) ∧ Blk V (w.heap.size + 1) 4 [.bool true] ∧ Below w.heap.size w V)
    (fun k V V' row h hg hr => ⟨⟨h.1.1, h.1.2.own2 hg (by omega) hr⟩, h.2.1.own2 hg (by omega) hr, Below.own2 h.2.2 hg (Nat.le_refl _) (by omega) hr⟩)
    (fun c k V V' row h hg hr => ⟨h.1, (by obtain ⟨x, hx, hX⟩ := h.2.1; exact ⟨x, hx, Blk.own2 hX hg (by omega) hr⟩), h.2.2.1.own2 hg (by omega) hr, Below.own2 h.2.2.2 hg (Nat.le_refl _) (by omega) hr⟩)
    (fun k V h => rw_blk h.2.1 rfl) (fun c k V h => rw_blk h.2.2.1 rfl) ⟨⟨rfl, hR⟩, hQ, hb1⟩
    (fun m x a' V => ∃ bx, m ≤ bx ∧ RB V bx x ∧ a' = { tmps := #[.func (.func 36) #[] #[.pointer (some ⟨b1, 0, none⟩), .pointer (some ⟨b2, 0, none⟩), .pointer (some ⟨b3, 0, none⟩)], undef, .pointer (some ⟨w.heap.size, 0, none⟩), .pointer (some ⟨w.heap.size + 1, 0, none⟩), .pointer (some ⟨bx, 0, none⟩), .func (.func 36) #[] #[.pointer (some ⟨b1, 0, none⟩), .pointer (some ⟨b2, 0, none⟩), .pointer (some ⟨b3, 0, none⟩)], ra x, undef, undef], defers := [] })
    (fun m x a' _ V V' row h hg hr => by
      obtain ⟨bx, h1, h3, h5⟩ := h
      exact ⟨bx, h1, Blk.own' h3 hg (fun r e => (hr r e).2), h5⟩)
    ?assign ?body ?done ?stop
  case assign =>
    rintro lq k ⟨f, t, p, s⟩ V K hsz ⟨⟨rfl, hR⟩, hQ, hB⟩ hK
    have hkp := (Kp.refl (w.heap.size + 1) V).alloc hQ.lt (.cells #[.int .u64 (f : Int), .int .u64 (t : Int), .int .i64 p, .int .i64 s] 25)
    have hKn := hK _ _ hkp ⟨⟨rfl, hR.alloc _⟩, hQ.alloc _, hB.alloc hB.size _⟩ ⟨V.heap.size, Nat.le_refl _, Blk.new _ _ _ rfl, rfl⟩
    simp only [ra] at hKn ⊢
    gi_wp2
    exact hKn
  case body =>
    rintro lq k ⟨f, t, p, s⟩ a' m V hx hm hmV ⟨⟨rfl, hR⟩, hQ, hB⟩ ⟨bx, hbx, hX, rfl⟩
    obtain ⟨u0, u1, u2, u3⟩ := hX.re
    have c0 := hR.cell (j := 0) rfl
    have c1 := hR.cell (j := 1) rfl
    have c2 := hR.cell (j := 2) rfl
    have c3 := hR.cell (j := 3) rfl
    have f0 := hR.fz 0
    have f1 := hR.fz 1
    have f2 := hR.fz 2
    have f3 := hR.fz 3
    have cQ := hQ.cell (j := 0) rfl
    have fQ := hQ.fz 0
    have hS : RB (((((V.setCell ⟨w.heap.size, 0, none⟩ (.int .u64 (f : Int))).setCell ⟨w.heap.size, 1, none⟩ (.int .u64 (t : Int))).setCell ⟨w.heap.size, 2, none⟩ (.int .i64 p)).setCell ⟨w.heap.size, 3, none⟩ (.int .i64 s)).setCell ⟨w.heap.size + 1, 0, none⟩ (.bool true)) w.heap.size ⟨f, t, p, s⟩ :=
      ((((hR.set 0 _).set 1 _).set 2 _).set 3 _).far (by show _ ≠ w.heap.size + 1; omega) _
    have hS2 : Blk (((((V.setCell ⟨w.heap.size, 0, none⟩ (.int .u64 (f : Int))).setCell ⟨w.heap.size, 1, none⟩ (.int .u64 (t : Int))).setCell ⟨w.heap.size, 2, none⟩ (.int .i64 p)).setCell ⟨w.heap.size, 3, none⟩ (.int .i64 s)).setCell ⟨w.heap.size + 1, 0, none⟩ (.bool true)) (w.heap.size + 1) 4 [.bool true] :=
      ((((hQ.far (by show w.heap.size + 1 ≠ w.heap.size; omega) _).far (by show w.heap.size + 1 ≠ w.heap.size; omega) _).far (by show w.heap.size + 1 ≠ w.heap.size; omega) _).far (by show w.heap.size + 1 ≠ w.heap.size; omega) _).set 0 _
    have hS3 : Below w.heap.size w (((((V.setCell ⟨w.heap.size, 0, none⟩ (.int .u64 (f : Int))).setCell ⟨w.heap.size, 1, none⟩ (.int .u64 (t : Int))).setCell ⟨w.heap.size, 2, none⟩ (.int .i64 p)).setCell ⟨w.heap.size, 3, none⟩ (.int .i64 s)).setCell ⟨w.heap.size + 1, 0, none⟩ (.bool true)) :=
      ((((hB.setCell (Nat.le_refl _) _).setCell (Nat.le_refl _) _).setCell (Nat.le_refl _) _).setCell (Nat.le_refl _) _).setCell (by show _ ≤ w.heap.size + 1; omega) _
    have hkf : KeepsOthers V (((((V.setCell ⟨w.heap.size, 0, none⟩ (.int .u64 (f : Int))).setCell ⟨w.heap.size, 1, none⟩ (.int .u64 (t : Int))).setCell ⟨w.heap.size, 2, none⟩ (.int .i64 p)).setCell ⟨w.heap.size, 3, none⟩ (.int .i64 s)).setCell ⟨w.heap.size + 1, 0, none⟩ (.bool true)) :=
      ((((KeepsOthers.setCell _ _ _).trans (KeepsOthers.setCell _ _ _)).trans (KeepsOthers.setCell _ _ _)).trans (KeepsOthers.setCell _ _ _)).trans (KeepsOthers.setCell _ _ _)
    have hS := W_hid hS
    have hS2 := W_hid hS2
    have hx := W_hid hx
    simp only [ra]
    gi_wp2
    refine ⟨hkf.from _, ?_⟩
    first | exact ⟨⟨rfl, rfl⟩, ⟨_, hx.out, hS.out⟩, hS2.out, hS3⟩ | exact ⟨⟨rfl, rfl⟩, hS.out, hS2.out, hS3⟩
  case done =>
    rintro D V hD ⟨⟨hk, hR⟩, hQ, hB⟩ hkp hK
    obtain rfl : xs = [] := List.eq_nil_of_length_eq_zero hk
    have c0 := hR.cell (j := 0) rfl
    have c1 := hR.cell (j := 1) rfl
    have c2 := hR.cell (j := 2) rfl
    have c3 := hR.cell (j := 3) rfl
    have f0 := hR.fz 0
    have f1 := hR.fz 1
    have f2 := hR.fz 2
    have f3 := hR.fz 3
    have cQ := hQ.cell (j := 0) rfl
    have fQ := hQ.fz 0
    obtain ⟨V5, hV5⟩ : ∃ V5, ((((V.setCell ⟨w.heap.size, 0, none⟩ (.int .u64 0)).setCell ⟨w.heap.size, 1, none⟩ (.int .u64 0)).setCell ⟨w.heap.size, 2, none⟩ (.int .i64 0)).setCell ⟨w.heap.size, 3, none⟩ (.int .i64 0)).setCell ⟨w.heap.size + 1, 0, none⟩ (.bool false) = V5 := ⟨_, rfl⟩
    have hS : RB V5 w.heap.size ⟨0, 0, 0, 0⟩ := by
      rw [← hV5]
      exact ((((hR.set 0 _).set 1 _).set 2 _).set 3 _).far (by show _ ≠ w.heap.size + 1; omega) _
    have hS2 : Blk V5 (w.heap.size + 1) 4 [.bool false] := by
      rw [← hV5]
      exact ((((hQ.far (by show w.heap.size + 1 ≠ w.heap.size; omega) _).far (by show w.heap.size + 1 ≠ w.heap.size; omega) _).far (by show w.heap.size + 1 ≠ w.heap.size; omega) _).far (by show w.heap.size + 1 ≠ w.heap.size; omega) _).set 0 _
    have hS3 : Below w.heap.size w V5 := by
      rw [← hV5]
      exact ((((hB.setCell (Nat.le_refl _) _).setCell (Nat.le_refl _) _).setCell (Nat.le_refl _) _).setCell (Nat.le_refl _) _).setCell (by show _ ≤ w.heap.size + 1; omega) _
    have hK5 : V5.heap[D]? = some (.deferred (some [])) := by
      rw [← hV5]
      exact (((((KeepsOthers.setCell _ _ _).trans (KeepsOthers.setCell _ _ _)).trans (KeepsOthers.setCell _ _ _)).trans (KeepsOthers.setCell _ _ _)).trans (KeepsOthers.setCell _ _ _)).same D _ hK rfl
    gi_wp2
    clear hV5
    refine ⟨by simp, .inl ⟨_, _, rfl, run_takeDeferred hK5, ?_⟩⟩
    have hb : ∀ o, Below w.heap.size w (V5.putObj D o) := fun o => Below.putD hS3 (by omega) hK5
    exact ⟨_, res_reg2 rfl _ _ rfl rfl (hS.putD hK5) (hS2.putD hK5), rfl, hb _⟩
  case stop =>
    rintro D c k V hD hlt ⟨⟨rfl, rfl⟩, ⟨x, hx, hX⟩, hQ, hB⟩ hK
    have hv : fstV xs = .tuple #[ra x, .bool true] := by
      cases xs with
      | nil => cases hx
      | cons y r => simp at hx; subst hx; rfl
    have hv := W_hid hv
    gi_wp2
    refine ⟨by simp, .inl ⟨_, _, rfl, run_takeDeferred hK, ?_⟩⟩
    exact ⟨_, res_reg2 rfl _ _ rfl rfl (hX.putD hK) (hQ.putD hK), by rw [hv.out], Below.putD hB (by omega) hK⟩
end Go.Proofs.Ytfbhcnamkojboaa

/- A range over an iterator that gives a list known ahead, with a body that turns some blocks of cells, told by their numbers and what they are (T); what the iterator reads may be turned too, as long as it reads so. Free of any program's numbers. -/
import Derived.Test.YtmikgkelmdgckaaKeep
import Derived.Test.YtmikgkelmdgckaaSeq
namespace Go.Proofs.Ytmikgkelmdgckaa
open Go.RowKit Go.Shelf
set_option linter.unusedVariables false
set_option linter.unusedSimpArgs false
namespace SE

/-- All that lay below n is there, but for the blocks T. -/
structure BN (n : Nat) (T : Nat → Obj → Prop) (W W' : World) : Prop where
  le : n ≤ W.heap.size
  size : W.heap.size ≤ W'.heap.size
  block : ∀ k o, k < n → W.heap[k]? = some o → ¬ T k o → W'.heap[k]? = some o
  os : W'.os = W.os
  tape : W'.tape = W.tape
  output : W'.output = W.output
abbrev Bt (T : Nat → Obj → Prop) (W W' : World) : Prop := BN W.heap.size T W W'
section
variable {n : Nat} {T : Nat → Obj → Prop} {A B C : World}
theorem BN.refl (T : Nat → Obj → Prop) {n : Nat} {W : World} (h : n ≤ W.heap.size) : BN n T W W := ⟨h, Nat.le_refl _, fun _ _ _ h _ => h, rfl, rfl, rfl⟩
theorem BN.then (h : BN n T A B) (k : Bt T B C) : BN n T A C :=
  ⟨h.le, Nat.le_trans h.size k.size, fun i o hi ho hT => k.block i o (Nat.lt_of_lt_of_le hi (Nat.le_trans h.le h.size)) (h.block i o hi ho hT) hT, k.os.trans h.os, k.tape.trans h.tape, k.output.trans h.output⟩
theorem BN.below (h : BN n T A B) (k : Below n B C) : BN n T A C :=
  ⟨h.le, Nat.le_trans h.size k.size, fun i o hi ho hT => (k.block i hi).trans (h.block i o hi ho hT), k.os.trans h.os, k.tape.trans h.tape, k.output.trans h.output⟩
theorem BN.drew (h : BN n T A B) (m : Nat) : BN n T A (B.drewN m) := ⟨h.le, h.size, h.block, h.os, h.tape, h.output⟩
theorem Bt.of (h : Below A.heap.size A B) : Bt T A B := ⟨Nat.le_refl _, h.size, fun k o hk ho _ => (h.block k hk).trans ho, h.os, h.tape, h.output⟩
theorem Bt.low (h : Bt T A B) (k : Below A.heap.size B C) : Bt T A C := BN.below h k
end

/-- All that lies below B is there, and all cells, wherever. -/
structure LB (B : Nat) (V V' : World) : Prop where
  bel : Below B V V'
  cel : ∀ (k : Nat) (o : Obj), V.heap[k]? = some o → o.isCells = true → V'.heap[k]? = some o
theorem LB.low {B C : Nat} {V V' : World} (h : LB C V V') (hB : B ≤ C) : LB B V V' := ⟨⟨h.bel.os, h.bel.tape, h.bel.output, h.bel.size, fun k hk => h.bel.block k (by omega)⟩, h.cel⟩
theorem LB.all {B : Nat} {V V' : World} (h : Below V.heap.size V V') (hB : B ≤ V.heap.size) : LB B V V' :=
  ⟨⟨h.os, h.tape, h.output, h.size, fun k hk => h.block k (by omega)⟩, fun k o ho _ => (h.block k (Array.getElem?_eq_some_iff.1 ho).1).trans ho⟩
/-- What is said abides whatever happens at B and beyond to what is no cells. -/
def AbB (B : Nat) (I : Nat → World → Prop) : Prop := ∀ k V V', I k V → LB B V V' → I k V'
theorem below_put {B : Nat} {V : World} {l : Nat} (o : Obj) (hB : B ≤ l) : Below B V (V.putObj l o) :=
  ⟨rfl, rfl, rfl, by simp [World.putObj], fun k hk => World.putObj_heap_other (by omega)⟩
theorem lb_put {B : Nat} {V : World} {l : Nat} (o : Obj) (hB : B ≤ l) {o0 : Obj} (hl : V.heap[l]? = some o0) (h0 : o0.isCells = false) : LB B V (V.putObj l o) :=
  ⟨below_put o hB, fun k o' ho hc => by
    have hne : k ≠ l := by
      rintro rfl
      rw [hl] at ho
      cases ho
      rw [h0] at hc
      cases hc
    exact (World.putObj_heap_other hne).trans ho⟩
theorem AbB.putObj {B : Nat} {I : Nat → World → Prop} (h : AbB B I) {k : Nat} {V : World} {l : Nat} (o : Obj) (hi : I k V) (hB : B ≤ l) {o0 : Obj} (hl : V.heap[l]? = some o0) (h0 : o0.isCells = false) : I k (V.putObj l o) := h k V _ hi (lb_put o hB hl h0)

variable {P : Program}
/-- The iterator g of what it has captured gives the list xs, as long as more is wanted; what it is given to turns no more than S. -/
def GivesB {α : Type} (P : Program) (g : Nat) (lb : Array Value) (encs : α → Array Value) (T : Nat → Obj → Prop) (It : World → Prop) (xs : List α) : Prop :=
  ∀ (l : Nat) (J Jx : Nat → World → Prop) (W : World), AbB W.heap.size J → AbB W.heap.size Jx → (∀ k V, J k V → It V) →
    (∀ k x V, xs[k]? = some x → J k V → W.heap.size ≤ V.heap.size → YieldAt Fence.wide 0 P l (encs x) V fun e V' =>
      (e = .returned (.bool true) ∧ J (k + 1) V' ∧ Bt T V V') ∨ (e = .returned (.bool false) ∧ Jx k V' ∧ KeepsFrom W.heap.size V V')) →
    J 0 W →
    CallsIn Fence.wide 0 P g (#[.func (.yield l) #[] #[]] ++ lb) W fun e W' => (∃ v, e = .returned v) ∧ (J xs.length W' ∨ ∃ k, k < xs.length ∧ Jx k W')

/-- How a round's body may be left. -/
def bodyB (B n : Nat) (T : Nat → Obj → Prop) (I : Nat → World → Prop) (Ix : Code → Nat → World → Prop) (k : Nat) (W : World) : Exit → Act → World → Prop
  | .normal, _, W' => BN n T W W' ∧ I (k + 1) W'
  | .ret, _, W' => KeepsFrom B W W' ∧ Ix .ret k W'
  | .exit id, _, W' => KeepsFrom B W W' ∧ Ix (.exit id) k W'
  | .goto t, _, W' => KeepsFrom B W W' ∧ Ix (.goto t) k W'
  | .panic _, _, _ => False
  | .outgrown, _, _ => False

theorem range_givesB {α : Type} {g : Operand} {ps : Array Tmp} {assign body : Code} {Q : Exit → Act → World → Prop} {a : Act} {w : World}
    {gf : Nat} {lb : Array Value} (hg : a.eval g = .func (.func gf) #[] lb) (eg : ∀ args w, (callFunc gf args).run P w = .ok (.enter gf args) w)
    {encs : α → Array Value} {T : Nat → Obj → Prop} {It : World → Prop} {xs : List α} (hseq : GivesB P gf lb encs T It xs) (hS : ∀ k o, T k o → o.isCells = true) (hps : ∀ x, (encs x).size = ps.size)
    (I : Nat → World → Prop) (Ix : Code → Nat → World → Prop) (hI : AbB w.heap.size I) (hIx : ∀ c, AbB w.heap.size (Ix c)) (h0 : I 0 w) (hIt : ∀ k V, I k V → It V)
    (Ax : Nat → α → Act → World → Prop) (hAx : ∀ n x a', OwnFrom w.heap.size (fun (_ : Unit) W => Ax n x a' W))
    (hassign : ∀ (l k : Nat) (x : α) (W : World) (K : Act → World → Prop), w.heap.size ≤ W.heap.size → I k W → (∀ a' W', Bt T W W' → I k W' → Ax W.heap.size x a' W' → K a' W') →
      assign.wpIn (Fence.wide.inRound l) 0 P (Exit.then K (fun _ _ _ => False)) { tmps := (ps.zip (encs x)).foldl (fun t (p, v) => t.setIfInBounds p v) a.tmps, defers := [] } W)
    (hbody : ∀ (l k : Nat) (x : α) (a' : Act) (n : Nat) (W : World), xs[k]? = some x → w.heap.size ≤ n → n ≤ W.heap.size → I k W → Ax n x a' W → body.wpIn (Fence.wide.inRound l) 0 P (bodyB w.heap.size n T I Ix k W) a' W)
    (hdone : ∀ (D : Nat) (W : World), w.heap.size ≤ D → I xs.length W → Bt T w W → W.heap[D]? = some (.deferred (some [])) → Q .normal { a with defers := { target := .collected D, args := #[] } :: a.defers } W)
    (hstop : ∀ (D : Nat) (c : Code) (k : Nat) (W : World), w.heap.size ≤ D → k < xs.length → Ix c k W → W.heap[D]? = some (.deferred (some [])) → c.wpIn Fence.wide 0 P Q { a with defers := { target := .collected D, args := #[] } :: a.defers } W) :
    (Code.rangeFunc g ps assign body).wpIn Fence.wide 0 P Q a w := by
  refine wpIn_rangeFunc (F := Fence.wide) (n := 0) ?_
  intro fn _
  obtain ⟨rec, hrec⟩ : ∃ rec : LoopState → Option Code → Loop, rec = fun st pe => { state := st, pending := pe, fn, tmps := a.tmps, params := ps, assign, body, defers := w.heap.size } := ⟨_, rfl⟩
  obtain ⟨W1, hW1⟩ : ∃ W1, (w.alloc (.deferred (some []))).alloc (.loop (rec .ready none)) = W1 := ⟨_, rfl⟩
  have hbel : Below w.heap.size w W1 := by rw [← hW1]; exact ((Below.refl _ w).alloc (Nat.le_refl _) _).alloc (by simp) _
  have hsz : W1.heap.size = w.heap.size + 2 := by rw [← hW1]; simp
  have hL1 : W1.heap[w.heap.size + 1]? = some (.loop (rec .ready none)) := by
    rw [← hW1]; have := World.alloc_heap_new (w.alloc (.deferred (some []))) (.loop (rec .ready none)); rwa [World.size_alloc] at this
  have hK1 : W1.heap[w.heap.size]? = some (.deferred (some [])) := by
    rw [← hW1]; exact (Below.heap_alloc _ _ _ (by simp)).trans (World.alloc_heap_new w _)
  have hkp1 : Bt T w W1 := Bt.of hbel
  have hI1 : I 0 W1 := hI 0 w W1 h0 (LB.all hbel (Nat.le_refl _))
  have nL : ∀ {b : Nat} {x : Loop}, ¬ T b (.loop x) := fun h => by have := hS _ _ h; cases this
  have nD : ∀ {b : Nat} {x}, ¬ T b (.deferred x) := fun h => by have := hS _ _ h; cases this
  have nC : ∀ {b : Nat} {o : Obj}, o.isCells = false → ¬ T b o := fun ho h => by have := hS _ _ h; rw [ho] at this; cases this
  -- What the iterator's contract is told of
  let J : Nat → World → Prop := fun k V => I k V ∧ Bt T w V ∧ V.heap[w.heap.size + 1]? = some (.loop (rec .ready none)) ∧ V.heap[w.heap.size]? = some (.deferred (some []))
  let Jx : Nat → World → Prop := fun k V => ∃ c, Ix c k V ∧ V.heap[w.heap.size + 1]? = some (.loop (rec .done (some c))) ∧ V.heap[w.heap.size]? = some (.deferred (some []))
  have lowB : ∀ {V V' : World}, Below W1.heap.size V V' → Below w.heap.size V V' := fun h => ⟨h.os, h.tape, h.output, h.size, fun k hk => h.block k (by omega)⟩
  have keepN : ∀ {V V' : World} {b : Nat} {o : Obj}, V.heap[b]? = some o → b < w.heap.size + 2 → Below W1.heap.size V V' → V'.heap[b]? = some o := fun {V V' b o} hb hlt h => (h.block b (by omega)).trans hb
  have hJ : AbB W1.heap.size J := fun k V V' hs h => by
    obtain ⟨h1, h2, h3, h4⟩ := hs
    exact ⟨hI k V V' h1 (h.low (by omega)), h2.low (lowB h.bel), keepN h3 (by omega) h.bel, keepN h4 (by omega) h.bel⟩
  have hJx : AbB W1.heap.size Jx := fun k V V' hs h => by
    obtain ⟨c, h1, h3, h4⟩ := hs
    exact ⟨c, hIx c k V V' h1 (h.low (by omega)), keepN h3 (by omega) h.bel, keepN h4 (by omega) h.bel⟩
  refine ⟨w.heap.size + 1, [{ target := .collected w.heap.size, args := #[] }], W1, { target := .fn (.func gf) lb, args := #[.func (.yield (w.heap.size + 1)) #[] #[]] }, W1, gf,
    #[.func (.yield (w.heap.size + 1)) #[] #[]] ++ lb, W1, ?_, ?_, fun _ _ => trivial, ?_, fun h => by simp [Fence.wide] at h, ?_⟩
  · rw [← hW1, hrec]; exact run_enterLoop_outer _ _ _ _ _
  · simp only [resolve, hg]
    simp [go_sem]
  · simp [invoke, go_sem, eg]
  · refine (hseq (w.heap.size + 1) J Jx W1 hJ hJx (fun k V h => hIt k V h.1) ?_ ⟨hI1, hkp1, hL1, hK1⟩).mono ?_
    · rintro k x V hx ⟨hi, hkw, hl, hd⟩ hWV
      have hlt : w.heap.size + 1 < V.heap.size := (Array.getElem?_eq_some_iff.1 hl).1
      have hy := run_yield (P := P) (args := encs x) hl (by rw [hrec]; exact hps x)
      rw [hrec] at hy
      refine ⟨fn, _, assign, body, hy, roundIn_of_wpIn trivial (hassign _ k x V _ (by omega) hi ?_)⟩
      clear hy
      intro a' Va hkp hia hax
      -- the assignment may have laid a block
      have hla := hkp.block _ _ hlt hl nL
      have hda := hkp.block _ _ (by omega) hd nD
      have hlta : w.heap.size + 1 < Va.heap.size := (Array.getElem?_eq_some_iff.1 hla).1
      refine ⟨_, run_beginRound hla (by rw [hrec]), ?_⟩
      obtain ⟨V2, hV2⟩ : ∃ V2, Va.putObj (w.heap.size + 1) (.loop { rec .ready none with state := .busy }) = V2 := ⟨_, rfl⟩
      have hl2 : V2.heap[w.heap.size + 1]? = some (.loop { rec .ready none with state := .busy }) := by rw [← hV2]; exact World.putObj_heap_same hlta
      have hd2 : V2.heap[w.heap.size]? = some (.deferred (some [])) := by rw [← hV2]; exact (World.putObj_heap_other (by omega)).trans hda
      have hi2 : I k V2 := by rw [← hV2]; exact hI.putObj _ hia (by omega) hla rfl
      have hax2 : Ax V.heap.size x a' V2 := by rw [← hV2]; exact (hAx _ x a').putObj (s := ()) _ hax (by omega) hla rfl
      have hother : ∀ b, b ≠ w.heap.size + 1 → V2.heap[b]? = Va.heap[b]? := fun b hb => by rw [← hV2]; exact World.putObj_heap_other hb
      have hsz2 : V2.heap.size = Va.heap.size := by rw [← hV2]; simp [World.putObj]
      have e2 : V2.os = Va.os ∧ V2.tape = Va.tape ∧ V2.output = Va.output := by rw [← hV2]; exact ⟨rfl, rfl, rfl⟩
      rw [show Va.putObj (w.heap.size + 1) (.loop { rec .ready none with state := .busy }) = V2 from hV2]
      clear hV2
      refine wpIn_mono (hbody _ k x a' V.heap.size V2 hx (by omega) (by have := hkp.size; omega) hi2 hax2) ?_
      -- how a round ends
      have fin : ∀ (jump : Option Code) (V3 : World), V3.heap[w.heap.size + 1]? = some (.loop { rec .ready none with state := .busy }) → V3.heap[w.heap.size]? = some (.deferred (some [])) →
          (Instr.endRound (w.heap.size + 1) jump).run P V3 = .ok (.bool jump.isNone) (V3.putObj (w.heap.size + 1) (.loop (rec (if jump.isNone then .ready else .done) jump))) ∧
          (V3.heap[w.heap.size + 1]? = some (.loop { rec .ready none with state := .busy })) ∧
          (V3.putObj (w.heap.size + 1) (.loop (rec (if jump.isNone then .ready else .done) jump))).heap[w.heap.size + 1]? = some (.loop (rec (if jump.isNone then .ready else .done) jump)) ∧
          (V3.putObj (w.heap.size + 1) (.loop (rec (if jump.isNone then .ready else .done) jump))).heap[w.heap.size]? = some (.deferred (some [])) := fun jump V3 hl3 hd3 => by
        have := run_endRound (P := P) jump hl3
        rw [hrec] at this ⊢
        exact ⟨this, by rw [hrec] at hl3; exact hl3, World.putObj_heap_same (Array.getElem?_eq_some_iff.1 hl3).1, (World.putObj_heap_other (by omega)).trans hd3⟩
      -- what a round that has left keeps
      have left : ∀ (V3 : World) (o' : Obj), KeepsFrom w.heap.size V2 V3 → KeepsFrom W1.heap.size V (V3.putObj (w.heap.size + 1) o') := fun V3 o' hk3 =>
        ⟨by have h1 := hk3.size; have h2 := hkp.size; simp only [World.putObj, Array.size_setIfInBounds]; omega, fun b o hb hV ho => by
          have h1 := hkp.block b o (Array.getElem?_eq_some_iff.1 hV).1 hV (nC ho)
          have h2 : V2.heap[b]? = some o := (hother b (by omega)).trans h1
          exact (World.putObj_heap_other (by omega)).trans (hk3.same b o (by omega) h2 ho)⟩
      -- what a whole round keeps
      have whole : ∀ (V3 : World), BN V.heap.size T V2 V3 → V3.heap[w.heap.size + 1]? = some (.loop { rec .ready none with state := .busy }) → Bt T V (V3.putObj (w.heap.size + 1) (.loop (rec .ready none))) := fun V3 hk3 hl3 => by
        have hs3 : (V3.putObj (w.heap.size + 1) (.loop (rec .ready none))).heap.size = V3.heap.size := by simp [World.putObj]
        refine ⟨Nat.le_refl _, by have h1 := hk3.size; have h2 := hkp.size; omega, fun b o hb hV hbT => ?_, hk3.os.trans (e2.1.trans hkp.os), hk3.tape.trans (e2.2.1.trans hkp.tape), hk3.output.trans (e2.2.2.trans hkp.output)⟩
        by_cases e : b = w.heap.size + 1
        · subst e
          rw [hl] at hV
          cases hV
          exact World.putObj_heap_same (Array.getElem?_eq_some_iff.1 hl3).1
        · rw [World.putObj_heap_other e]
          exact hk3.block b o hb ((hother b e).trans (hkp.block b o hb hV hbT)) hbT
      rintro e a3 V3 hp
      cases e with
      | normal =>
        obtain ⟨hk3, hi3⟩ := hp
        have hl3 := hk3.block _ _ hlt hl2 nL
        have hd3 := hk3.block _ _ (by omega) hd2 nD
        obtain ⟨hr, hl3, hl4, hd4⟩ := fin none V3 hl3 hd3
        have hw := whole V3 hk3 hl3
        exact ⟨_, _, hr, .inl ⟨rfl, ⟨hI.putObj _ hi3 (by omega) hl3 rfl, hkw.then hw, hl4, hd4⟩, hw⟩⟩
      | ret =>
        obtain ⟨hk3, hi3⟩ := hp
        obtain ⟨hr, hl3, hl4, hd4⟩ := fin (some .ret) V3 (hk3.same _ _ (by omega) hl2 rfl) (hk3.same _ _ (Nat.le_refl _) hd2 rfl)
        exact ⟨_, _, hr, .inr ⟨rfl, ⟨.ret, (hIx _).putObj _ hi3 (by omega) hl3 rfl, hl4, hd4⟩, left V3 _ hk3⟩⟩
      | exit id =>
        obtain ⟨hk3, hi3⟩ := hp
        obtain ⟨hr, hl3, hl4, hd4⟩ := fin (some (.exit id)) V3 (hk3.same _ _ (by omega) hl2 rfl) (hk3.same _ _ (Nat.le_refl _) hd2 rfl)
        exact ⟨_, _, hr, .inr ⟨rfl, ⟨.exit id, (hIx _).putObj _ hi3 (by omega) hl3 rfl, hl4, hd4⟩, left V3 _ hk3⟩⟩
      | goto t =>
        obtain ⟨hk3, hi3⟩ := hp
        obtain ⟨hr, hl3, hl4, hd4⟩ := fin (some (.goto t)) V3 (hk3.same _ _ (by omega) hl2 rfl) (hk3.same _ _ (Nat.le_refl _) hd2 rfl)
        exact ⟨_, _, hr, .inr ⟨rfl, ⟨.goto t, (hIx _).putObj _ hi3 (by omega) hl3 rfl, hl4, hd4⟩, left V3 _ hk3⟩⟩
      | panic ch => exact hp.elim
      | outgrown => exact hp.elim
    · -- behind the iterator
      rintro e V2 ⟨⟨v, rfl⟩, (⟨hi, hkw, hl, hd⟩ | ⟨k, hk, c, hi, hl, hd⟩)⟩
      · exact ⟨none, _, by have := run_endLoop (P := P) hl (by rw [hrec]; simp); rw [hrec] at this; exact this, hdone _ _ (Nat.le_refl _) (hI.putObj _ hi (by omega) hl rfl) (hkw.low (below_put _ (by omega))) ((World.putObj_heap_other (by omega)).trans hd)⟩
      · exact ⟨some c, _, by have := run_endLoop (P := P) hl (by rw [hrec]; simp); rw [hrec] at this; exact this, hstop _ c k _ (Nat.le_refl _) hk ((hIx c).putObj _ hi (by omega) hl rfl) ((World.putObj_heap_other (by omega)).trans hd)⟩
end SE
end Go.Proofs.Ytmikgkelmdgckaa

/- A tree in memory, with its pool; frames are given back. -/
import Derived.Test.YthiojnbnhagcgaaDoorRadSet
import Derived.Test.YthiojnbnhagcgaaDoorRadStep
import Derived.Test.YthiojnbnhagcgaaDoorFrameDo
namespace Go.Proofs.YthiojnbnhagcgaaDoor
open Go.ChangeShapes Go.WideShapes Go.ChangeAt Go.RowKit
set_option linter.unusedVariables false
set_option linter.unusedSimpArgs false

/-- A tree in memory: its own block g, its pool's blocks pg and pb, its map b. -/
structure TT (w : World) (g pg pb n m : Nat) (T : Nat → Bool) (r b : Nat) (M : Nat → Option (Nat → Nat)) : Prop where
  tm : TM w g pg r b M
  pl : PL w pg pb n m T
  g1 : g ≠ pg
  g2 : g ≠ pb
  g3 : g ≠ b
  b1 : b ≠ pg
  b2 : b ≠ pb
  k0 : 0 ≠ g
  k1 : 0 ≠ pg
  k2 : 0 ≠ pb
  k3 : 0 ≠ b

theorem KT.two {w w' : World} {x y : Nat} (h : KT w) (t : Two x y w w') (h1 : 0 ≠ x) (h2 : 0 ≠ y) : KT w' := by
  obtain ⟨e, fr, hk⟩ := h
  exact ⟨e, fr, (t.block _ (KT.lt ⟨e, fr, hk⟩) h1 h2).trans hk⟩
theorem MB.two {w w' : World} {x y b : Nat} {M : Nat → Option (Nat → Nat)} (h : MB w b M) (t : Two x y w w') (h1 : b ≠ x) (h2 : b ≠ y) : MB w' b M := h.heap (t.block _ h.lt h1 h2)
section
variable {w w' : World} {g pg pb n m r b : Nat} {T T' : Nat → Bool} {M M' : Nat → Option (Nat → Nat)}
theorem TT.keep (h : TT w g pg pb n m T r b M) (hb : Below w.heap.size w w') : TT w' g pg pb n m T r b M := ⟨h.tm.keep hb, h.pl.keep hb, h.g1, h.g2, h.g3, h.b1, h.b2, h.k0, h.k1, h.k2, h.k3⟩
/-- The pool was written. -/
theorem TT.pool (h : TT w g pg pb n m T r b M) (hp : PL w' pg pb n m T') (t : Two pg pb w w') : TT w' g pg pb n m T' r b M :=
  ⟨⟨h.tm.box.two t h.g1 h.g2, h.tm.mb.two t h.b1 h.b2, h.tm.kt.two t h.k1 h.k2⟩, hp, h.g1, h.g2, h.g3, h.b1, h.b2, h.k0, h.k1, h.k2, h.k3⟩
/-- The map was written. -/
theorem TT.map (h : TT w g pg pb n m T r b M) (hm : MB w' b M') (t : Two b b w w') : TT w' g pg pb n m T r b M' :=
  ⟨⟨h.tm.box.two t h.g3 h.g3, hm, h.tm.kt.two t h.k3 h.k3⟩, h.pl.two t (Ne.symm h.b1) (Ne.symm h.b1) (Ne.symm h.b2) (Ne.symm h.b2), h.g1, h.g2, h.g3, h.b1, h.b2, h.k0, h.k1, h.k2, h.k3⟩
/-- The map was written, and another block that is none of the tree's. -/
theorem TT.map2 {x : Nat} (h : TT w g pg pb n m T r b M) (hm : MB w' b M') (t : Two x b w w') (h1 : g ≠ x) (h2 : pg ≠ x) (h3 : pb ≠ x) (h4 : 0 ≠ x) : TT w' g pg pb n m T r b M' :=
  ⟨⟨h.tm.box.two t h1 h.g3, hm, h.tm.kt.two t h4 h.k3⟩, h.pl.two t h2 (Ne.symm h.b1) h3 (Ne.symm h.b2), h.g1, h.g2, h.g3, h.b1, h.b2, h.k0, h.k1, h.k2, h.k3⟩
end

theorem PL.below {w w' : World} {g b n m B : Nat} {T : Nat → Bool} (h : PL w g b n m T) (hb : Below B w w') (hg : g < B) (hbb : b < B) : PL w' g b n m T :=
  ⟨h.box.elim fun lf e => ⟨lf, e.1, e.2.below hb hg⟩, h.row.below hb hbb, h.ne, h.n1, h.n2, h.nm, h.m8, h.m2, h.pad⟩
theorem PL.lts {w : World} {g b n m : Nat} {T : Nat → Bool} (h : PL w g b n m T) : g < w.heap.size ∧ b < w.heap.size := ⟨h.box.elim fun lf e => e.2.lt, h.row.lt⟩
theorem Two.low {g b : Nat} {w w' w2 : World} (t : Two g b w w') (h : Below w.heap.size w' w2) : Two g b w w2 :=
  ⟨h.os.trans t.os, h.tape.trans t.tape, h.output.trans t.output, Nat.le_trans t.size h.size, fun k hk h1 h2 => (h.block k hk).trans (t.block k hk h1 h2)⟩
/-- All that was there is there, but for blocks of a list. -/
structure But (S : List Nat) (w w' : World) : Prop where
  os : w'.os = w.os
  tape : w'.tape = w.tape
  output : w'.output = w.output
  size : w.heap.size ≤ w'.heap.size
  block : ∀ k, k < w.heap.size → k ∉ S → w'.heap[k]? = w.heap[k]?
section
variable {S : List Nat} {w w' w2 : World}
theorem But.of (h : Below w.heap.size w w') : But S w w' := ⟨h.os, h.tape, h.output, h.size, fun k hk _ => h.block k hk⟩
theorem But.refl (S : List Nat) (w : World) : But S w w := But.of (Below.refl _ _)
theorem But.trans (h : But S w w') (k : But S w' w2) : But S w w2 :=
  ⟨k.os.trans h.os, k.tape.trans h.tape, k.output.trans h.output, Nat.le_trans h.size k.size, fun i hi hS => (k.block i (Nat.lt_of_lt_of_le hi h.size) hS).trans (h.block i hi hS)⟩
theorem But.two {x y : Nat} (t : Two x y w w') (hx : x ∈ S) (hy : y ∈ S) : But S w w' := ⟨t.os, t.tape, t.output, t.size, fun k hk hS => t.block k hk (fun e => hS (e ▸ hx)) (fun e => hS (e ▸ hy))⟩
theorem But.drew (h : But S w w') (n : Nat) : But S w (w'.drewN n) := ⟨h.os, h.tape, h.output, h.size, h.block⟩
theorem But.undrew {n : Nat} (h : But S (w.drewN n) w') : But S w w' := ⟨h.os, h.tape, h.output, h.size, h.block⟩
theorem But.set (h : But S w w') {p : Addr} (hp : p.block ∈ S ∨ w.heap.size ≤ p.block) (u : Value) : But S w (w'.setCell p u) :=
  ⟨h.os, h.tape, h.output, by simpa [World.setCell] using h.size, fun k hk hS => (Below.heap_setCell w' p u k (fun e => by
    rcases hp with hp | hp
    · exact hS (e ▸ hp)
    · omega)).trans (h.block k hk hS)⟩
theorem But.alloc (h : But S w w') (o : Obj) : But S w (w'.alloc o) := h.trans (But.of ((Below.refl _ _).alloc (Nat.le_refl _) o))
theorem But.keep (h : But S w w') (k : Below w'.heap.size w' w2) : But S w w2 := h.trans (But.of k)
theorem But.low (h : But S w w') (k : Below w.heap.size w' w2) : But S w w2 :=
  ⟨k.os.trans h.os, k.tape.trans h.tape, k.output.trans h.output, Nat.le_trans h.size k.size, fun i hi hS => (k.block i hi).trans (h.block i hi hS)⟩
theorem But.below {B : Nat} (h : But S w w') (hS : ∀ x ∈ S, B ≤ x) (hB : B ≤ w.heap.size) : Below B w w' :=
  ⟨h.os, h.tape, h.output, h.size, fun k hk => h.block k (by omega) (fun hm => by have := hS k hm; omega)⟩
/-- The world ahead of a call is given a letter. -/
theorem calls_world {P : Program} {f : FuncId} {args : Array Value} {Q : Ending → World → Prop} {W : World} (R : World → Prop) (h : R W) (k : ∀ W, R W → Calls P f args W Q) : Calls P f args W Q := k W h
theorem Blk.but {x : Nat} {e : TypeId} {l : List Value} (h : Blk w x e l) (t : But S w w') (hx : x ∉ S) : Blk w' x e l := (t.block x h.lt hx).trans h
theorem KT.but (h : KT w) (t : But S w w') (hx : 0 ∉ S) : KT w' := by
  obtain ⟨e, fr, hk⟩ := h
  exact ⟨e, fr, (t.block _ (KT.lt ⟨e, fr, hk⟩) hx).trans hk⟩
end

/-- Frames given back, one behind the other. -/
def freeAll (T : Nat → Bool) (fs : List Nat) : Nat → Bool := fun x => if x ∈ fs then false else T x
theorem free_nil (T : Nat → Bool) : freeAll T [] = T := by funext x; simp [freeAll]
theorem free_snoc (T : Nat → Bool) (fs : List Nat) (f : Nat) : FR.st (freeAll T fs) f 1 false = freeAll T (fs ++ [f]) := by
  funext x
  unfold FR.st freeAll
  by_cases h1 : x = f
  · subst h1; simp
  · by_cases h2 : x ∈ fs
    · simp [h2]
    · simp [h1, h2]; try omega
theorem puts_one {T : Nat → Bool} {n f : Nat} (h1 : f < n) (h2 : T f = true) : FR.Puts T n f 1 0 (FR.st T f 1 false) :=
  .inr (.inr (.inr ⟨rfl, 1, rfl, ⟨0, by omega, rfl⟩, by omega, by omega, fun i hi => by rw [show f + i = f by omega]; exact h2, rfl⟩))

/-- Numbers in a row of memory. -/
def Row (w : World) (blk off : Nat) (fs : List Nat) : Prop := ∀ (j : Nat) (hj : j < fs.length), w.cell? ⟨blk, off + j, none⟩ = some (.int .u64 ((fs[j] : Nat) : Int))

theorem give_nil (g : Nat) (a : Option Addr) (c : Nat) (w : World) :
    Calls Tryd.prog 33 #[.pointer (some ⟨g, 0, none⟩), .slice a 0 c] w fun e w' => e = .returned (.tuple #[]) ∧ w = w' := by
  go_enter Tryd.func33, Tryd.ntmps33
  go_wp2
  refine wp_loop_rounds 1 ?_
  rw [rounds_succ]
  go_wp2
  go_end0
  exact ⟨rfl, rfl⟩

set_option maxRecDepth 100000 in
set_option maxHeartbeats 2000000 in
theorem give_any (g pg pb n m r b blk off cap : Nat) (T : Nat → Bool) (M : Nat → Option (Nat → Nat)) (fs : List Nat) (w : World) (h : TT w g pg pb n m T r b M) (hr : Row w blk off fs) (hl : fs.length ≤ 65536) (hb : blk < w.heap.size) (h1 : blk ≠ pg) (h2 : blk ≠ pb)
    (hT : ∀ f ∈ fs, f < n ∧ T f = true) (hnd : fs.Nodup) :
    Calls Tryd.prog 33 #[.pointer (some ⟨g, 0, none⟩), .slice (some ⟨blk, off, none⟩) fs.length cap] w fun e w' =>
      e = .returned (.tuple #[]) ∧ PL w' pg pb n m (freeAll T fs) ∧ Two pg pb w w' := by
  obtain ⟨N, hN⟩ : ∃ N, fs.length = N := ⟨_, rfl⟩
  rw [hN]
  rw [hN] at hl
  have H := W_hid h
  have hn2 := h.pl.n2
  clear h
  go_enter Tryd.func33, Tryd.ntmps33
  go_wp2
  go_loopw [8] (fun i wr => ∃ k : Nat, k ≤ N ∧ i = .int .i64 (k : Int) ∧ PL wr pg pb n m (freeAll T (fs.take k)) ∧ Two pg pb w wr) (fun i _ => N - (intOf i).toNat)
  case atStart => exact ⟨0, by omega, rfl, by rw [List.take_zero, free_nil]; exact H.out.pl, Two.refl _ _ _⟩
  case round =>
    obtain ⟨k, hk, rfl, hP, t⟩ := hrel
    have c0 : wr.cell? ⟨g, 0, none⟩ = some (.pointer (some ⟨pg, 0, none⟩)) := (H.out.tm.box.two t H.out.g1 H.out.g2).cell rfl
    by_cases hlt : k < N
    · have hk2 : k < fs.length := by omega
      have hmem : fs[k] ∈ fs := List.getElem_mem hk2
      have hcell : wr.cell? ⟨blk, off + k, none⟩ = some (.int .u64 ((fs[k] : Nat) : Int)) := (cell_heap (t.block blk hb h1 h2) _).trans (hr k hk2)
      have hF := hT _ hmem
      have htk : freeAll T (fs.take k) fs[k] = true := by
        unfold freeAll
        rw [if_neg, hF.2]
        intro hm
        rw [List.nodup_iff_pairwise_ne] at hnd
        obtain ⟨j, hj, e⟩ := List.getElem_of_mem hm
        rw [List.length_take] at hj
        rw [List.getElem_take] at e
        exact (List.pairwise_iff_getElem.1 hnd j k (by omega) hk2 (by omega)) e
      have hFree := W_hid (fun w h => Free_any pg pb n m fs[k] _ _ 1 0 w h (by omega) (puts_one hF.1 htk))
      have hnext : Hid (FR.st (freeAll T (fs.take k)) fs[k] 1 false = freeAll T (fs.take (k + 1))) := by
        show _ = _
        rw [free_snoc, List.take_succ_eq_append_getElem hk2]
      generalize hfk : fs[k] = f at *
      have hlt3 : (k : Int) < N := by omega
      replace hP := W_hid hP
      replace t := W_hid t
      clear hfk hmem htk hF
      go_wp2_with fail
      refine (hFree.out _ hP.out).mono ?_
      rintro e w2 ⟨rfl, hP2, t2⟩
      rw [hnext.out] at hP2
      have hP2 := W_hid hP2
      have t3 := W_hid (t.out.trans t2)
      clear t2
      go_wp2
      go_roundw
      case rel => exact ⟨k + 1, by omega, by go_num, hP2.out, t3.out⟩
      case measure => simp [intOf]; omega
    · obtain rfl : k = N := by omega
      rw [List.take_of_length_le (by omega)] at hP
      replace hP := W_hid hP
      replace t := W_hid t
      go_wp2
      go_end0
      exact ⟨rfl, hP.out, t.out⟩
end Go.Proofs.YthiojnbnhagcgaaDoor

/- Layer 15: a queue and the document's side by side. -/
import Derived.Test.YtmikgkelmdgckaaRefSchA
import Derived.Test.YtmikgkelmdgckaaRefSch4
import Derived.Test.YtmikgkelmdgckaaRefSch5
import Derived.Test.YtmikgkelmdgckaaSchShown
import Derived.Test.YtmikgkelmdgckaaSchCat
import Derived.Test.YtmikgkelmdgckaaSchLot
namespace Go.Proofs.Ytmikgkelmdgckaa
open Go.ChangeShapes Go.WideShapes Go.ChangeAt Go.RowKit
set_option linter.unusedVariables false
set_option linter.unusedSimpArgs false
set_option maxRecDepth 100000
namespace SD
open IN (Keeps lt_of_some)
open FM (one)
section
variable {c : Nat} {S : Qs}
theorem good_addR (h : Good c S) (p n : Int) (hp : p ≤ 9223372036854775807) : Good (c + 1) (addR S p n).2 := by
  unfold addR
  split
  · exact h.le (Nat.le_succ c)
  · split
    · exact h.le (Nat.le_succ c)
    · rename_i h1 h2
      cases hg : get S.P p with
      | some x => exact h.le (Nat.le_succ c)
      | none => exact good_add h ⟨by omega, hp⟩ (by cases hh : isNice n with | true => rfl | false => exact absurd hh h2) hg
theorem good_remR (h : Good c S) (p : Int) : Good c (remR S p).2 := by
  unfold remR
  cases hg : get S.P p with
  | none => exact h
  | some x => exact good_rem h hg
theorem good_blkR (h : Good c S) (p : Int) : Good c (blkR S p).2 := by
  unfold blkR
  cases hg : get S.P p with
  | none => exact h
  | some x =>
    simp only
    split
    · exact good_blk h hg
    · exact h
theorem good_wakR (h : Good c S) (p : Int) : Good (c + 1) (wakR S p).2 := by
  unfold wakR
  cases hg : get S.P p with
  | none => exact h.le (Nat.le_succ c)
  | some x =>
    simp only
    split
    · exact h.le (Nat.le_succ c)
    · rename_i h1
      exact good_wak h hg (by cases hh : x.on with | true => exact absurd hh h1 | false => rfl)
theorem good_niceR (h : Good c S) (p n : Int) : Good c (niceR S p n).2 := by
  unfold niceR
  cases hg : get S.P p with
  | none => exact h
  | some x =>
    simp only
    split
    · exact h
    · rename_i h1
      exact good_nice h hg (by cases hh : isNice n with | true => rfl | false => exact absurd hh h1)
theorem ready_mem {q : Int} (h : q ∈ ready S) : q ∈ S.L := by
  unfold ready at h
  simp only [List.mem_append] at h
  rcases h with h | h | h | h | h <;> exact (mem_lst.1 h).1
theorem good_nextR (h : Good c S) : Good c (nextR S).2 := by
  unfold nextR
  cases hr : ready S with
  | nil => exact h
  | cons p t => exact good_next h (ready_mem (by rw [hr]; simp))
theorem good_lotR (h : Good c S) (b : Nat) : Good c (lotR S b).2 := by
  unfold lotR
  split
  · exact h
  · split
    · exact h
    · exact good_run h _ h.llen h.nd fun q => Iff.rfl
theorem loadR_le (h : Good c S) (p : Int) : (loadR S p).1 ≤ one := by
  unfold loadR
  cases hg : get S.P p with
  | none => exact Nat.zero_le _
  | some x => exact (h.get_ok hg).2.2.1
theorem shareR_lt (i : Int) (l : List Nat) : (shareR i l).1 < 18446744073709551616 := by
  unfold shareR
  split
  · rename_i h
    obtain ⟨h1, h2, h3⟩ := h
    unfold okW at h1
    rw [Bool.and_eq_true, List.all_eq_true] at h1
    have hi : i.toNat < l.length := by omega
    have := (quo_some (l[i.toNat]?.getD 0) (sums l) (by rw [List.getElem?_eq_getElem hi]; exact h1.1 _ (List.getElem_mem hi)) h1.2).2
    simp only
    omega
  · simp
theorem shrR_lt (S : Qs) (p : Int) : (shrR S p).1 < 18446744073709551616 := by
  unfold shrR
  cases hg : get S.P p with
  | none => simp
  | some x =>
    simp only
    split
    · exact shareR_lt _ _
    · simp
end
theorem QW.lower {base b : Nat} {w : World} {qb : Nat} {S : Qs} {X : Nat → Prop} (h : QW base w qb S X) (hb : b ≤ base) : QW b w qb S X := by
  obtain ⟨nb, vr, vl, h1, h2⟩ := h
  exact ⟨nb, vr, vl, ⟨h1.box, h1.nbox, Own.low hb h1.row, fun k hk => Own.low hb (h1.lst k hk), h1.inj, Nat.le_trans hb h1.ge.1, Nat.le_trans hb h1.ge.2⟩, h2⟩
theorem DW.lower {base b : Nat} {w : World} {rb : Nat} {S : Qs} {Y : Nat → Prop} (h : DW base w rb S Y) (hb : b ≤ base) : DW b w rb S Y := by
  obtain ⟨vp, vl, h1, h2⟩ := h
  exact ⟨vp, vl, ⟨h1.box, Own.low hb h1.row, Own.low hb h1.lst, Nat.le_trans hb h1.ge⟩, h2⟩
/-- Both queues. -/
def J (b : Nat) (w0 : World) (qb rb c : Nat) (S1 S2 : Qs) (Z : Nat → Prop) (w : World) : Prop :=
  ∃ X Y, QW b w qb S1 X ∧ DW b w rb S2 Y ∧ (∀ k, X k → ¬ Y k) ∧ (∀ k, Z k → ¬ X k ∧ ¬ Y k ∧ k < w.heap.size) ∧ Good c S1 ∧ Good c S2 ∧ Below b w0 w
section
variable {b : Nat} {w0 w w' : World} {qb rb c c' : Nat} {S1 S2 S' : Qs} {Z : Nat → Prop}
theorem J.ble (h : J b w0 qb rb c S1 S2 Z w) : b ≤ w.heap.size := by obtain ⟨X, Y, h1, -⟩ := h; exact h1.base_le
theorem J.bel (h : J b w0 qb rb c S1 S2 Z w) : Below b w0 w := by obtain ⟨X, Y, -, -, -, -, -, -, h1⟩ := h; exact h1
theorem J.good (h : J b w0 qb rb c S1 S2 Z w) : Good c S1 := by obtain ⟨X, Y, -, -, -, -, h1, -⟩ := h; exact h1
theorem J.le (h : J b w0 qb rb c S1 S2 Z w) (hc : c ≤ c') : J b w0 qb rb c' S1 S2 Z w := by
  obtain ⟨X, Y, h1, h2, h3, h4, h5, h6, h7⟩ := h
  exact ⟨X, Y, h1, h2, h3, h4, h5.le hc, h6.le hc, h7⟩
theorem J.keep (h : J b w0 qb rb c S1 S2 Z w) (hb : Below w.heap.size w w') : J b w0 qb rb c S1 S2 Z w' ∧ ∀ k, Z k → w'.heap[k]? = w.heap[k]? := by
  obtain ⟨X, Y, h1, h2, h3, h4, h5, h6, h7⟩ := h
  exact ⟨⟨X, Y, h1.keep hb, h2.keep hb, h3, fun k hk => ⟨(h4 k hk).1, (h4 k hk).2.1, Nat.lt_of_lt_of_le (h4 k hk).2.2 hb.size⟩, h5, h6, h7.trans (bel_mono hb h1.base_le)⟩, fun k hk => hb.block k (h4 k hk).2.2⟩
theorem J.alloc (h : J b w0 qb rb c S1 S2 Z w) (o : Obj) : J b w0 qb rb c S1 S2 (fun k => Z k ∨ k = w.heap.size) (w.alloc o) := by
  have hb : Below w.heap.size w (w.alloc o) := (Below.refl _ _).alloc (Nat.le_refl _) _
  obtain ⟨X, Y, h1, h2, h3, h4, h5, h6, h7⟩ := h
  refine ⟨X, Y, h1.keep hb, h2.keep hb, h3, fun k hk => ?_, h5, h6, h7.trans (bel_mono hb h1.base_le)⟩
  rcases hk with hk | rfl
  · exact ⟨(h4 k hk).1, (h4 k hk).2.1, by simp; exact Nat.lt_succ_of_lt (h4 k hk).2.2⟩
  · exact ⟨fun hx => by have := h1.lt _ hx; omega, fun hx => by have := h2.lt _ hx; omega, by simp⟩
/-- Another block that neither touches. -/
theorem J.more (h : J b w0 qb rb c S1 S2 Z w) (hb : Below w.heap.size w w') {Z' : Nat → Prop} (hZ : ∀ k, Z' k → w.heap.size ≤ k ∧ k < w'.heap.size) : J b w0 qb rb c S1 S2 (fun k => Z k ∨ Z' k) w' := by
  obtain ⟨⟨X, Y, h1, h2, h3, h4, h5, h6, h7⟩, -⟩ := h.keep hb
  obtain ⟨X', Y', g1, g2, g3, g4, -⟩ := h
  refine ⟨X', Y', g1.keep hb, g2.keep hb, g3, fun k hk => ?_, h5, h6, h7⟩
  rcases hk with hk | hk
  · exact ⟨(g4 k hk).1, (g4 k hk).2.1, Nat.lt_of_lt_of_le (g4 k hk).2.2 hb.size⟩
  · exact ⟨fun hx => by have := g1.lt _ hx; have := (hZ k hk).1; omega, fun hx => by have := g2.lt _ hx; have := (hZ k hk).1; omega, (hZ k hk).2⟩
theorem J.less (h : J b w0 qb rb c S1 S2 Z w) {Z' : Nat → Prop} (hZ : ∀ k, Z' k → Z k) : J b w0 qb rb c S1 S2 Z' w := by
  obtain ⟨X, Y, h1, h2, h3, h4, h5⟩ := h
  exact ⟨X, Y, h1, h2, h3, fun k hk => h4 k (hZ k hk), h5⟩
theorem kept_of {X : Nat → Prop} (h2 : Keeps b (fun k _ => X k) w w') (hZ : ∀ k, Z k → ¬ X k ∧ k < w.heap.size) : ∀ k, Z k → w'.heap[k]? = w.heap[k]? := fun k hk => by
  obtain ⟨o, ho⟩ : ∃ o, w.heap[k]? = some o := ⟨_, Array.getElem?_eq_getElem (hZ k hk).2⟩
  rw [ho, h2.block k o ho (hZ k hk).1]
theorem J.callP {f : FuncId} {args : Array Value} {r : Ending} (hcc : c ≤ c') (hG' : Good c S1 → Good c' S') (hc : ∀ X, QW b w qb S1 X → Good c S1 → Calls Try.prog f args w fun e w' => e = r ∧ QO b w qb S' X w') (h : J b w0 qb rb c S1 S2 Z w) :
    Calls Try.prog f args w fun e w' => e = r ∧ J b w0 qb rb c' S' S2 Z w' ∧ ∀ k, Z k → w'.heap[k]? = w.heap[k]? := by
  obtain ⟨X, Y, h1, h2, h3, h4, h5, h6, h7⟩ := h
  refine (hc X h1 h5).mono ?_
  rintro e w' ⟨rfl, X', k1, k2, k3⟩
  refine ⟨rfl, ⟨X', Y, k1, h2.keeps k2 fun k hk hx => h3 k hx hk, fun k hx hy => ?_, fun k hk => ⟨fun hx => ?_, (h4 k hk).2.1, Nat.lt_of_lt_of_le (h4 k hk).2.2 k2.size⟩, hG' h5, h6.le hcc, h7.trans (k2.below (Nat.le_refl _))⟩, kept_of k2 fun k hk => ⟨(h4 k hk).1, (h4 k hk).2.2⟩⟩
  · rcases k3 k hx with e | e
    · exact h3 k e hy
    · have := h2.lt k hy; omega
  · rcases k3 k hx with e | e
    · exact (h4 k hk).1 e
    · have := (h4 k hk).2.2; omega
theorem J.callD {f : FuncId} {args : Array Value} {r : Ending} (hcc : c ≤ c') (hG' : Good c S2 → Good c' S') (hc : ∀ Y, DW b w rb S2 Y → Good c S2 → Calls Try.prog f args w fun e w' => e = r ∧ DO b w rb S' Y w') (h : J b w0 qb rb c S1 S2 Z w) :
    Calls Try.prog f args w fun e w' => e = r ∧ J b w0 qb rb c' S1 S' Z w' ∧ ∀ k, Z k → w'.heap[k]? = w.heap[k]? := by
  obtain ⟨X, Y, h1, h2, h3, h4, h5, h6, h7⟩ := h
  refine (hc Y h2 h6).mono ?_
  rintro e w' ⟨rfl, Y', k1, k2, k3⟩
  refine ⟨rfl, ⟨X, Y', h1.keeps k2 h3, k1, fun k hx hy => ?_, fun k hk => ⟨(h4 k hk).1, fun hy => ?_, Nat.lt_of_lt_of_le (h4 k hk).2.2 k2.size⟩, h5.le hcc, hG' h6, h7.trans (k2.below (Nat.le_refl _))⟩, kept_of k2 fun k hk => ⟨(h4 k hk).2.1, (h4 k hk).2.2⟩⟩
  · rcases k3 k hy with e | e
    · exact h3 k hx e
    · have := h1.lt k hx; omega
  · rcases k3 k hy with e | e
    · exact (h4 k hk).2.1 e
    · have := (h4 k hk).2.2; omega
theorem J.callE {f : FuncId} {args : Array Value} {r : Ending} (hc : ∀ Y, DW b w rb S2 Y → Good c S2 → Calls Try.prog f args w fun e w' => e = r ∧ DO b w rb S1 Y w') (h : J b w0 qb rb c S1 S2 Z w) :
    Calls Try.prog f args w fun e w' => e = r ∧ J b w0 qb rb c S1 S1 Z w' ∧ ∀ k, Z k → w'.heap[k]? = w.heap[k]? :=
  J.callD (Nat.le_refl c) (fun _ => h.good) hc h
/-- A call of the program's that returns a list. -/
theorem J.rdy (h : J b w0 qb rb c S1 S2 Z w) (hc : c ≤ 50000) : Calls Try.prog 7 #[ptr qb] w fun e w' => ∃ v, e = .returned v ∧ w'.ownsRow w.heap.size TI 1 v (ready S1).length (icl (ready S1)) ∧ Below w.heap.size w w' ∧ J b w0 qb rb c S1 S2 (fun k => Z k ∨ v.ownBlock = some k) w' ∧ ∀ k, Z k → w'.heap[k]? = w.heap[k]? := by
  obtain ⟨X, Y, h1, h2, h3, h4, h5, h6, h7⟩ := h
  refine (Ready_any h1 h5 hc).mono ?_
  rintro e w' ⟨v, rfl, ho, hb⟩
  have hJ : J b w0 qb rb c S1 S2 Z w := ⟨X, Y, h1, h2, h3, h4, h5, h6, h7⟩
  refine ⟨v, rfl, ho, hb, hJ.more hb fun k hk => ⟨Own.ge ho k hk, ?_⟩, (hJ.keep hb).2⟩
  obtain ⟨cur, hc⟩ := own_obj ho hk
  exact lt_of_some hc
theorem J.rdyD (h : J b w0 qb rb c S1 S2 Z w) (hc : c ≤ 50000) : Calls Try.prog 57 #[ptr rb] w fun e w' => ∃ v, e = .returned v ∧ w'.ownsRow w.heap.size TI 1 v (ready S2).length (icl (ready S2)) ∧ Below w.heap.size w w' ∧ J b w0 qb rb c S1 S2 (fun k => Z k ∨ v.ownBlock = some k) w' ∧ ∀ k, Z k → w'.heap[k]? = w.heap[k]? := by
  obtain ⟨X, Y, h1, h2, h3, h4, h5, h6, h7⟩ := h
  refine (rReady_any h2 h6 hc).mono ?_
  rintro e w' ⟨v, rfl, ho, hb⟩
  have hJ : J b w0 qb rb c S1 S2 Z w := ⟨X, Y, h1, h2, h3, h4, h5, h6, h7⟩
  refine ⟨v, rfl, ho, hb, hJ.more hb fun k hk => ⟨Own.ge ho k hk, ?_⟩, (hJ.keep hb).2⟩
  obtain ⟨cur, hc⟩ := own_obj ho hk
  exact lt_of_some hc
end
theorem kind9 (k : Int) : ((((k.tmod 9) + 9).tmod 9) = 0 ∨ (((k.tmod 9) + 9).tmod 9) = 1 ∨ (((k.tmod 9) + 9).tmod 9) = 2 ∨ (((k.tmod 9) + 9).tmod 9) = 3 ∨ (((k.tmod 9) + 9).tmod 9) = 4 ∨ (((k.tmod 9) + 9).tmod 9) = 5 ∨ (((k.tmod 9) + 9).tmod 9) = 6 ∨ (((k.tmod 9) + 9).tmod 9) = 7 ∨ (((k.tmod 9) + 9).tmod 9) = 8) ∧ -8 ≤ k.tmod 9 ∧ k.tmod 9 ≤ 8 := by
  have h1 := Int.tmod_lt_of_pos k (show (0 : Int) < 9 by decide)
  have h2 : -9 < k.tmod 9 := by
    have := Int.lt_tmod_of_pos k (show (0 : Int) < 9 by decide)
    omega
  obtain ⟨t, ht⟩ : ∃ t, k.tmod 9 = t := ⟨_, rfl⟩
  rw [ht] at h1 h2 ⊢
  have : t = -8 ∨ t = -7 ∨ t = -6 ∨ t = -5 ∨ t = -4 ∨ t = -3 ∨ t = -2 ∨ t = -1 ∨ t = 0 ∨ t = 1 ∨ t = 2 ∨ t = 3 ∨ t = 4 ∨ t = 5 ∨ t = 6 ∨ t = 7 ∨ t = 8 := by omega
  rcases this with rfl | rfl | rfl | rfl | rfl | rfl | rfl | rfl | rfl | rfl | rfl | rfl | rfl | rfl | rfl | rfl | rfl <;> decide
end SD
end Go.Proofs.Ytmikgkelmdgckaa

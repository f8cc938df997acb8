/- Stage 18: a machine with one thread more. -/
import Derived.Test.YtjafjjfcmcpaoaaMmNew
namespace Go.Proofs.Ytjafjjfcmcpaoaa
open Go.ChangeShapes Go.WideShapes Go.ChangeAt Go.RowKit
set_option linter.unusedVariables false
set_option linter.unusedSimpArgs false
set_option maxRecDepth 100000
namespace MC
open IN (lt_of_some)
section
variable {lo a b : Nat} {w w' w1 : World} {gm gc : Nat} {vt vl : Value} {S : Ma} {L : List (Value × Th)} {lv : List Nat}
theorem PMg.grow (h : PMg lo a b w gm gc vt vl S L lv) (hb : Below w.heap.size w w') : PMg lo a w'.heap.size w' gm gc vt vl S L lv := by
  have hm : ∀ k, k < w.heap.size → w'.heap[k]? = w.heap[k]? := hb.block
  have hbt := h.raw.top
  have hs := hb.size
  refine ⟨⟨(hm gc h.raw.cel.lt).trans h.raw.cel, own_move h.raw.thr fun k hv => hm k (by have := h.raw.thb k hv; omega), h.raw.gc1, by have := h.raw.gc2; omega, fun k hk => by have := h.raw.thb k hk; omega, fun x hx => (h.raw.prg x hx).keep hb, fun x hx hn k hk => ?_, h.raw.lo, Nat.le_refl _, h.raw.r8⟩, (hm gm h.box.lt).trans h.box, own_move h.liv fun k hv => hm k (by have := h.lvb k hv; omega), h.gm1, by have := h.gm2; omega, fun k hk => by have := h.lvb k hk; omega, h.lt⟩
  rcases h.raw.far x hx hn k hk with h1 | ⟨h1, h2, arr, h3⟩
  · exact .inl h1
  · exact .inr ⟨h1, by omega, arr, (hm k (lt_of_some h3)).trans h3⟩
theorem own_lt {base e size n : Nat} {v : Value} {xs : List Value} (h : w.ownsRow base e size v n xs) {k : Nat} (hk : v.ownBlock = some k) : k < w.heap.size := by
  obtain ⟨cur, hc⟩ := own_obj h hk
  exact lt_of_some hc
/-- One thread more. -/
theorem PMg.pushT (h : PMg lo a b w gm gc vt vl S L lv) (hg : w.grownBy w1 vt.ownBlock) {vt' v : Value} {t : Th} (ho : w1.ownsRow a TT 10 vt' (L ++ [(v, t)]).length (tcl (L ++ [(v, t)]))) (hv : vt'.ownBlock = vt.ownBlock ∨ ∃ k, vt'.ownBlock = some k ∧ w.heap.size ≤ k)
    (hp : Own.Src w 5 v t.p.length (xcl t.p)) (hf : t.p ≠ [] → ∀ k, vb v = some k → a ≤ k ∧ ∃ arr, w.heap[k]? = some (.cells arr TX (0, 0))) (h8 : t.r.length = 8) :
    PMg lo a w1.heap.size (w1.setCell ⟨gm, 1, none⟩ vt') gm gc vt' vl ⟨S.c, S.t ++ [t]⟩ (L ++ [(v, t)]) lv ∧ Win a w.heap.size w (w1.setCell ⟨gm, 1, none⟩ vt') := by
  have hgmv : vt.ownBlock ≠ some gm := fun e => by
    obtain ⟨cur, hc⟩ := own_obj h.raw.thr e
    exact obj_ne h.box hc (by decide) rfl
  have hne : ∀ k, vt.ownBlock = some k → ∀ {x : Array Value} {e : TypeId} {g : Nat}, w.heap[g]? = some (.cells x e (0, 0)) → e ≠ TT → g ≠ k := fun k hk x e g hx he => by
    obtain ⟨cur, hc⟩ := own_obj h.raw.thr hk
    exact obj_ne hx hc he
  have same : ∀ k, k < w.heap.size → k ≠ gm → some k ≠ vt.ownBlock → (w1.setCell ⟨gm, 1, none⟩ vt').heap[k]? = w.heap[k]? := fun k h1 h2 h3 => (Below.heap_setCell w1 ⟨gm, 1, none⟩ vt' k h2).trans (hg.block k h1 h3)
  have hbt := h.raw.top
  have hs := hg.size
  have hgc : some gc ≠ vt.ownBlock := fun e => hne gc e.symm h.raw.cel (by decide) rfl
  have hmc : gc ≠ gm := fun e => obj_ne h.box h.raw.cel (by decide) e.symm
  have hgm' : Blk w1 gm TM _ := h.box.grown hg (fun e => hgmv e.symm)
  have hxk : ∀ x ∈ L, x.2.p ≠ [] → ∀ k, vb x.1 = some k → k < w.heap.size ∧ k ≠ gm ∧ some k ≠ vt.ownBlock := fun x hx hn k hk => by
    rcases h.raw.far x hx hn k hk with h1 | ⟨h1, h2, arr, h3⟩
    · have := h.raw.lo
      have := h.gm1
      have := h.box.lt
      refine ⟨by omega, by omega, fun e => ?_⟩
      have := Own.ge h.raw.thr k e.symm
      omega
    · exact ⟨lt_of_some h3, obj_ne h3 h.box (by decide), fun e => hne k e.symm h3 (by decide) rfl⟩
  have htk : t.p ≠ [] → ∀ k, vb v = some k → k < w.heap.size ∧ k ≠ gm ∧ some k ≠ vt.ownBlock := fun hn k hk => by
    obtain ⟨h1, arr, h3⟩ := hf hn k hk
    exact ⟨lt_of_some h3, obj_ne h3 h.box (by decide), fun e => hne k e.symm h3 (by decide) rfl⟩
  have hsz : (w1.setCell ⟨gm, 1, none⟩ vt').heap.size = w1.heap.size := by simp [World.setCell]
  refine ⟨⟨⟨(same gc h.raw.cel.lt hmc hgc).trans h.raw.cel, own_move ho fun k hk => Below.heap_setCell w1 ⟨gm, 1, none⟩ vt' k (fun e => ?_), h.raw.gc1, by have := h.raw.gc2; omega, fun k hk => own_lt ho hk, fun x hx => ?_, fun x hx hn k hk => ?_, h.raw.lo, by rw [hsz]; exact Nat.le_refl _, fun x hx => ?_⟩, hgm'.set 1 vt', own_move h.liv fun k hk => same k (own_lt h.liv hk) (fun e => ?_) (fun e => ?_), h.gm1, by have := h.gm2; omega, fun k hk => by have := own_lt h.liv hk; omega, ?_⟩, ?_⟩
  · subst e
    rcases hv with hv | ⟨k2, hv, h2⟩
    · exact hgmv (hv.symm.trans hk)
    · rw [hv] at hk
      have := Option.some.inj hk
      have := h.box.lt
      omega
  · rcases List.mem_append.1 hx with hx | hx
    · exact src_move (h.raw.prg x hx) fun hn k hk => by obtain ⟨h1, h2, h3⟩ := hxk x hx (xne hn) k hk; exact same k h1 h2 h3
    · obtain rfl := List.mem_singleton.1 hx
      exact src_move hp fun hn k hk => by obtain ⟨h1, h2, h3⟩ := htk (xne hn) k hk; exact same k h1 h2 h3
  · rcases List.mem_append.1 hx with hx | hx
    · obtain ⟨h1, h2, h3⟩ := hxk x hx hn k hk
      rcases h.raw.far x hx hn k hk with h4 | ⟨h4, h5, arr, h6⟩
      · exact .inl h4
      · exact .inr ⟨h4, by omega, arr, (same k h1 h2 h3).trans h6⟩
    · obtain rfl := List.mem_singleton.1 hx
      obtain ⟨h1, h2, h3⟩ := htk hn k hk
      obtain ⟨h4, arr, h5⟩ := hf hn k hk
      exact .inr ⟨h4, by omega, arr, (same k h1 h2 h3).trans h5⟩
  · rcases List.mem_append.1 hx with hx | hx
    · exact h.raw.r8 x hx
    · obtain rfl := List.mem_singleton.1 hx
      exact h8
  · subst e
    obtain ⟨cur, hc⟩ := own_obj h.liv hk
    exact obj_ne h.box hc (by decide) rfl
  · obtain ⟨cur, hc⟩ := own_obj h.liv hk
    exact hne k e.symm hc (by decide) rfl
  · rw [List.map_append, h.lt]; rfl
  · have hgm1 := h.gm1
    exact (Win.grown hg (fun k hk => ⟨Own.ge h.raw.thr k hk, own_lt h.raw.thr hk⟩)).set (p := ⟨gm, 1, none⟩) ⟨hgm1, h.box.lt⟩ _
/-- One number more in the list of those that have not ended. -/
theorem PMg.pushL (h : PMg lo a b w gm gc vt vl S L lv) (hg : w.grownBy w1 vl.ownBlock) {vl' : Value} {i : Nat} (ho : w1.ownsRow a TI 1 vl' (lv ++ [i]).length (ncl (lv ++ [i]))) (hv : vl'.ownBlock = vl.ownBlock ∨ ∃ k, vl'.ownBlock = some k ∧ w.heap.size ≤ k) :
    PMg lo a w1.heap.size (w1.setCell ⟨gm, 2, none⟩ vl') gm gc vt vl' S L (lv ++ [i]) ∧ Win a w.heap.size w (w1.setCell ⟨gm, 2, none⟩ vl') := by
  have hgmv : vl.ownBlock ≠ some gm := fun e => by
    obtain ⟨cur, hc⟩ := own_obj h.liv e
    exact obj_ne h.box hc (by decide) rfl
  have hne : ∀ k, vl.ownBlock = some k → ∀ {x : Array Value} {e : TypeId} {g : Nat}, w.heap[g]? = some (.cells x e (0, 0)) → e ≠ TI → g ≠ k := fun k hk x e g hx he => by
    obtain ⟨cur, hc⟩ := own_obj h.liv hk
    exact obj_ne hx hc he
  have same : ∀ k, k < w.heap.size → k ≠ gm → some k ≠ vl.ownBlock → (w1.setCell ⟨gm, 2, none⟩ vl').heap[k]? = w.heap[k]? := fun k h1 h2 h3 => (Below.heap_setCell w1 ⟨gm, 2, none⟩ vl' k h2).trans (hg.block k h1 h3)
  have hbt := h.raw.top
  have hs := hg.size
  have hgc : some gc ≠ vl.ownBlock := fun e => hne gc e.symm h.raw.cel (by decide) rfl
  have hmc : gc ≠ gm := fun e => obj_ne h.box h.raw.cel (by decide) e.symm
  have hgm' : Blk w1 gm TM _ := h.box.grown hg (fun e => hgmv e.symm)
  have hxk : ∀ x ∈ L, x.2.p ≠ [] → ∀ k, vb x.1 = some k → k < w.heap.size ∧ k ≠ gm ∧ some k ≠ vl.ownBlock := fun x hx hn k hk => by
    rcases h.raw.far x hx hn k hk with h1 | ⟨h1, h2, arr, h3⟩
    · have := h.raw.lo
      have := h.gm1
      have := h.box.lt
      refine ⟨by omega, by omega, fun e => ?_⟩
      have := Own.ge h.liv k e.symm
      omega
    · exact ⟨lt_of_some h3, obj_ne h3 h.box (by decide), fun e => hne k e.symm h3 (by decide) rfl⟩
  have hsz : (w1.setCell ⟨gm, 2, none⟩ vl').heap.size = w1.heap.size := by simp [World.setCell]
  refine ⟨⟨⟨(same gc h.raw.cel.lt hmc hgc).trans h.raw.cel, own_move h.raw.thr fun k hk => same k (own_lt h.raw.thr hk) (fun e => ?_) (fun e => ?_), h.raw.gc1, by have := h.raw.gc2; omega, fun k hk => by have := own_lt h.raw.thr hk; omega, fun x hx => src_move (h.raw.prg x hx) fun hn k hk => by obtain ⟨h1, h2, h3⟩ := hxk x hx (xne hn) k hk; exact same k h1 h2 h3, fun x hx hn k hk => ?_, h.raw.lo, by rw [hsz]; exact Nat.le_refl _, h.raw.r8⟩, hgm'.set 2 vl', own_move ho fun k hk => Below.heap_setCell w1 ⟨gm, 2, none⟩ vl' k (fun e => ?_), h.gm1, by have := h.gm2; omega, fun k hk => own_lt ho hk, h.lt⟩, ?_⟩
  · subst e
    obtain ⟨cur, hc⟩ := own_obj h.raw.thr hk
    exact obj_ne h.box hc (by decide) rfl
  · obtain ⟨cur, hc⟩ := own_obj h.raw.thr hk
    exact hne k e.symm hc (by decide) rfl
  · obtain ⟨h1, h2, h3⟩ := hxk x hx hn k hk
    rcases h.raw.far x hx hn k hk with h4 | ⟨h4, h5, arr, h6⟩
    · exact .inl h4
    · exact .inr ⟨h4, by omega, arr, (same k h1 h2 h3).trans h6⟩
  · subst e
    rcases hv with hv | ⟨k2, hv, h2⟩
    · exact hgmv (hv.symm.trans hk)
    · rw [hv] at hk
      have := Option.some.inj hk
      have := h.box.lt
      omega
  · have hgm1 := h.gm1
    exact (Win.grown hg (fun k hk => ⟨Own.ge h.liv k hk, own_lt h.liv hk⟩)).set (p := ⟨gm, 2, none⟩) ⟨hgm1, h.box.lt⟩ _
end
end MC
end Go.Proofs.Ytjafjjfcmcpaoaa

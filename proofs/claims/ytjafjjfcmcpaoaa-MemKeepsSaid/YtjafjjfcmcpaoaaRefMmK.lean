/- Stage 18, the document: Step, kit. -/
import Derived.Test.YtjafjjfcmcpaoaaRefMmL
namespace Go.Proofs.Ytjafjjfcmcpaoaa
open Go.ChangeShapes Go.WideShapes Go.ChangeAt Go.RowKit
set_option linter.unusedVariables false
set_option linter.unusedSimpArgs false
set_option maxRecDepth 100000
namespace MC
open IN (lt_of_some)
section
variable {lo a b : Nat} {w w' : World} {gm gc : Nat} {vt : Value} {S : Ma} {L : List (Value × Th)}
theorem DMg.mgc (h : DMg lo a b w gm gc vt S L) : gm ≠ gc := obj_ne h.box h.raw.cel (by decide)
theorem DMg.mg (h : DMg lo a b w gm gc vt S L) {g : Nat} (hg : vt.ownBlock = some g) : gm ≠ g := by
  obtain ⟨cur, hc⟩ := own_obj h.raw.thr hg
  exact obj_ne h.box hc (by decide)
theorem DMg.setT {g cap n : Nat} (h : DMg lo a b w gm gc (.slice (some ⟨g, 0, none⟩) n cap) S L) {i : Nat} {v : Value} {t u : Th} (hi : L[i]? = some (v, t)) (m : Nat) (x : Value) (hm : m < 10) (hx : (trow v t).set m x = trow v u) (h8 : u.r.length = 8) (hp : u.p = t.p) :
    DMg lo a b (w.setCell ⟨g, i * 10 + m, none⟩ x) gm gc (.slice (some ⟨g, 0, none⟩) n cap) ⟨S.c, S.t.set i u⟩ (L.set i (v, u)) := by
  have hn : L.length = n := by
    obtain ⟨ao, c2, he⟩ := Own.form h.raw.thr
    simp only [Value.slice.injEq] at he
    exact he.2.1.symm
  refine ⟨h.raw.setT hn (by decide) (by decide) hi m x hm hx h8 hp, h.box.far (p := ⟨g, i * 10 + m, none⟩) (h.mg rfl) x, h.gm1, h.gm2, ?_⟩
  rw [List.map_set, h.lt]
theorem DMg.setC (h : DMg lo a b w gm gc vt S L) (j : Nat) (x : Int) : DMg lo a b (w.setCell ⟨gc, j, none⟩ (.int .i64 x)) gm gc vt ⟨S.c.set j x, S.t⟩ L :=
  ⟨h.raw.setC (by decide) j x, by rw [List.length_set]; exact h.box.far (p := ⟨gc, j, none⟩) h.mgc _, h.gm1, h.gm2, h.lt⟩
theorem DMg.drewN (h : DMg lo a b w gm gc vt S L) (n : Nat) : DMg lo a b (w.drewN n) gm gc vt S L := h.moved (Nat.le_refl _) fun _ _ => rfl
theorem tmod_turn {q : Int} {n : Nat} (hn : 0 < n) : (q < 0 → (-1 - q).tmod (n : Int) = ((turn q n : Nat) : Int)) ∧ (¬ q < 0 → q.tmod (n : Int) = ((turn q n : Nat) : Int)) := by
  refine ⟨fun h => ?_, fun h => ?_⟩
  · unfold turn
    rw [if_pos h, Int.tmod_eq_emod_of_nonneg (by omega)]
    have := Int.emod_nonneg (-1 - q) (show (n : Int) ≠ 0 by omega)
    omega
  · unfold turn
    rw [if_neg h, Int.tmod_eq_emod_of_nonneg (by omega)]
    have := Int.emod_nonneg q (show (n : Int) ≠ 0 by omega)
    omega
set_option maxRecDepth 100000 in
set_option maxHeartbeats 4000000 in
theorem rstep_none {N : Nat} {q : Int} (h : DW lo a b w gm S) (hF : Fit N S) (hp : pick S q = none) :
    Calls Try.prog 13 #[ptr gm, .int .i64 q] w fun e w' => e = .returned (.int .i64 (-1)) ∧ Below w.heap.size w w' := by
  have hl := W_hid (rLive_any h hF.n)
  have hz : (live S.t).length = 0 := by
    rcases Nat.eq_zero_or_pos (live S.t).length with h0 | h0
    · exact h0
    · obtain ⟨i, hi, -⟩ := pick_some (q := q) h0
      rw [hp] at hi; cases hi
  rw [hz] at hl
  clear h hF hp hz
  go_enter Try.func13, Try.ntmps13
  go_wp2_with (go_at_call 18; refine hl.out.mono ?_; rintro e w1 ⟨v, rfl, ho, hb⟩; obtain ⟨a1, c1, rfl⟩ := Own.form ho; replace ho := W_hid ho)
  go_ret
  exact ⟨rfl, hb⟩
end
end MC
end Go.Proofs.Ytjafjjfcmcpaoaa

/- What is found as a gap is free. -/
import Derived.Test.YtfbhcnamkojboaaRegGap
namespace Go.Proofs.Ytfbhcnamkojboaa
set_option linter.unusedVariables false
set_option linter.unusedSimpArgs false
open RG (Rg)

theorem gp_no {l : List Rg} {lo hi sz st : Nat} (h : gpE l lo hi sz st ≠ 0) : gpV l lo hi sz st = 0 := by
  unfold gpE at h
  unfold gpV
  by_cases hk : gpOk l lo hi sz st
  · rw [if_pos hk] at h ⊢
    cases e : RG.gq sz hi (RG.gp st sz lo (RG.meeting lo hi l)) with
    | none => rfl
    | some x => rw [e] at h; exact absurd rfl h
  · rw [if_neg hk]
theorem good1 {a b : Nat} (h1 : a % 4096 = 0) (h2 : b % 4096 = 0) (h3 : a < b) (h4 : b ≤ 140737488355328) : RG.good ⟨a, b, 1, 0⟩ :=
  ⟨⟨h1, h2, h3, h4⟩, ⟨by show (1 : Int) ≤ 1; omega, by show (1 : Int) ≤ 7; omega⟩, by show (0 : Int) ≤ 0; omega, by show (0 : Int) ≤ 2; omega⟩
theorem reg_free {l : List Rg} {lo hi sz : Nat} (h : gpE l lo hi sz 4096 = 0) : ∃ g, gpV l lo hi sz 4096 = g ∧ lo ≤ g ∧ g + sz ≤ hi ∧ hi ≤ 140737488355328 ∧ adE l ⟨g, g + sz, 1, 0⟩ = 0 ∧
    (g = lo ∨ (lo < g ∧ 4096 ≤ g ∧ adE l ⟨g - 4096, g + sz - 4096, 1, 0⟩ = 102)) := by
  unfold gpE at h
  by_cases hk : gpOk l lo hi sz 4096
  · rw [if_pos hk] at h
    have hk' := hk
    obtain ⟨hok, _, h1, h2, h3, h4, h5⟩ := hk
    cases e : RG.gq sz hi (RG.gp 4096 sz lo (RG.meeting lo hi l)) with
    | none => rw [e] at h; cases h
    | some g =>
      have hr := RG.gap_eq (s := true) (st := 4096) (sz := sz) (lo := lo) (hi := hi) (by decide) (by omega) l none none lo hok (fun y' e => by cases e) ⟨Nat.le_refl _, h1, .inl rfl⟩ h4
      rw [e] at hr
      obtain ⟨r1, r2, r3, r4, r5⟩ := RG.gr_free (by decide) (by omega) l none lo g hok h1 hr
      refine ⟨g, by unfold gpV; rw [if_pos hk', e]; rfl, r1, r3, h5, ?_, ?_⟩
      · have hg : RG.good ⟨g, g + sz, 1, 0⟩ := good1 r2 (by omega) (by omega) (by omega)
        have hp : RG.parts g (g + sz) l = [] := RG.parts_nil.2 fun a a1 a2 => RG.D_none.2 fun r hr hh => by have := r4 r hr; omega
        unfold adE
        rw [if_pos ⟨hok, hg⟩, if_pos hp]
      · rcases r5 with r5 | ⟨r, hr, r5⟩
        · exact .inl r5
        · have hgr := (hok.good_of r hr).1
          obtain ⟨q1, q2, q3, q4⟩ := hgr
          have hup : RG.up r.t 4096 = r.t := by rw [RG.up_eq (by decide), if_pos q2]
          rw [hup] at r5
          by_cases hl : g = lo
          · exact .inl hl
          · right
            have hg4 : 4096 ≤ g := by omega
            refine ⟨by omega, hg4, ?_⟩
            have hg : RG.good ⟨g - 4096, g + sz - 4096, 1, 0⟩ := good1 (by omega) (by omega) (by omega) (by omega)
            have hp : RG.parts (g - 4096) (g + sz - 4096) l ≠ [] := fun e => by
              have := RG.parts_nil.1 e (g - 4096) (Nat.le_refl _) (by omega)
              exact RG.D_mem hr (a := g - 4096) (by omega) (by omega) this
            unfold adE
            rw [if_pos ⟨hok, hg⟩, if_neg hp]
  · rw [if_neg hk] at h; cases h
end Go.Proofs.Ytfbhcnamkojboaa

/- The laws of layer 9 (package haywardlaw09), RegionBack, RegionOrder and RegionPieces: for every input they return true, and their arguments read as before. No further condition. -/
import Derived.Test.YtfbhcnamkojboaaLaws09
namespace Go.Proofs.Ytfbhcnamkojboaa
open Go.ChangeShapes Go.WideShapes Go.ChangeAt Go.RowKit
open SQ
set_option linter.unusedVariables false
set_option linter.unusedSimpArgs false
open RG (Rg)

theorem shown_one : adE [] ⟨4096, 8192, 3, 0⟩ = 0 ∧ adL [] ⟨4096, 8192, 3, 0⟩ = [⟨4096, 8192, 3, 0⟩] := by
  have h : RG.Ok true none [] ∧ RG.good ⟨4096, 8192, 3, 0⟩ := ⟨trivial, by decide +kernel⟩
  have hp : RG.parts (⟨4096, 8192, 3, 0⟩ : Rg).f (⟨4096, 8192, 3, 0⟩ : Rg).t [] = [] := rfl
  unfold adE adL
  rw [if_pos h, if_pos hp, if_pos ⟨h.1, h.2, hp⟩]
  exact ⟨rfl, by decide +kernel⟩
theorem shown_two : adE [⟨4096, 8192, 3, 0⟩] ⟨8192, 12288, 3, 0⟩ = 0 ∧ adL [⟨4096, 8192, 3, 0⟩] ⟨8192, 12288, 3, 0⟩ = [⟨4096, 12288, 3, 0⟩] := by
  have h : RG.Ok true none [⟨4096, 8192, 3, 0⟩] ∧ RG.good ⟨8192, 12288, 3, 0⟩ := ⟨⟨⟨by decide +kernel, fun _ e => by cases e⟩, trivial⟩, by decide +kernel⟩
  have hp : RG.parts (⟨8192, 12288, 3, 0⟩ : Rg).f (⟨8192, 12288, 3, 0⟩ : Rg).t [⟨4096, 8192, 3, 0⟩] = [] := by decide +kernel
  unfold adE adL
  rw [if_pos h, if_pos hp, if_pos ⟨h.1, h.2, hp⟩]
  exact ⟨rfl, by decide +kernel⟩
set_option maxRecDepth 100000 in
set_option maxHeartbeats 1000000 in
theorem shown_any (w : World) : Gv 7 #[] (.bool true) w := by
  have hP : Hid (∀ w, GvE 8 #[.slice none 0 0, .agg #[.int .u64 4096, .int .u64 8192, .int .i64 3, .int .i64 0]] [⟨4096, 8192, 3, 0⟩] 0 w) := by
    intro w
    have := Add_any none 0 0 [] 4096 8192 3 0 w (GL_nil w)
    rw [shown_one.1, shown_one.2] at this
    exact this
  have hQ : Hid (∀ w ao n c, GL w ao n c [⟨4096, 8192, 3, 0⟩] → GvE 8 #[.slice ao n c, .agg #[.int .u64 8192, .int .u64 12288, .int .i64 3, .int .i64 0]] [⟨4096, 12288, 3, 0⟩] 0 w) := by
    intro w ao n c h
    have := Add_any ao n c [⟨4096, 8192, 3, 0⟩] 8192 12288 3 0 w h
    rw [shown_two.1, shown_two.2] at this
    exact this
  go_enter Try.func7, Try.ntmps7
  go_wp2_with fail
  refine (hP.out _).mono ?_
  rintro e w1 ⟨a1, c1, rfl, hown1, bel1⟩
  have hL1 := GL_own hown1
  go_wp2_with fail
  refine (hQ.out _ _ _ _ hL1).mono ?_
  rintro e w2 ⟨a2, c2, rfl, hown2, bel2⟩
  obtain ⟨blk, off, rfl, hlt, hc⟩ := (RS_own hown2).at_ (by decide)
  obtain ⟨e1, e2, e3, e4⟩ := hc 0 (by decide)
  simp only [Nat.zero_mul, Nat.add_zero, List.getElem_cons_zero] at e1 e2 e3 e4
  have bel3 := bel1.trans (bel2.mono bel1.size)
  clear hc hown1 hown2 hL1 hP hQ
  go_wp2
  go_ret
  exact ⟨rfl, bel3⟩

end Go.Proofs.Ytfbhcnamkojboaa

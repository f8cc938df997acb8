/- Stage 18, the document: Step, whatever the instruction. -/
import Derived.Test.YtjafjjfcmcpaoaaRefMmS0
import Derived.Test.YtjafjjfcmcpaoaaRefMmS1
import Derived.Test.YtjafjjfcmcpaoaaRefMmS2
import Derived.Test.YtjafjjfcmcpaoaaRefMmS3
import Derived.Test.YtjafjjfcmcpaoaaRefMmS4
import Derived.Test.YtjafjjfcmcpaoaaRefMmS5
import Derived.Test.YtjafjjfcmcpaoaaRefMmS6
import Derived.Test.YtjafjjfcmcpaoaaRefMmS7
namespace Go.Proofs.Ytjafjjfcmcpaoaa
open Go.ChangeShapes Go.WideShapes Go.ChangeAt Go.RowKit
set_option linter.unusedVariables false
set_option linter.unusedSimpArgs false
namespace MC
section
variable {lo a b : Nat} {w : World} {gm : Nat} {S : Ma}
theorem rStep_any {N : Nat} {q : Int} (h : DW lo a b w gm S) (hF : Fit N S) (hq : I64 q) : Calls Try.prog 13 #[ptr gm, .int .i64 q] w fun e w' => e = .returned (.int .i64 (one S q).2) ∧ DW lo a b w' gm (one S q).1 ∧ Win a b w w' := by
  rcases hp : pick S q with _ | i
  · have e : one S q = (S, -1) := by unfold one; rw [hp]
    rw [e]
    refine (rstep_none h hF hp).mono ?_
    rintro e w' ⟨rfl, hb⟩
    exact ⟨rfl, h.keep hb, Win.of hb⟩
  have e1 : one S q = (step S i, (i : Int)) := by unfold one; rw [hp]
  rw [e1]
  clear e1
  obtain ⟨t, ht, ho⟩ := pick_mem hp
  obtain ⟨h0, hl, x, hx⟩ := on_at ho
  have hst : step S i = ⟨(run1 x S.c t.r t.pc).1, S.t.set i ⟨t.p, (run1 x S.c t.r t.pc).2.1, (run1 x S.c t.r t.pc).2.2⟩⟩ := by
    unfold step
    rw [ht]
    unfold does
    simp only [hx]
  rw [hst]
  clear hst
  obtain ⟨c, T⟩ := S
  obtain ⟨p, r, pc⟩ := t
  obtain ⟨op, cell, ia, ib, it⟩ := x
  simp only at h0 hx ht ⊢
  obtain ⟨k, rfl⟩ : ∃ k : Nat, pc = k := ⟨pc.toNat, by omega⟩
  rw [Int.toNat_natCast] at hx
  by_cases hs : snd ⟨op, cell, ia, ib, it⟩ c.length = false
  · have e : run1 ⟨op, cell, ia, ib, it⟩ c r k = (c, r, -1) := by unfold run1; rw [if_pos hs]
    rw [e]
    exact rstep_bad h hF hq hp ht hx hs
  have hs : snd ⟨op, cell, ia, ib, it⟩ c.length = true := by simpa using hs
  have hn : ¬ snd ⟨op, cell, ia, ib, it⟩ c.length = false := by rw [hs]; simp
  by_cases h1 : op = 1
  · subst h1
    obtain ⟨q, rfl, hq'⟩ := isR_some (n := it) (by simpa [snd] using hs)
    have e : run1 ⟨1, cell, ia, ib, (q : Int)⟩ c r k = (c, r.set q ia, (k : Int) + 1) := by unfold run1; rw [if_neg hn]; simp
    rw [e]
    exact rstep_set h hF hq hp ht hx hs hq'
  by_cases h2 : op = 2
  · subst h2
    have h3 : hasC c.length cell = true ∧ isR it = true := by simpa [snd] using hs
    obtain ⟨qc, rfl, hc⟩ := hasC_some h3.1
    obtain ⟨q, rfl, hq'⟩ := isR_some h3.2
    have e : run1 ⟨2, (qc : Int), ia, ib, (q : Int)⟩ c r k = (c, r.set q (c.getD qc 0), (k : Int) + 1) := by unfold run1; rw [if_neg hn]; simp [gt]
    rw [e]
    exact rstep_load h hF hq hp ht hx hs hq' hc
  by_cases h3 : op = 3
  · subst h3
    have h3 : hasC c.length cell = true ∧ isR ia = true := by simpa [snd] using hs
    obtain ⟨qc, rfl, hc⟩ := hasC_some h3.1
    obtain ⟨qa, rfl, hq'⟩ := isR_some h3.2
    have e : run1 ⟨3, (qc : Int), (qa : Int), ib, it⟩ c r k = (c.set qc (r.getD qa 0), r, (k : Int) + 1) := by unfold run1; rw [if_neg hn]; simp [gt]
    rw [e]
    exact rstep_store h hF hq hp ht hx hs hq' hc
  by_cases h4 : op = 4
  · subst h4
    have h3 : ((hasC c.length cell = true ∧ isR ia = true) ∧ isR ib = true) ∧ isR it = true := by simpa [snd] using hs
    obtain ⟨qc, rfl, hc⟩ := hasC_some h3.1.1.1
    obtain ⟨qa, rfl, hqa⟩ := isR_some h3.1.1.2
    obtain ⟨qb, rfl, hqb⟩ := isR_some h3.1.2
    obtain ⟨q, rfl, hq'⟩ := isR_some h3.2
    by_cases hXY : c.getD qc 0 = r.getD qa 0
    · have e : run1 ⟨4, (qc : Int), (qa : Int), (qb : Int), (q : Int)⟩ c r k = (c.set qc (r.getD qb 0), r.set q 1, (k : Int) + 1) := by unfold run1; rw [if_neg hn]; simp only [gt_nat, Int.toNat_natCast]; rw [if_neg (by simp), if_neg (by simp), if_neg (by simp), if_pos trivial, if_pos hXY]
      rw [e]
      exact rstep_cas h hF hq hp ht hx hs hq' hqa hqb hc hXY
    · have e : run1 ⟨4, (qc : Int), (qa : Int), (qb : Int), (q : Int)⟩ c r k = (c, r.set q 0, (k : Int) + 1) := by unfold run1; rw [if_neg hn]; simp only [gt_nat, Int.toNat_natCast]; rw [if_neg (by simp), if_neg (by simp), if_neg (by simp), if_pos trivial, if_neg hXY]
      rw [e]
      exact rstep_nocas h hF hq hp ht hx hs hq' hqa hqb hc hXY
  by_cases h5 : op = 5
  · subst h5
    have h3 : (hasC c.length cell = true ∧ isR ia = true) ∧ isR it = true := by simpa [snd] using hs
    obtain ⟨qc, rfl, hc⟩ := hasC_some h3.1.1
    obtain ⟨qa, rfl, hqa⟩ := isR_some h3.1.2
    obtain ⟨q, rfl, hq'⟩ := isR_some h3.2
    have e : run1 ⟨5, (qc : Int), (qa : Int), ib, (q : Int)⟩ c r k = (c.set qc (wr (c.getD qc 0 + r.getD qa 0)), r.set q (c.getD qc 0), (k : Int) + 1) := by unfold run1; rw [if_neg hn]; simp only [gt_nat, Int.toNat_natCast]; rw [if_neg (by simp), if_neg (by simp), if_neg (by simp), if_neg (by simp), if_pos trivial]
    rw [e]
    exact rstep_add h hF hq hp ht hx hs hq' hqa hc
  by_cases h6 : op = 6
  · subst h6
    obtain ⟨qa, rfl, hqa⟩ := isR_some (n := ia) (by simpa [snd] using hs)
    have e : run1 ⟨6, cell, (qa : Int), ib, it⟩ c r k = (c, r, if r.getD qa 0 = ib then it else (k : Int) + 1) := by unfold run1; rw [if_neg hn]; simp only [gt_nat, Int.toNat_natCast]; rw [if_neg (by simp), if_neg (by simp), if_neg (by simp), if_neg (by simp), if_neg (by simp)]
    rw [e]
    exact rstep_jump h hF hq hp ht hx hs hqa (W_hid rfl)
  · exact absurd hs (by simp [snd, h1, h2, h3, h4, h5, h6])
end
end MC
end Go.Proofs.Ytjafjjfcmcpaoaa

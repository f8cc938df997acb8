/- Stage 18: a thread's step, whatever the instruction. -/
import Derived.Test.YtjafjjfcmcpaoaaMmStep0
import Derived.Test.YtjafjjfcmcpaoaaMmStep1
import Derived.Test.YtjafjjfcmcpaoaaMmStep2
import Derived.Test.YtjafjjfcmcpaoaaMmStep3
import Derived.Test.YtjafjjfcmcpaoaaMmStep4
import Derived.Test.YtjafjjfcmcpaoaaMmStep5
import Derived.Test.YtjafjjfcmcpaoaaMmStep6
import Derived.Test.YtjafjjfcmcpaoaaMmStep7
namespace Go.Proofs.Ytjafjjfcmcpaoaa
open Go.ChangeShapes Go.WideShapes Go.ChangeAt Go.RowKit
set_option linter.unusedVariables false
set_option linter.unusedSimpArgs false
namespace MC
theorem isR_some {n : Int} (h : isR n = true) : ∃ q : Nat, n = q ∧ q < 8 := by
  have := of_decide_eq_true h
  exact ⟨n.toNat, by omega, by omega⟩
theorem hasC_some {N : Nat} {i : Int} (h : hasC N i = true) : ∃ q : Nat, i = q ∧ q < N := by
  have := of_decide_eq_true h
  exact ⟨i.toNat, by omega, by omega⟩
theorem gt_nat (l : List Int) (k : Nat) : gt l (k : Int) = l.getD k 0 := by simp [gt]
section
variable {lo a b : Nat} {w : World} {gc g n cap : Nat} {c : List Int} {L : List (Value × Th)} {i : Nat} {v : Value} {t : Th}
theorem step_any (h : Raw TT lo a b w gc (.slice (some ⟨g, 0, none⟩) n cap) c L) (hi : L[i]? = some (v, t)) (ho : on t = true) (ht : ThFit t) :
    Calls Try.prog 29 #[.pointer (some ⟨g, i * 10, none⟩), .slice (some ⟨gc, 0, none⟩) c.length c.length] w fun e w' => e = .returned (.tuple #[]) ∧ Raw TT lo a b w' gc (.slice (some ⟨g, 0, none⟩) n cap) (does c t).1 (L.set i (v, (does c t).2)) ∧ Two g gc w w' := by
  obtain ⟨h0, hl, x, hx⟩ := on_at ho
  have hd : does c t = ((run1 x c t.r t.pc).1, ⟨t.p, (run1 x c t.r t.pc).2.1, (run1 x c t.r t.pc).2.2⟩) := by unfold does; rw [hx]
  rw [hd]
  clear hd
  obtain ⟨p, r, pc⟩ := t
  obtain ⟨op, cell, ia, ib, it⟩ := x
  simp only at h0 hx ⊢
  obtain ⟨k, rfl⟩ : ∃ k : Nat, pc = k := ⟨pc.toNat, by omega⟩
  rw [Int.toNat_natCast] at hx
  by_cases hs : snd ⟨op, cell, ia, ib, it⟩ c.length = false
  · have e : run1 ⟨op, cell, ia, ib, it⟩ c r k = (c, r, -1) := by unfold run1; rw [if_pos hs]
    rw [e]
    exact step_bad h hi hx ht hs
  have hs : snd ⟨op, cell, ia, ib, it⟩ c.length = true := by simpa using hs
  have hn : ¬ snd ⟨op, cell, ia, ib, it⟩ c.length = false := by rw [hs]; simp
  by_cases h1 : op = 1
  · subst h1
    obtain ⟨q, rfl, hq⟩ := isR_some (n := it) (by simpa [snd] using hs)
    have e : run1 ⟨1, cell, ia, ib, (q : Int)⟩ c r k = (c, r.set q ia, (k : Int) + 1) := by unfold run1; rw [if_neg hn]; simp
    rw [e]
    exact step_set h hi hx ht hs hq
  by_cases h2 : op = 2
  · subst h2
    have h3 : hasC c.length cell = true ∧ isR it = true := by simpa [snd] using hs
    obtain ⟨qc, rfl, hc⟩ := hasC_some h3.1
    obtain ⟨q, rfl, hq⟩ := isR_some h3.2
    have e : run1 ⟨2, (qc : Int), ia, ib, (q : Int)⟩ c r k = (c, r.set q (c.getD qc 0), (k : Int) + 1) := by unfold run1; rw [if_neg hn]; simp [gt]
    rw [e]
    exact step_load h hi hx ht hs hq hc
  by_cases h3 : op = 3
  · subst h3
    have h3 : hasC c.length cell = true ∧ isR ia = true := by simpa [snd] using hs
    obtain ⟨qc, rfl, hc⟩ := hasC_some h3.1
    obtain ⟨qa, rfl, hq⟩ := isR_some h3.2
    have e : run1 ⟨3, (qc : Int), (qa : Int), ib, it⟩ c r k = (c.set qc (r.getD qa 0), r, (k : Int) + 1) := by unfold run1; rw [if_neg hn]; simp [gt]
    rw [e]
    exact step_store h hi hx ht hs hq hc
  by_cases h4 : op = 4
  · subst h4
    have h3 : ((hasC c.length cell = true ∧ isR ia = true) ∧ isR ib = true) ∧ isR it = true := by simpa [snd] using hs
    obtain ⟨qc, rfl, hc⟩ := hasC_some h3.1.1.1
    obtain ⟨qa, rfl, hqa⟩ := isR_some h3.1.1.2
    obtain ⟨qb, rfl, hqb⟩ := isR_some h3.1.2
    obtain ⟨q, rfl, hq⟩ := isR_some h3.2
    by_cases hXY : c.getD qc 0 = r.getD qa 0
    · have e : run1 ⟨4, (qc : Int), (qa : Int), (qb : Int), (q : Int)⟩ c r k = (c.set qc (r.getD qb 0), r.set q 1, (k : Int) + 1) := by unfold run1; rw [if_neg hn]; simp only [gt_nat, Int.toNat_natCast]; rw [if_neg (by simp), if_neg (by simp), if_neg (by simp), if_pos trivial, if_pos hXY]
      rw [e]
      exact step_cas h hi hx ht hs hq hqa hqb hc hXY
    · have e : run1 ⟨4, (qc : Int), (qa : Int), (qb : Int), (q : Int)⟩ c r k = (c, r.set q 0, (k : Int) + 1) := by unfold run1; rw [if_neg hn]; simp only [gt_nat, Int.toNat_natCast]; rw [if_neg (by simp), if_neg (by simp), if_neg (by simp), if_pos trivial, if_neg hXY]
      rw [e]
      exact step_nocas h hi hx ht hs hq hqa hqb hc hXY
  by_cases h5 : op = 5
  · subst h5
    have h3 : (hasC c.length cell = true ∧ isR ia = true) ∧ isR it = true := by simpa [snd] using hs
    obtain ⟨qc, rfl, hc⟩ := hasC_some h3.1.1
    obtain ⟨qa, rfl, hqa⟩ := isR_some h3.1.2
    obtain ⟨q, rfl, hq⟩ := isR_some h3.2
    have e : run1 ⟨5, (qc : Int), (qa : Int), ib, (q : Int)⟩ c r k = (c.set qc (wr (c.getD qc 0 + r.getD qa 0)), r.set q (c.getD qc 0), (k : Int) + 1) := by unfold run1; rw [if_neg hn]; simp only [gt_nat, Int.toNat_natCast]; rw [if_neg (by simp), if_neg (by simp), if_neg (by simp), if_neg (by simp), if_pos trivial]
    rw [e]
    exact step_add h hi hx ht hs hq hqa hc
  by_cases h6 : op = 6
  · subst h6
    obtain ⟨qa, rfl, hqa⟩ := isR_some (n := ia) (by simpa [snd] using hs)
    have e : run1 ⟨6, cell, (qa : Int), ib, it⟩ c r k = (c, r, if r.getD qa 0 = ib then it else (k : Int) + 1) := by unfold run1; rw [if_neg hn]; simp only [gt_nat, Int.toNat_natCast]; rw [if_neg (by simp), if_neg (by simp), if_neg (by simp), if_neg (by simp), if_neg (by simp)]
    rw [e]
    exact step_jump h hi hx ht hs hqa (W_hid rfl)
  · exact absurd hs (by simp [snd, h1, h2, h3, h4, h5, h6])
end
end MC
end Go.Proofs.Ytjafjjfcmcpaoaa

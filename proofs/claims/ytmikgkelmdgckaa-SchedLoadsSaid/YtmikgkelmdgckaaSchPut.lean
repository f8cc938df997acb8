/- Contracts of package sched: put (a process more). -/
import Derived.Test.YtmikgkelmdgckaaSchIns
import Derived.Test.YtmikgkelmdgckaaHeldLast
namespace Go.Proofs.Ytmikgkelmdgckaa
open Go.ChangeShapes Go.WideShapes Go.ChangeAt Go.RowKit
set_option linter.unusedVariables false
set_option linter.unusedSimpArgs false
set_option maxRecDepth 100000
namespace SD
open IN (Keeps lt_of_some)
open RL

section
variable {base : Nat} {w : World} {qb nb : Nat} {vr : Value} {vl : Nat → Value} {P : List Pr} {ls : Nat → List Int}
theorem rcl_ins (P : List Pr) (x : Pr) : (rcl P).take (low P x.pid * 4) ++ prow x ++ (rcl P).drop (low P x.pid * 4) = rcl (insP P x) := by
  rw [rcl_take, rcl_drop]
  unfold insP
  rw [rcl_app, show x :: P.drop (low P x.pid) = [x] ++ P.drop (low P x.pid) from rfl, rcl_app, rcl_one, List.append_assoc]
theorem grown_trans {w w1 w2 : World} {row : Option Nat} (h : Below w.heap.size w w1) (k : w1.grownBy w2 row) : w.grownBy w2 row :=
  ⟨k.os.trans h.os, k.tape.trans h.tape, k.output.trans h.output, Nat.le_trans h.size k.size, fun j hj hne => (k.block j (Nat.lt_of_lt_of_le hj h.size) hne).trans (h.block j hj)⟩
set_option maxRecDepth 100000 in
set_option maxHeartbeats 8000000 in
theorem put_any (h : QM base w qb nb vr vl P ls) (hasc : Asc P) (hlen : P.length ≤ 50000) (p n : Int) (b : Bool) (f : Nat) (hg : get P p = none) :
    Calls Try.prog 21 #[ptr nb, .int .i64 p, .agg #[.int .i64 n, .bool (!b), .float .f64 f]] w fun e w' => e = .returned (.tuple #[]) ∧
      ∃ vr', QM base w' qb nb vr' vl (insP P ⟨p, n, b, f⟩) ls ∧ Keeps base (fun k _ => QX qb nb vr vl k) w w' ∧ ∀ k, QX qb nb vr' vl k → QX qb nb vr vl k ∨ w.heap.size ≤ k := by
  have hbs := h.base_le
  obtain ⟨A, hA⟩ : ∃ A, w.alloc (.cells #[.int .i64 n, .bool (!b), .float .f64 f] 52) = A := ⟨_, rfl⟩
  have hbA : Below w.heap.size w A := by rw [← hA]; exact (Below.refl _ _).alloc (Nat.le_refl _) _
  have hAsz : A.heap.size = w.heap.size + 1 := by rw [← hA]; simp
  have hpb : Blk A w.heap.size 52 [.int .i64 n, .bool (!b), .float .f64 f] := by rw [← hA]; exact Blk.new w 52 [.int .i64 n, .bool (!b), .float .f64 f] rfl
  have hq := h.keep hbA
  have hpl := place_any hq hasc (by omega) p
  rw [hg] at hpl
  simp only [Option.isSome_none] at hpl
  have hle := low_le P p
  have hend : Hid (∀ (w1 w2 : World) (v2 : Value), Below A.heap.size A w1 → w1.grownBy w2 vr.ownBlock → w2.ownsRow base TR 4 v2 (P.length + 1) ((rcl P).take (low P p * 4) ++ prow ⟨p, n, b, f⟩ ++ (rcl P).drop (low P p * 4)) → (v2.ownBlock = vr.ownBlock ∨ ∃ b, v2.ownBlock = some b ∧ w1.heap.size ≤ b) →
      ∃ vr', QM base (w2.setCell ⟨nb, 0, none⟩ v2) qb nb vr' vl (insP P ⟨p, n, b, f⟩) ls ∧ Keeps base (fun k _ => QX qb nb vr vl k) w (w2.setCell ⟨nb, 0, none⟩ v2) ∧ ∀ k, QX qb nb vr' vl k → QX qb nb vr vl k ∨ w.heap.size ≤ k) := W_hid fun w1 w2 v2 hb hgr ho hv => by
    have hb0 : Below w.heap.size w w1 := hbA.trans (bel_mono hb hbA.size)
    rw [rcl_ins P ⟨p, n, b, f⟩, ← ins_len P ⟨p, n, b, f⟩] at ho
    exact ⟨v2, h.newRow (grown_trans hb0 hgr) ho (hv.imp_right fun ⟨b, h1, h2⟩ => ⟨b, h1, Nat.le_trans hb0.size h2⟩)⟩
  have hIns : Hid (∀ W : World, Below A.heap.size A W → Calls Try.prog insF #[vr, .int .i64 (low P p : Nat), .slice (some ⟨W.heap.size, 0, none⟩) 1 1] (W.alloc (.cells (prow ⟨p, n, b, f⟩).toArray TR)) fun e w' => ∃ v', e = .returned v' ∧ w'.ownsRow base TR 4 v' (P.length + 1) ((rcl P).take (low P p * 4) ++ prow ⟨p, n, b, f⟩ ++ (rcl P).drop (low P p * 4)) ∧ W.grownBy w' vr.ownBlock ∧ (v'.ownBlock = vr.ownBlock ∨ ∃ b, v'.ownBlock = some b ∧ W.heap.size ≤ b)) := W_hid fun W hW => by
    have hb1 : Below W.heap.size W (W.alloc (.cells (prow ⟨p, n, b, f⟩).toArray TR)) := (Below.refl _ _).alloc (Nat.le_refl _) _
    have hq2 := (hq.keep hW).keep hb1
    refine (insert_any hq2.row hq2.base_le (Blk.new W TR (prow ⟨p, n, b, f⟩) rfl) rfl (prow_one _) (rcl_one_cell P) (by omega) hle ?_).mono ?_
    · intro e
      obtain ⟨cur, hc⟩ := own_obj (hq.keep hW).row e
      have := lt_of_some hc
      omega
    · rintro e w' ⟨v', h1, h2, h3, h4⟩
      exact ⟨v', h1, h2, grown_trans hb1 h3, h4.imp_right fun ⟨b, h5, h6⟩ => ⟨b, h5, Nat.le_trans hb1.size h6⟩⟩
  have hnb : Hid (∀ W : World, Below A.heap.size A W → W.cell? ⟨nb, 0, none⟩ = some vr) := W_hid fun W hW => (hq.keep hW).nbox.cell rfl
  have hpc : Hid (∀ W : World, Below A.heap.size A W → W.cell? ⟨w.heap.size, 0, none⟩ = some (.int .i64 n) ∧ W.cell? ⟨w.heap.size, 1, none⟩ = some (.bool (!b)) ∧ W.cell? ⟨w.heap.size, 2, none⟩ = some (.float .f64 f)) := W_hid fun W hW => by
    have := hpb.keep hW
    exact ⟨this.cell rfl, this.cell rfl, this.cell rfl⟩
  have hfz : Hid (∀ (W w2 : World), Below A.heap.size A W → W.grownBy w2 vr.ownBlock → (w2.cell? ⟨nb, 0, none⟩ = some vr) ∧ (∀ i, w2.frozen? ⟨nb, i, none⟩ = false) ∧ w2.cell? ⟨w.heap.size, 0, none⟩ = some (.int .i64 n) ∧ w2.cell? ⟨w.heap.size, 1, none⟩ = some (.bool (!b)) ∧ w2.cell? ⟨w.heap.size, 2, none⟩ = some (.float .f64 f)) := W_hid fun W w2 hW hgr => by
    have h1 := (hq.keep hW).nbox.grown hgr (fun e => (h.rq e.symm).2 rfl)
    have h2 := (hpb.keep hW).grown hgr (fun e => by
      obtain ⟨cur, hc⟩ := own_obj h.row e.symm
      have := lt_of_some hc
      omega)
    exact ⟨h1.cell rfl, h1.fz, h2.cell rfl, h2.cell rfl, h2.cell rfl⟩
  obtain ⟨K, hK⟩ : ∃ K, low P p = K := ⟨_, rfl⟩
  rw [hK] at hpl hIns hend
  obtain ⟨ao, cap, hv⟩ := Own.form h.row
  obtain ⟨nn, hnn⟩ : ∃ nn, P.length = nn := ⟨_, rfl⟩
  rw [hnn] at hv hIns hend
  have hpl := W_hid hpl
  have hwA := W_hid hA
  rw [hv] at hnb hfz hIns hend ⊢
  have hAz := W_hid hAsz
  clear h hq hg hle hK hbs hpb hAsz hv hnn hA hbA
  go_enter Try.func21, Try.ntmps21
  go_wp2_with (go_at_call 46; rw [hwA.out]; refine hpl.out.mono ?_; rintro e w1 ⟨rfl, hb1⟩; have hb1 := W_hid hb1)
  have y1 := hnb.out _ hb1.out
  obtain ⟨y2, y3, y4⟩ := hpc.out _ hb1.out
  have hb1d : Hid (Below A.heap.size A w1.drew) := W_hid hb1.out.drew
  have hb2 : Hid (Below A.heap.size A (w1.drew.alloc (.cells (prow ⟨p, n, b, f⟩).toArray TR))) := W_hid (hb1.out.drew.alloc hb1.out.size _)
  have z1 := hnb.out _ hb2.out
  obtain ⟨z2, z3, z4⟩ := hpc.out _ hb2.out
  have cI := W_hid (hIns.out w1.drew hb1d.out)
  refine UpTo.region (S := (fun w' => w'.cell? ⟨nb, 0, none⟩ = some (.slice ao nn cap) ∧ w'.cell? ⟨w.heap.size, 0, none⟩ = some (.int .i64 n) ∧ w'.cell? ⟨w.heap.size, 1, none⟩ = some (.bool (!b)) ∧ w'.cell? ⟨w.heap.size, 2, none⟩ = some (.float .f64 f))) (m := 13) (by kernel_rfl) ⟨y1, y2, y3, y4⟩ (fun hHeld => ?_)
  refine UpTo.take (i := 0) (v := .pointer (some ⟨nb, 0, none⟩)) rfl (by kernel_rfl) (by kernel_rfl) (by kernel_rfl) (by kernel_rfl) (fun _ _ _ h => h) (Or.inl ⟨by rfl, fun w0 ⟨s1, s2, s3, s4⟩ => ?_⟩) hHeld ?_
  · go_simp
  try simp only [Act.put, List.setIfInBounds_toArray, List.set_cons_zero, List.set_cons_succ, List.getElem_toArray, List.getElem_cons_zero, List.getElem_cons_succ]
  refine UpTo.take (i := 1) (v := .pointer (some ⟨nb, 0, none⟩)) rfl (by kernel_rfl) (by kernel_rfl) (by kernel_rfl) (by kernel_rfl) (fun _ _ _ h => h) (Or.inl ⟨by rfl, fun w0 ⟨s1, s2, s3, s4⟩ => ?_⟩) hHeld ?_
  · go_simp
  try simp only [Act.put, List.setIfInBounds_toArray, List.set_cons_zero, List.set_cons_succ, List.getElem_toArray, List.getElem_cons_zero, List.getElem_cons_succ]
  refine UpTo.take (i := 2) (v := .pointer (some ⟨nb, 0, none⟩)) rfl (by kernel_rfl) (by kernel_rfl) (by kernel_rfl) (by kernel_rfl) (fun _ _ _ h => h) (Or.inl ⟨by rfl, fun w0 ⟨s1, s2, s3, s4⟩ => ?_⟩) hHeld ?_
  · go_simp
  try simp only [Act.put, List.setIfInBounds_toArray, List.set_cons_zero, List.set_cons_succ, List.getElem_toArray, List.getElem_cons_zero, List.getElem_cons_succ]
  refine UpTo.take (i := 3) (v := .pointer (some ⟨nb, 0, none⟩)) rfl (by kernel_rfl) (by kernel_rfl) (by kernel_rfl) (by kernel_rfl) (fun _ _ _ h => h) (Or.inl ⟨by rfl, fun w0 ⟨s1, s2, s3, s4⟩ => ?_⟩) hHeld ?_
  · go_simp
  try simp only [Act.put, List.setIfInBounds_toArray, List.set_cons_zero, List.set_cons_succ, List.getElem_toArray, List.getElem_cons_zero, List.getElem_cons_succ]
  refine UpTo.take (i := 4) (v := .slice ao nn cap) rfl (by kernel_rfl) (by kernel_rfl) (by kernel_rfl) (by kernel_rfl) (fun _ _ _ h => h) (Or.inl ⟨by rfl, fun w0 ⟨s1, s2, s3, s4⟩ => ?_⟩) hHeld ?_
  · go_simp
  try simp only [Act.put, List.setIfInBounds_toArray, List.set_cons_zero, List.set_cons_succ, List.getElem_toArray, List.getElem_cons_zero, List.getElem_cons_succ]
  refine UpTo.take (i := 5) (v := .int .i64 (K : Int)) rfl (by kernel_rfl) (by kernel_rfl) (by kernel_rfl) (by kernel_rfl) (fun _ _ _ h => h) (Or.inl ⟨by rfl, fun w0 ⟨s1, s2, s3, s4⟩ => ?_⟩) hHeld ?_
  · go_simp
  try simp only [Act.put, List.setIfInBounds_toArray, List.set_cons_zero, List.set_cons_succ, List.getElem_toArray, List.getElem_cons_zero, List.getElem_cons_succ]
  refine UpTo.take (i := 6) (v := .int .i64 p) rfl (by kernel_rfl) (by kernel_rfl) (by kernel_rfl) (by kernel_rfl) (fun _ _ _ h => h) (Or.inl ⟨by rfl, fun w0 ⟨s1, s2, s3, s4⟩ => ?_⟩) hHeld ?_
  · go_simp
  try simp only [Act.put, List.setIfInBounds_toArray, List.set_cons_zero, List.set_cons_succ, List.getElem_toArray, List.getElem_cons_zero, List.getElem_cons_succ]
  refine UpTo.take (i := 7) (v := .agg #[.int .i64 n, .bool (!b), .float .f64 f]) rfl (by kernel_rfl) (by kernel_rfl) (by kernel_rfl) (by kernel_rfl) (fun _ _ _ h => h) (Or.inl ⟨by rfl, fun w0 ⟨s1, s2, s3, s4⟩ => ?_⟩) hHeld ?_
  · go_simp
  try simp only [Act.put, List.setIfInBounds_toArray, List.set_cons_zero, List.set_cons_succ, List.getElem_toArray, List.getElem_cons_zero, List.getElem_cons_succ]
  refine UpTo.take (i := 8) (v := .agg #[.int .i64 p, .int .i64 n, .bool (!b), .float .f64 f]) rfl (by kernel_rfl) (by kernel_rfl) (by kernel_rfl) (by kernel_rfl) (fun _ _ _ h => h) (Or.inl ⟨by rfl, fun w0 ⟨s1, s2, s3, s4⟩ => ?_⟩) hHeld ?_
  · go_simp
  try simp only [Act.put, List.setIfInBounds_toArray, List.set_cons_zero, List.set_cons_succ, List.getElem_toArray, List.getElem_cons_zero, List.getElem_cons_succ]
  refine UpTo.one (i := 9) (by kernel_rfl) rfl rfl (fun K hK => ?_)
  go_simp
  refine hK.out _ _ ⟨z1, z2, z3, z4⟩ ?_
  clear hK K
  try simp only [Act.put, List.setIfInBounds_toArray, List.set_cons_zero, List.set_cons_succ, List.getElem_toArray, List.getElem_cons_zero, List.getElem_cons_succ]
  refine UpTo.one (i := 10) (by kernel_rfl) rfl rfl (fun K hK => ?_)
  go_simp
  refine cI.out.mono ?_
  rintro e w2 ⟨v2, rfl, ho2, hg2, hv2⟩
  obtain ⟨u1, u0, u2, u3, u4⟩ := hfz.out _ w2 hb1d.out hg2
  obtain ⟨a2, c2, rfl⟩ := Own.form ho2
  have ho2 := W_hid ho2
  have hg2 := W_hid hg2
  have hv2 := W_hid hv2
  refine hK.out _ _ ⟨u1, u2, u3, u4⟩ ?_
  clear hK K
  try simp only [Act.put, List.setIfInBounds_toArray, List.set_cons_zero, List.set_cons_succ, List.getElem_toArray, List.getElem_cons_zero, List.getElem_cons_succ]
  refine UpTo.one (i := 11) (by kernel_rfl) rfl rfl (fun K hK => ?_)
  go_simp
  refine hK.out _ _ ⟨u1, u2, u3, u4⟩ ?_
  clear hK K
  try simp only [Act.put, List.setIfInBounds_toArray, List.set_cons_zero, List.set_cons_succ, List.getElem_toArray, List.getElem_cons_zero, List.getElem_cons_succ]
  refine UpTo.one (i := 12) (by kernel_rfl) rfl rfl (fun K hK => ?_)
  go_simp
  refine hK.out _ _ ⟨u1, u2, u3, u4⟩ ?_
  clear hK K
  try simp only [Act.put, List.setIfInBounds_toArray, List.set_cons_zero, List.set_cons_succ, List.getElem_toArray, List.getElem_cons_zero, List.getElem_cons_succ]
  refine UpTo.last (by kernel_rfl) rfl rfl (by kernel_rfl) ?_
  go_simp
  go_end0
  exact ⟨rfl, hend.out w1.drew w2 _ hb1d.out hg2.out ho2.out hv2.out⟩
end
end SD
end Go.Proofs.Ytmikgkelmdgckaa

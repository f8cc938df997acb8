/- Contracts of package sched: leave, join. -/
import Derived.Test.YtmikgkelmdgckaaSchList
import Derived.Test.YtmikgkelmdgckaaHeldTil
namespace Go.Proofs.Ytmikgkelmdgckaa
open Go.ChangeShapes Go.WideShapes Go.ChangeAt Go.RowKit
set_option linter.unusedVariables false
set_option linter.unusedSimpArgs false
set_option maxRecDepth 100000
namespace SD
open IN (Keeps lt_of_some)
open RL

section
variable {base : Nat} {w : World} {qb nb : Nat} {vr : Value} {vl : Nat → Value} {P : List Pr} {ls : Nat → List Int}
set_option maxRecDepth 100000 in
set_option maxHeartbeats 8000000 in
theorem leave_any (h : QM base w qb nb vr vl P ls) (p : Int) {k : Nat} (hk : k < 5) (hlen : (ls k).length ≤ 60000) :
    Calls Try.prog 24 #[ptr qb, .int .i64 p, .int .i64 (k : Int)] w fun e w' => e = .returned (.tuple #[]) ∧
      ∃ vl', QM base w' qb nb vr vl' P (updL ls k (off (ls k) p)) ∧ Keeps base (fun k _ => QX qb nb vr vl k) w w' ∧ ∀ k, QX qb nb vr vl' k → QX qb nb vr vl k ∨ w.heap.size ≤ k := by
  obtain ⟨A, hA⟩ : ∃ A, w.alloc (.cells #[.int .i64 p] TI) = A := ⟨_, rfl⟩
  have hbA : Below w.heap.size w A := by rw [← hA]; exact (Below.refl _ _).alloc (Nat.le_refl _) _
  have hpb : Blk A w.heap.size TI [.int .i64 p] := by rw [← hA]; exact Blk.new w TI [.int .i64 p] rfl
  have hq := (h.keep hbA).drewN 1
  have hq2 : QM base A.drew qb nb vr vl P ls := (h.keep hbA).moved fun _ _ => rfl
  have y1 : A.drew.cell? ⟨qb, 1 + k, none⟩ = some (vl k) := hq2.cell hk
  have y2 : A.drew.cell? ⟨w.heap.size, 0, none⟩ = some (.int .i64 p) := hpb.cell rfl
  have hown := hq2.lst k hk
  have hnb : (vl k).ownBlock ≠ some w.heap.size := fun e => by
    have := h.tlt _ (.inr (.inr (.inr ⟨k, hk, e⟩)))
    omega
  have cD := W_hid (delfunc_any p w.heap.size A.drew hown hlen y2 hnb hq2.base_le)
  have hend : Hid (∀ (w2 : World) (v2 : Value), A.drew.grownBy w2 (vl k).ownBlock → w2.ownsRow base TI 1 v2 (off (ls k) p).length (icl (off (ls k) p)) → v2.ownBlock = (vl k).ownBlock →
      ∃ vl', QM base (w2.setCell ⟨qb, 1 + k, none⟩ v2) qb nb vr vl' P (updL ls k (off (ls k) p)) ∧ Keeps base (fun k _ => QX qb nb vr vl k) w (w2.setCell ⟨qb, 1 + k, none⟩ v2) ∧ ∀ j, QX qb nb vr vl' j → QX qb nb vr vl j ∨ w.heap.size ≤ j) := W_hid fun w2 v2 hgr ho hv =>
    ⟨_, h.newList hk (grown_trans hbA.drew hgr) ho (.inl hv)⟩
  have hfz : Hid (∀ w2 : World, A.drew.grownBy w2 (vl k).ownBlock → w2.cell? ⟨qb, 1 + k, none⟩ = some (vl k) ∧ (∀ i, w2.frozen? ⟨qb, i, none⟩ = false) ∧ w2.cell? ⟨w.heap.size, 0, none⟩ = some (.int .i64 p)) := W_hid fun w2 hgr => by
    have hb : Blk w2 qb TQ _ := hq2.box.grown hgr (fun e => (h.lq hk e.symm).1 rfl)
    refine ⟨?_, hb.fz, ?_⟩
    · have : k = 0 ∨ k = 1 ∨ k = 2 ∨ k = 3 ∨ k = 4 := by omega
      rcases this with rfl | rfl | rfl | rfl | rfl <;> exact hb.cell rfl
    · exact ((show Blk A.drew w.heap.size TI [.int .i64 p] from hpb).grown hgr (fun e => hnb e.symm)).cell rfl
  obtain ⟨ao, cap, hv⟩ := Own.form hown
  obtain ⟨n, hn⟩ : ∃ n, (ls k).length = n := ⟨_, rfl⟩
  obtain ⟨V, hV⟩ : ∃ V, vl k = V := ⟨_, rfl⟩
  rw [hV] at y1 cD hend hfz hv
  rw [hn] at hv
  subst hv
  have hwA := W_hid hA
  have hk2 : (k : Int) < 5 := by omega
  clear h hq hq2 hown hnb hpb hV hn hA hbA
  go_enter Try.func24, Try.ntmps24
  go_wp2_with fail
  rw [hwA.out]
  refine UpTil.region (S := (fun w' => w'.cell? ⟨qb, 1 + k, none⟩ = some (.slice ao n cap) ∧ w'.cell? ⟨w.heap.size, 0, none⟩ = some (.int .i64 p))) (m := 13) (by kernel_rfl) ⟨y1, y2⟩ (fun hHeld => ?_)
  refine UpTil.take (i := 0) (v := .pointer (some ⟨qb, 0, none⟩)) rfl (by kernel_rfl) (by kernel_rfl) (by kernel_rfl) (by kernel_rfl) (by kernel_rfl) (fun _ _ _ h => h) (Or.inl ⟨by rfl, fun w0 ⟨s1, s2⟩ => ?_⟩) hHeld ?_
  · go_simp
  try simp only [Act.put, List.setIfInBounds_toArray, List.set_cons_zero, List.set_cons_succ, List.getElem_toArray, List.getElem_cons_zero, List.getElem_cons_succ]
  refine UpTil.take (i := 1) (v := .int .i64 (k : Int)) rfl (by kernel_rfl) (by kernel_rfl) (by kernel_rfl) (by kernel_rfl) (by kernel_rfl) (fun _ _ _ h => h) (Or.inl ⟨by rfl, fun w0 ⟨s1, s2⟩ => ?_⟩) hHeld ?_
  · go_simp
  try simp only [Act.put, List.setIfInBounds_toArray, List.set_cons_zero, List.set_cons_succ, List.getElem_toArray, List.getElem_cons_zero, List.getElem_cons_succ]
  refine UpTil.take (i := 2) (v := .pointer (some ⟨qb, 0, none⟩)) rfl (by kernel_rfl) (by kernel_rfl) (by kernel_rfl) (by kernel_rfl) (by kernel_rfl) (fun _ _ _ h => h) (Or.inl ⟨by rfl, fun w0 ⟨s1, s2⟩ => ?_⟩) hHeld ?_
  · go_simp
  try simp only [Act.put, List.setIfInBounds_toArray, List.set_cons_zero, List.set_cons_succ, List.getElem_toArray, List.getElem_cons_zero, List.getElem_cons_succ]
  refine UpTil.take (i := 3) (v := .int .i64 (k : Int)) rfl (by kernel_rfl) (by kernel_rfl) (by kernel_rfl) (by kernel_rfl) (by kernel_rfl) (fun _ _ _ h => h) (Or.inl ⟨by rfl, fun w0 ⟨s1, s2⟩ => ?_⟩) hHeld ?_
  · go_simp
  try simp only [Act.put, List.setIfInBounds_toArray, List.set_cons_zero, List.set_cons_succ, List.getElem_toArray, List.getElem_cons_zero, List.getElem_cons_succ]
  refine UpTil.take (i := 4) (v := .pointer (some ⟨qb, 0, none⟩)) rfl (by kernel_rfl) (by kernel_rfl) (by kernel_rfl) (by kernel_rfl) (by kernel_rfl) (fun _ _ _ h => h) (Or.inl ⟨by rfl, fun w0 ⟨s1, s2⟩ => ?_⟩) hHeld ?_
  · go_simp
  try simp only [Act.put, List.setIfInBounds_toArray, List.set_cons_zero, List.set_cons_succ, List.getElem_toArray, List.getElem_cons_zero, List.getElem_cons_succ]
  refine UpTil.take (i := 5) (v := .pointer (some ⟨qb, 1, none⟩)) rfl (by kernel_rfl) (by kernel_rfl) (by kernel_rfl) (by kernel_rfl) (by kernel_rfl) (fun _ _ _ h => h) (Or.inl ⟨by rfl, fun w0 ⟨s1, s2⟩ => ?_⟩) hHeld ?_
  · go_simp
  try simp only [Act.put, List.setIfInBounds_toArray, List.set_cons_zero, List.set_cons_succ, List.getElem_toArray, List.getElem_cons_zero, List.getElem_cons_succ]
  refine UpTil.take (i := 6) (v := .pointer (some ⟨qb, 1 + k, none⟩)) rfl (by kernel_rfl) (by kernel_rfl) (by kernel_rfl) (by kernel_rfl) (by kernel_rfl) (fun _ _ _ h => h) (Or.inl ⟨by rfl, fun w0 ⟨s1, s2⟩ => ?_⟩) hHeld ?_
  · go_simp
  try simp only [Act.put, List.setIfInBounds_toArray, List.set_cons_zero, List.set_cons_succ, List.getElem_toArray, List.getElem_cons_zero, List.getElem_cons_succ]
  refine UpTil.take (i := 7) (v := .slice ao n cap) rfl (by kernel_rfl) (by kernel_rfl) (by kernel_rfl) (by kernel_rfl) (by kernel_rfl) (fun _ _ _ h => h) (Or.inl ⟨by rfl, fun w0 ⟨s1, s2⟩ => ?_⟩) hHeld ?_
  · go_simp
  try simp only [Act.put, List.setIfInBounds_toArray, List.set_cons_zero, List.set_cons_succ, List.getElem_toArray, List.getElem_cons_zero, List.getElem_cons_succ]
  refine UpTil.take (i := 8) (v := clo w.heap.size) rfl (by kernel_rfl) (by kernel_rfl) (by kernel_rfl) (by kernel_rfl) (by kernel_rfl) (fun _ _ _ h => h) (Or.inl ⟨by rfl, fun w0 ⟨s1, s2⟩ => ?_⟩) hHeld ?_
  · go_simp
  try simp only [Act.put, List.setIfInBounds_toArray, List.set_cons_zero, List.set_cons_succ, List.getElem_toArray, List.getElem_cons_zero, List.getElem_cons_succ]
  refine UpTil.takePure (i := 10) (v := .pointer (some ⟨qb, 0, none⟩)) rfl (by kernel_rfl) (by kernel_rfl) (by kernel_rfl) (by kernel_rfl) (fun _ _ _ h => h) (Or.inl ⟨by rfl, fun w0 _ => ?_⟩) hHeld ?_
  · go_simp
  try simp only [Act.put, List.setIfInBounds_toArray, List.set_cons_zero, List.set_cons_succ, List.getElem_toArray, List.getElem_cons_zero, List.getElem_cons_succ]
  refine UpTil.takePure (i := 11) (v := .pointer (some ⟨qb, 1, none⟩)) rfl (by kernel_rfl) (by kernel_rfl) (by kernel_rfl) (by kernel_rfl) (fun _ _ _ h => h) (Or.inl ⟨by rfl, fun w0 _ => ?_⟩) hHeld ?_
  · go_simp
  try simp only [Act.put, List.setIfInBounds_toArray, List.set_cons_zero, List.set_cons_succ, List.getElem_toArray, List.getElem_cons_zero, List.getElem_cons_succ]
  refine UpTil.one (i := 9) (by kernel_rfl) rfl rfl (fun K hK => ?_)
  go_simp
  refine cD.out.mono ?_
  rintro e w2 ⟨v2, rfl, ho2, hg2, hv2⟩
  obtain ⟨u1, u0, u2⟩ := hfz.out w2 hg2
  obtain ⟨a2, c2, rfl⟩ := Own.form ho2
  have ho2 := W_hid ho2
  have hg2 := W_hid hg2
  have hv2 := W_hid hv2
  refine hK.out _ _ (fun _ => ⟨u1, u2⟩) ?_
  clear hK K
  try simp only [Act.put, List.setIfInBounds_toArray, List.set_cons_zero, List.set_cons_succ, List.getElem_toArray, List.getElem_cons_zero, List.getElem_cons_succ]
  refine UpTil.one (i := 12) (by kernel_rfl) rfl rfl (fun K hK => ?_)
  go_simp
  refine hK.out _ _ (fun _ => ⟨u1, u2⟩) ?_
  clear hK K
  try simp only [Act.put, List.setIfInBounds_toArray, List.set_cons_zero, List.set_cons_succ, List.getElem_toArray, List.getElem_cons_zero, List.getElem_cons_succ]
  refine UpTil.last (by kernel_rfl) rfl rfl (by kernel_rfl) ?_
  go_simp
  go_end0
  exact ⟨rfl, hend.out w2 _ hg2.out ho2.out hv2.out⟩
set_option maxRecDepth 100000 in
set_option maxHeartbeats 8000000 in
theorem join_any (h : QM base w qb nb vr vl P ls) (p : Int) {k : Nat} (hk : k < 5) (hlen : (ls k).length ≤ 60000) :
    Calls Try.prog 22 #[ptr qb, .int .i64 p, .int .i64 (k : Int)] w fun e w' => e = .returned (.tuple #[]) ∧
      ∃ vl', QM base w' qb nb vr vl' P (updL ls k (ls k ++ [p])) ∧ Keeps base (fun k _ => QX qb nb vr vl k) w w' ∧ ∀ k, QX qb nb vr vl' k → QX qb nb vr vl k ∨ w.heap.size ≤ k := by
  obtain ⟨A, hA⟩ : ∃ A, (w.alloc (.cells #[.int .i64 p] TI)).drew = A := ⟨_, rfl⟩
  have hbA : Below w.heap.size w A := by rw [← hA]; exact ((Below.refl w.heap.size w).alloc (Nat.le_refl _) _).drew
  have hpb : Blk A w.heap.size TI [.int .i64 p] := by rw [← hA]; exact Blk.new w TI [.int .i64 p] rfl
  have hqd : QM base w.drew qb nb vr vl P ls := h.moved fun _ _ => rfl
  have hq2 := h.keep hbA
  have y1 : w.drew.cell? ⟨qb, 1 + k, none⟩ = some (vl k) := hqd.cell hk
  have z1 : A.cell? ⟨qb, 1 + k, none⟩ = some (vl k) := hq2.cell hk
  have hown := hq2.lst k hk
  have hsrc : Own.Src A 1 (.slice (some ⟨w.heap.size, 0, none⟩) 1 1) 1 (icl [p]) := .inr ⟨_, _, rfl, rfl, fun j v hj => by rw [Addr.add_lit, Nat.zero_add]; exact hpb.cell hj⟩
  have cA := W_hid (And.intro hown (And.intro hq2.base_le hsrc))
  have hend : Hid (∀ (w2 : World) (v2 : Value), A.grownBy w2 (vl k).ownBlock → w2.ownsRow base TI 1 v2 ((ls k).length + 1) (icl (ls k) ++ icl [p]) → (v2.ownBlock = (vl k).ownBlock ∨ v2.ownBlock = some A.heap.size) →
      ∃ vl', QM base (w2.setCell ⟨qb, 1 + k, none⟩ v2) qb nb vr vl' P (updL ls k (ls k ++ [p])) ∧ Keeps base (fun k _ => QX qb nb vr vl k) w (w2.setCell ⟨qb, 1 + k, none⟩ v2) ∧ ∀ j, QX qb nb vr vl' j → QX qb nb vr vl j ∨ w.heap.size ≤ j) := W_hid fun w2 v2 hgr ho hv => by
    rw [← icl_app, show (ls k).length + 1 = (ls k ++ [p]).length by simp] at ho
    exact ⟨_, h.newList hk (grown_trans hbA hgr) ho (hv.imp_right fun e => ⟨_, e, hbA.size⟩)⟩
  have hfz : Hid (∀ w2 : World, A.grownBy w2 (vl k).ownBlock → w2.cell? ⟨qb, 1 + k, none⟩ = some (vl k) ∧ (∀ i, w2.frozen? ⟨qb, i, none⟩ = false)) := W_hid fun w2 hgr => by
    have hb : Blk w2 qb TQ _ := hq2.box.grown hgr (fun e => (h.lq hk e.symm).1 rfl)
    refine ⟨?_, hb.fz⟩
    have : k = 0 ∨ k = 1 ∨ k = 2 ∨ k = 3 ∨ k = 4 := by omega
    rcases this with rfl | rfl | rfl | rfl | rfl <;> exact hb.cell rfl
  obtain ⟨ao, cap, hv⟩ := Own.form hown
  obtain ⟨n, hn⟩ : ∃ n, (ls k).length = n := ⟨_, rfl⟩
  obtain ⟨V, hV⟩ : ∃ V, vl k = V := ⟨_, rfl⟩
  rw [hV] at y1 z1 cA hend hfz hv
  rw [hn] at hv cA hend hlen
  subst hv
  have hk2 : (k : Int) < 5 := by omega
  have hwA := W_hid hA
  clear h hqd hq2 hown hpb hV hn hA hbA hsrc
  go_enter Try.func22, Try.ntmps22
  go_wp2_with fail
  refine UpTil.region (S := (fun w' => w'.cell? ⟨qb, 1 + k, none⟩ = some (.slice ao n cap))) (m := 14) (by kernel_rfl) y1 (fun hHeld => ?_)
  refine UpTil.take (i := 0) (v := .pointer (some ⟨qb, 0, none⟩)) rfl (by kernel_rfl) (by kernel_rfl) (by kernel_rfl) (by kernel_rfl) (by kernel_rfl) (fun _ _ _ h => h) (Or.inl ⟨by rfl, fun w0 s1 => ?_⟩) hHeld ?_
  · go_simp
  try simp only [Act.put, List.setIfInBounds_toArray, List.set_cons_zero, List.set_cons_succ, List.getElem_toArray, List.getElem_cons_zero, List.getElem_cons_succ]
  refine UpTil.take (i := 1) (v := .int .i64 (k : Int)) rfl (by kernel_rfl) (by kernel_rfl) (by kernel_rfl) (by kernel_rfl) (by kernel_rfl) (fun _ _ _ h => h) (Or.inl ⟨by rfl, fun w0 s1 => ?_⟩) hHeld ?_
  · go_simp
  try simp only [Act.put, List.setIfInBounds_toArray, List.set_cons_zero, List.set_cons_succ, List.getElem_toArray, List.getElem_cons_zero, List.getElem_cons_succ]
  refine UpTil.take (i := 2) (v := .pointer (some ⟨qb, 0, none⟩)) rfl (by kernel_rfl) (by kernel_rfl) (by kernel_rfl) (by kernel_rfl) (by kernel_rfl) (fun _ _ _ h => h) (Or.inl ⟨by rfl, fun w0 s1 => ?_⟩) hHeld ?_
  · go_simp
  try simp only [Act.put, List.setIfInBounds_toArray, List.set_cons_zero, List.set_cons_succ, List.getElem_toArray, List.getElem_cons_zero, List.getElem_cons_succ]
  refine UpTil.take (i := 3) (v := .int .i64 (k : Int)) rfl (by kernel_rfl) (by kernel_rfl) (by kernel_rfl) (by kernel_rfl) (by kernel_rfl) (fun _ _ _ h => h) (Or.inl ⟨by rfl, fun w0 s1 => ?_⟩) hHeld ?_
  · go_simp
  try simp only [Act.put, List.setIfInBounds_toArray, List.set_cons_zero, List.set_cons_succ, List.getElem_toArray, List.getElem_cons_zero, List.getElem_cons_succ]
  refine UpTil.take (i := 4) (v := .pointer (some ⟨qb, 0, none⟩)) rfl (by kernel_rfl) (by kernel_rfl) (by kernel_rfl) (by kernel_rfl) (by kernel_rfl) (fun _ _ _ h => h) (Or.inl ⟨by rfl, fun w0 s1 => ?_⟩) hHeld ?_
  · go_simp
  try simp only [Act.put, List.setIfInBounds_toArray, List.set_cons_zero, List.set_cons_succ, List.getElem_toArray, List.getElem_cons_zero, List.getElem_cons_succ]
  refine UpTil.take (i := 5) (v := .pointer (some ⟨qb, 1, none⟩)) rfl (by kernel_rfl) (by kernel_rfl) (by kernel_rfl) (by kernel_rfl) (by kernel_rfl) (fun _ _ _ h => h) (Or.inl ⟨by rfl, fun w0 s1 => ?_⟩) hHeld ?_
  · go_simp
  try simp only [Act.put, List.setIfInBounds_toArray, List.set_cons_zero, List.set_cons_succ, List.getElem_toArray, List.getElem_cons_zero, List.getElem_cons_succ]
  refine UpTil.take (i := 6) (v := .pointer (some ⟨qb, 1 + k, none⟩)) rfl (by kernel_rfl) (by kernel_rfl) (by kernel_rfl) (by kernel_rfl) (by kernel_rfl) (fun _ _ _ h => h) (Or.inl ⟨by rfl, fun w0 s1 => ?_⟩) hHeld ?_
  · go_simp
  try simp only [Act.put, List.setIfInBounds_toArray, List.set_cons_zero, List.set_cons_succ, List.getElem_toArray, List.getElem_cons_zero, List.getElem_cons_succ]
  refine UpTil.take (i := 7) (v := .slice ao n cap) rfl (by kernel_rfl) (by kernel_rfl) (by kernel_rfl) (by kernel_rfl) (by kernel_rfl) (fun _ _ _ h => h) (Or.inl ⟨by rfl, fun w0 s1 => ?_⟩) hHeld ?_
  · go_simp
  try simp only [Act.put, List.setIfInBounds_toArray, List.set_cons_zero, List.set_cons_succ, List.getElem_toArray, List.getElem_cons_zero, List.getElem_cons_succ]
  refine UpTil.take (i := 8) (v := .int .i64 p) rfl (by kernel_rfl) (by kernel_rfl) (by kernel_rfl) (by kernel_rfl) (by kernel_rfl) (fun _ _ _ h => h) (Or.inl ⟨by rfl, fun w0 s1 => ?_⟩) hHeld ?_
  · go_simp
  try simp only [Act.put, List.setIfInBounds_toArray, List.set_cons_zero, List.set_cons_succ, List.getElem_toArray, List.getElem_cons_zero, List.getElem_cons_succ]
  refine UpTil.takePure (i := 11) (v := .pointer (some ⟨qb, 0, none⟩)) rfl (by kernel_rfl) (by kernel_rfl) (by kernel_rfl) (by kernel_rfl) (fun _ _ _ h => h) (Or.inl ⟨by rfl, fun w0 _ => ?_⟩) hHeld ?_
  · go_simp
  try simp only [Act.put, List.setIfInBounds_toArray, List.set_cons_zero, List.set_cons_succ, List.getElem_toArray, List.getElem_cons_zero, List.getElem_cons_succ]
  refine UpTil.takePure (i := 12) (v := .pointer (some ⟨qb, 1, none⟩)) rfl (by kernel_rfl) (by kernel_rfl) (by kernel_rfl) (by kernel_rfl) (fun _ _ _ h => h) (Or.inl ⟨by rfl, fun w0 _ => ?_⟩) hHeld ?_
  · go_simp
  try simp only [Act.put, List.setIfInBounds_toArray, List.set_cons_zero, List.set_cons_succ, List.getElem_toArray, List.getElem_cons_zero, List.getElem_cons_succ]
  refine UpTil.one (i := 9) (by kernel_rfl) rfl rfl (fun K hK => ?_)
  go_simp
  rw [hwA.out]
  refine hK.out _ _ (fun _ => z1) ?_
  clear hK K
  try simp only [Act.put, List.setIfInBounds_toArray, List.set_cons_zero, List.set_cons_succ, List.getElem_toArray, List.getElem_cons_zero, List.getElem_cons_succ]
  refine UpTil.one (i := 10) (by kernel_rfl) rfl rfl (fun K hK => ?_)
  refine Own.step_app rfl (.tmp 13) (.tmp 15) 30 rfl und_ints info_int (.slice ao n cap) (.slice (some ⟨w.heap.size, 0, none⟩) 1 1) rfl rfl cA.out.1 cA.out.2.1 cA.out.2.2 (icl_one [p]) (by unfold maxLen; omega) (by omega) ?_
  intro v2 w2 ho2 hg2 hv2
  obtain ⟨u1, u0⟩ := hfz.out w2 hg2
  obtain ⟨a2, c2, rfl⟩ := Own.form ho2
  have ho2 := W_hid ho2
  have hg2 := W_hid hg2
  have hv2 := W_hid hv2
  simp only [Act.put]
  refine hK.out _ _ (fun _ => u1) ?_
  clear hK K
  try simp only [Act.put, List.setIfInBounds_toArray, List.set_cons_zero, List.set_cons_succ, List.getElem_toArray, List.getElem_cons_zero, List.getElem_cons_succ]
  refine UpTil.one (i := 13) (by kernel_rfl) rfl rfl (fun K hK => ?_)
  go_simp
  refine hK.out _ _ (fun _ => u1) ?_
  clear hK K
  try simp only [Act.put, List.setIfInBounds_toArray, List.set_cons_zero, List.set_cons_succ, List.getElem_toArray, List.getElem_cons_zero, List.getElem_cons_succ]
  refine UpTil.last (by kernel_rfl) rfl rfl (by kernel_rfl) ?_
  go_simp
  go_end0
  exact ⟨rfl, hend.out w2 _ hg2.out ho2.out hv2.out⟩
end
end SD
end Go.Proofs.Ytmikgkelmdgckaa

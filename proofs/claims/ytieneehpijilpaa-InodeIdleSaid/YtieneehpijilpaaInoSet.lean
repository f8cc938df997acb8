/- Contracts of package inode's stored, replace, settle. -/
import Derived.Test.YtieneehpijilpaaInoDo
namespace Go.Proofs.Ytieneehpijilpaa
open Go.ChangeShapes Go.WideShapes Go.ChangeAt Go.RowKit Go.Maps
set_option linter.unusedVariables false
set_option linter.unusedSimpArgs false
namespace IN

theorem ok_fit : ∀ {b : Int} {l : List (Int × ByteArray)}, 0 ≤ b → EM.ok b l = true → XFit l
  | _, [], _, _ => fun x hx => by simp at hx
  | b, y :: r, hb, h => by
    obtain ⟨h1, h2, h3, h4⟩ := EM.ok_cons.1 h
    have hf : EM.fin y = y.1 + y.2.size := rfl
    intro x hx
    rcases List.mem_cons.1 hx with e | hx
    · subst e
      exact ⟨⟨by omega, by omega⟩, by unfold maxLen; omega⟩
    · exact ok_fit (by omega) h4 x hx
theorem ok_cnt {l : List (Int × ByteArray)} (h : EM.ok 0 l = true) : (EM.cnt l : Int) ≤ 1048576 := by
  have := (EM.wk_cnt (EM.ok_wk h) (by decide)).1
  omega

set_option maxRecDepth 100000 in
set_option maxHeartbeats 1000000 in
theorem stored_any (v : Value) (l : List (Int × ByteArray)) (w : World) (h : XE w v l) (hok : EM.ok 0 l = true) :
    Calls Try.prog 63 #[v] w fun e w' => e = .returned (.int .i64 (EM.cnt l : Int)) ∧ Below w.heap.size w w' := by
  obtain ⟨ao, n, c, rfl, hx, -⟩ := h
  have cS := Stored_any ao n c l w hx (ok_fit (Int.le_refl _) hok)
  have e1 : stV l = (EM.cnt l : Int) := by unfold stV; rw [if_pos hok]
  rw [e1] at cS
  have cS := W_hid cS
  clear hx e1
  go_enter Try.func63, Try.ntmps63
  go_wp2_with fail
  refine cS.out.mono ?_
  rintro e w1 ⟨rfl, b1⟩
  go_wp2_with fail
  go_ret
  exact ⟨rfl, b1⟩

section
variable {base sg mb : Nat} {M : Int → Option Nat} {I L left : Int} {S : Int → Option Nd}
set_option maxRecDepth 100000 in
set_option maxHeartbeats 4000000 in
theorem replace_any (n : Int) (g : Nat) (d : Nd) (v v' : Value) (l' : List (Int × ByteArray)) (w : World) (h : PM base w sg mb M I L left S) (hM : M n = some g) (hS : S n = some d) (hN : NB w g d v) (hx : XE w v' l') (h1 : EM.ok 0 d.l = true) (h2 : EM.ok 0 l' = true) (hl : 0 ≤ left ∧ left ≤ 16777216) :
    Calls Try.prog 50 #[.pointer (some ⟨sg, 0, none⟩), .pointer (some ⟨g, 0, none⟩), v'] w fun e w' =>
      (left < (EM.cnt l' : Int) - (EM.cnt d.l : Int) ∧ e = .returned (.int .i64 21) ∧ Below w.heap.size w w') ∨
      ((EM.cnt l' : Int) - (EM.cnt d.l : Int) ≤ left ∧ e = .returned (.int .i64 0) ∧ PM base w' sg mb M I L (left - ((EM.cnt l' : Int) - (EM.cnt d.l : Int))) (upd S n (some { d with l := l' })) ∧ NB w' g { d with l := l' } v' ∧ Keeps base PT w w') := by
  obtain ⟨ao', n', c', rfl, hx1, hx2⟩ := hx
  have hx : XE w (.slice ao' n' c') l' := ⟨ao', n', c', rfl, hx1, hx2⟩
  clear hx1 hx2
  have d4 := hN.1.cell (j := 4) rfl
  have b1 := ok_cnt h1
  have b2 := ok_cnt h2
  have hlow : base ≤ w.heap.size := Nat.le_trans h.ge.1 (Nat.le_of_lt h.box.lt)
  have cA : ∀ W, Below w.heap.size w W → Calls Try.prog 63 #[(.slice ao' n' c')] W fun e w' => e = .returned (.int .i64 (EM.cnt l' : Int)) ∧ w'.cell? ⟨g, 4, none⟩ = some v ∧ Below w.heap.size w w' := fun W hW =>
    (stored_any (.slice ao' n' c') l' W (hx.keep hW) h2).mono fun e w' hh => ⟨hh.1, (hN.1.keep (hW.trans (hh.2.mono hW.size))).cell (j := 4) rfl, hW.trans (hh.2.mono hW.size)⟩
  have cB : ∀ W, Below w.heap.size w W → Calls Try.prog 63 #[v] W fun e w' => e = .returned (.int .i64 (EM.cnt d.l : Int)) ∧ w'.cell? ⟨g, 4, none⟩ = some v ∧ Below w.heap.size w w' := fun W hW =>
    (stored_any v d.l W (hN.2.keep hW) h1).mono fun e w' hh => ⟨hh.1, (hN.1.keep (hW.trans (hh.2.mono hW.size))).cell (j := 4) rfl, hW.trans (hh.2.mono hW.size)⟩
  replace cA := W_hid cA
  replace cB := W_hid cB
  obtain ⟨A, hA⟩ : ∃ A, EM.cnt l' = A := ⟨_, rfl⟩
  obtain ⟨D, hD⟩ : ∃ D, EM.cnt d.l = D := ⟨_, rfl⟩
  rw [hA] at b2 cA ⊢
  rw [hD] at b1 cB ⊢
  have H := W_hid h
  have HN := W_hid hN
  have HX := W_hid hx
  clear hA hD h hN hx h1 h2
  have bel := Below.refl w.heap.size w
  have hw0 : IntKind.i64.wrap ((A : Int) - (D : Int)) = (A : Int) - (D : Int) := by rw [IntKind.wrap_i64]; omega
  go_enter Try.func50, Try.ntmps50
  go_wp2_with fail
  refine wp_region_held_drew (S := (fun w' => w'.cell? ⟨g, 4, none⟩ = some v ∧ Below w.heap.size w w')) (by kernel_rfl) ⟨d4, Below.drew bel⟩ (fun hHeld => ?_)
  refine wpAnyH_take (i := 0) (v := (.slice ao' n' c')) rfl (by kernel_rfl) (by kernel_rfl) (by kernel_rfl) (fun _ _ _ h => h) (Or.inl ⟨by rfl, fun w0 ⟨s1, s2⟩ => ?_⟩) hHeld ?_
  · go_simp
  try simp only [Act.put, List.setIfInBounds_toArray, List.set_cons_zero, List.set_cons_succ, List.getElem_toArray, List.getElem_cons_zero, List.getElem_cons_succ]
  refine wpAnyH_take (i := 2) (v := .pointer (some ⟨g, 0, none⟩)) rfl (by kernel_rfl) (by kernel_rfl) (by kernel_rfl) (fun _ _ _ h => h) (Or.inl ⟨by rfl, fun w0 ⟨s1, s2⟩ => ?_⟩) hHeld ?_
  · go_simp
  try simp only [Act.put, List.setIfInBounds_toArray, List.set_cons_zero, List.set_cons_succ, List.getElem_toArray, List.getElem_cons_zero, List.getElem_cons_succ]
  refine wpAnyH_take (i := 3) (v := .pointer (some ⟨g, 0, none⟩)) rfl (by kernel_rfl) (by kernel_rfl) (by kernel_rfl) (fun _ _ _ h => h) (Or.inl ⟨by rfl, fun w0 ⟨s1, s2⟩ => ?_⟩) hHeld ?_
  · go_simp
  try simp only [Act.put, List.setIfInBounds_toArray, List.set_cons_zero, List.set_cons_succ, List.getElem_toArray, List.getElem_cons_zero, List.getElem_cons_succ]
  refine wpAnyH_take (i := 4) (v := .pointer (some ⟨g, 4, none⟩)) rfl (by kernel_rfl) (by kernel_rfl) (by kernel_rfl) (fun _ _ _ h => h) (Or.inl ⟨by rfl, fun w0 ⟨s1, s2⟩ => ?_⟩) hHeld ?_
  · go_simp
  try simp only [Act.put, List.setIfInBounds_toArray, List.set_cons_zero, List.set_cons_succ, List.getElem_toArray, List.getElem_cons_zero, List.getElem_cons_succ]
  refine wpAnyH_take (i := 5) (v := v) rfl (by kernel_rfl) (by kernel_rfl) (by kernel_rfl) (fun _ _ _ h => h) (Or.inl ⟨by rfl, fun w0 ⟨s1, s2⟩ => ?_⟩) hHeld ?_
  · go_simp
  try simp only [Act.put, List.setIfInBounds_toArray, List.set_cons_zero, List.set_cons_succ, List.getElem_toArray, List.getElem_cons_zero, List.getElem_cons_succ]
  refine wpAnyH_ready (rs := [1]) (by kernel_rfl) (by simp) ?_
  refine AllReadyH.cons rfl (fun K hK => ?_) AllReadyH.nil
  go_simp
  refine (cA.out _ (Below.drew bel)).mono ?_
  rintro e w2 ⟨rfl, hc2, hb2⟩
  refine hK.out _ _ ⟨hc2, hb2⟩ (fun hHeld2 => ?_)
  clear hK K
  try simp only [Act.put, List.setIfInBounds_toArray, List.set_cons_zero, List.set_cons_succ, List.getElem_toArray, List.getElem_cons_zero, List.getElem_cons_succ]
  refine wpAnyH_ready (rs := [6]) (by kernel_rfl) (by simp) ?_
  refine AllReadyH.cons rfl (fun K hK => ?_) AllReadyH.nil
  go_simp
  refine (cB.out _ hb2).mono ?_
  rintro e w3 ⟨rfl, hc3, hb3⟩
  refine hK.out _ _ ⟨hc3, hb3⟩ (fun hHeld3 => ?_)
  clear hK K
  try simp only [Act.put, List.setIfInBounds_toArray, List.set_cons_zero, List.set_cons_succ, List.getElem_toArray, List.getElem_cons_zero, List.getElem_cons_succ]
  refine wpAnyH_take (i := 7) (v := .int .i64 ((A : Int) - (D : Int))) rfl (by kernel_rfl) (by kernel_rfl) (by kernel_rfl) (fun _ _ _ h => h) (Or.inl ⟨by rfl, fun w0 ⟨s1, s2⟩ => ?_⟩) hHeld3 ?_
  · go_simp
  try simp only [Act.put, List.setIfInBounds_toArray, List.set_cons_zero, List.set_cons_succ, List.getElem_toArray, List.getElem_cons_zero, List.getElem_cons_succ]
  refine wpAnyH_take (i := 8) (v := .int .i64 ((A : Int) - (D : Int))) rfl (by kernel_rfl) (by kernel_rfl) (by kernel_rfl) (fun _ _ _ h => h) (Or.inl ⟨by rfl, fun w0 ⟨s1, s2⟩ => ?_⟩) hHeld3 ?_
  · go_simp
  try simp only [Act.put, List.setIfInBounds_toArray, List.set_cons_zero, List.set_cons_succ, List.getElem_toArray, List.getElem_cons_zero, List.getElem_cons_succ]
  refine wpAnyH_done (by kernel_rfl) ?_ _
  have h3 := H.out.keep hb3
  have hN3 : NB w3 g d v := ⟨HN.out.1.keep hb3, HN.out.2.keep hb3⟩
  have hX3 := HX.out.keep hb3
  have c3 := h3.box.cell (j := 3) rfl
  have fs := h3.box.fz
  have fg := hN3.1.fz
  have hgs : g ≠ sg := blk_ne hN3.1 h3.box (by decide)
  by_cases hlt : left < (A : Int) - (D : Int)
  · replace hb3 := W_hid hb3
    clear h3 hN3 hX3 hb2 hc2 hc3
    go_wp2_with fail
    go_ret
    exact .inl ⟨hlt, rfl, hb3.out⟩
  · have hle : Hid ((A : Int) - (D : Int) ≤ left) := W_hid (by omega)
    have hw : IntKind.i64.wrap (left - ((A : Int) - (D : Int))) = left - ((A : Int) - (D : Int)) := by rw [IntKind.wrap_i64]; omega
    obtain ⟨q1, q2⟩ := h3.setLeft (left - ((A : Int) - (D : Int)))
    have hN4 : Blk (w3.setCell ⟨sg, 3, none⟩ (.int .i64 (left - ((A : Int) - (D : Int))))) g 74 (ncl d v) := hN3.1.far (p := ⟨sg, 3, none⟩) hgs _
    obtain ⟨r1, r2, r3⟩ := q1.setNode (d' := { d with l := l' }) (v' := (.slice ao' n' c')) hM hS hN4 (hX3.keeps q2 (by intro c; simp [PT])) 4 (.slice ao' n' c') rfl
    have K3 := W_hid ((Keeps.new (T := PT) hb3 hlow).trans (q2.trans r3))
    have r1 := W_hid r1
    have r2 := W_hid r2
    replace hb3 := W_hid hb3
    clear h3 hN3 hX3 hb2 hc2 q1 q2 hN4 r3
    have hgs2 : ¬ sg = g := fun e => hgs e.symm
    go_wp2_with fail
    go_ret
    exact .inr ⟨rfl, r1.out, r2.out, K3.out⟩

/-- 'delete' of an inode. -/
theorem wpList_delete_n {w : World} {ops : Array Oper} {rest : List Oper} {o : Oper} {a : Act} {Q : Exit → Act → World → Prop} (hg : o.guard = none) (m x : Operand) (hop : o.op = Op.call { callee := Callee.builtin Builtin.delete, args := #[m, x], argTypes := #[55, 3] })
    (b : Nat) (f : Int) (M : Int → Option Nat) (hm : a.eval m = .map (some b)) (hx : a.eval x = .int .i64 f) (h : IS.MB w b M) (hf : IS.I64 f)
    (hK : ∀ w', IS.MB w' b (IS.upd M f none) → w.grownBy w' (some b) → w'.heap.size = w.heap.size → wpList Try.prog ops Q rest (a.put o.dst (.tuple #[])) w') : wpList Try.prog ops Q (o :: rest) a w := by
  refine wpList_plain hg fun K' hK' => ?_
  obtain ⟨w', hrun, r1, r2, r3⟩ := h.del f hf o.type
  unfold Oper.wp
  simp [execOp, hop, resolve, invoke, builtin, hm, hx, hrun, Result.andThen]
  exact hK' _ _ (hK w' r1 r2 r3)

set_option maxRecDepth 100000 in
set_option maxHeartbeats 4000000 in
/-- An inode that is neither named nor open goes. -/
theorem settle_any (n : Int) (d : Nd) (w : World) (h : PM base w sg mb M I L left S) (hn : IS.I64 n) (hS : S n = some d) (hok : EM.ok 0 d.l = true) (hl : 0 ≤ left ∧ left ≤ 16777216) :
    Calls Try.prog 45 #[.pointer (some ⟨sg, 0, none⟩), .int .i64 n] w fun e w' => e = .returned (.tuple #[]) ∧ (∃ M', PM base w' sg mb M' I L (if d.links = 0 ∧ d.opens = 0 then left + (EM.cnt d.l : Int) else left) (gone S n)) ∧ Keeps base PT w w' := by
  have c0 := h.box.cell (j := 0) rfl
  have hlk := h.mp.look n hn
  obtain ⟨g, v, hM, hN, hge, hgs, hgm⟩ := h.has hS
  rw [hM] at hlk
  simp only [IS.ptr] at hlk
  have d1 := hN.1.cell (j := 1) rfl
  have d2 := hN.1.cell (j := 2) rfl
  have cR := W_hid (replace_any n g d v (.slice none 0 0) [] w h hM hS hN (XE.nil w) hok rfl hl)
  have hb := ok_cnt hok
  have hstay : ¬ (d.links = 0 ∧ d.opens = 0) → gone S n = S := fun hz => by unfold gone; rw [hS]; simp only; rw [if_neg hz]
  have hgo : d.links = 0 ∧ d.opens = 0 → gone S n = upd S n none := fun hz => by unfold gone; rw [hS]; simp only; rw [if_pos hz]
  have H := W_hid h
  have hM := W_hid hM
  have hS := W_hid hS
  have hstay := W_hid hstay
  have hgo := W_hid hgo
  clear h hN
  by_cases hz : d.links = 0 ∧ d.opens = 0
  · rw [if_pos hz, hgo.out hz]
    obtain ⟨hz1, hz2⟩ := hz
    rw [hz1] at d1
    rw [hz2] at d2
    go_enter Try.func45, Try.ntmps45
    go_wp2_with fail
    refine cR.out.mono ?_
    rintro e w1 (⟨h1, rfl, b1⟩ | ⟨h1, rfl, h2, h3, h4⟩)
    · rw [EM.cnt_nil] at h1; omega
    · have e0 : left - (((EM.cnt ([] : List (Int × ByteArray)) : Nat) : Int) - (EM.cnt d.l : Int)) = left + (EM.cnt d.l : Int) := by rw [EM.cnt_nil]; omega
      rw [e0] at h2
      have k0 := h2.box.cell (j := 0) rfl
      have hmb := W_hid h2.mp
      have h2 := W_hid h2
      have h4 := W_hid h4
      clear h1 h3 e0 hb
      go_wp2_with (first | (refine wpList_delete_n rfl _ _ rfl mb n M rfl rfl hmb.out hn ?_; intro w2 hm2 hg2 hs2))
      have hu : ∀ m, IS.upd M n none m = none ↔ upd S n none m = none := fun m => by
        by_cases e : m = n
        · subst e; rw [upd_at]; simp [IS.upd]
        · rw [upd_ne e]; unfold IS.upd; rw [if_neg e]; exact H.out.dom m
      obtain ⟨q1, q2⟩ := h2.out.turn hm2 hg2 (upd S n none) hu (fun m g' d' hM' hS' => by
        have e : m ≠ n := fun e => by subst e; rw [upd_at] at hS'; cases hS'
        unfold IS.upd at hM'
        rw [if_neg e] at hM'
        rw [upd_ne e] at hS'
        exact .inl ⟨hM', by rw [upd_ne e]; exact hS'⟩) (fun m m' g' hA hB => by
        unfold IS.upd at hA hB
        split at hA
        · cases hA
        · split at hB
          · cases hB
          · exact H.out.inj m m' g' hA hB)
      have q1 := W_hid q1
      have q2 := W_hid (h4.out.trans q2)
      clear hm2 hg2 hu
      go_wp2_with fail
      go_end0
      exact ⟨rfl, ⟨_, q1.out⟩, q2.out⟩
  · rw [if_neg hz, hstay.out hz]
    have hz' : (d.links = 0 ∧ ¬ d.opens = 0) ∨ ¬ d.links = 0 := by omega
    rcases hz' with ⟨hz1, hz2⟩ | hz1
    · rw [hz1] at d1
      clear cR hz
      go_enter Try.func45, Try.ntmps45
      go_wp2_with fail
      go_end0
      exact ⟨rfl, ⟨M, H.out⟩, Keeps.refl _ _ _⟩
    · clear cR hz
      go_enter Try.func45, Try.ntmps45
      go_wp2_with fail
      go_end0
      exact ⟨rfl, ⟨M, H.out⟩, Keeps.refl _ _ _⟩
end
end IN
end Go.Proofs.Ytieneehpijilpaa

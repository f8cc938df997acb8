/- The document's tree with its store, of directories and inodes: its elementary calls. -/
import Derived.Test.YtmnmheocmcmpmaaGreatZB06
import Derived.Deep.RegionHeld3
import Derived.OrdersHeld

namespace Go.Proofs.YtmnmheocmcmpmaaGreat
open Go.ChangeShapes Go.WideShapes Go.ChangeAt Go.RowKit
set_option linter.unusedVariables false
set_option linter.unusedSimpArgs false
namespace RN
open IN (Keeps)
open NT (Dr Ds er nu findR)
def UT (k : Nat) (o : Obj) : Prop := RT k o ∨ IN.DT k o
section
variable {base : Nat} {w w' : World} {rt rg : Nat} {v : Value} {q : List QE}
theorem keeps_rt (h : Keeps base RT w w') : Keeps base UT w w' := NT.keeps_wide h fun k o _ hT => .inl hT
theorem keeps_dt (h : Keeps base IN.DT w w') : Keeps base UT w w' := NT.keeps_wide h fun k o _ hT => .inr hT
theorem DT.keeps {l : List DD} (h : DT base w rt rg l) {C : Nat} {T : Nat → Obj → Prop} (hK : Keeps C T w w') (h1 : ∀ k c s, ¬ T k (.cells c 118 s)) (h2 : ∀ k c s, ¬ T k (.cells c 115 s)) (h3 : ∀ k c, ¬ T k (.cells c 133 (0, 0))) : DT base w' rt rg l := by
  obtain ⟨v, q, k1, k2⟩ := h.ex
  exact ⟨⟨v, q, k1.keeps hK h1 h2, k2.keeps hK h3⟩, h.few⟩
theorem DT.low {l : List DD} (h : DT base w rt rg l) : base ≤ w.heap.size := by
  obtain ⟨v, q, k1, k2⟩ := h.ex
  exact k1.low
theorem DT.store {l : List DD} (h : DT base w rt rg l) {C : Nat} (hK : Keeps C IN.DT w w') : DT base w' rt rg l := h.keeps hK (by simp [IN.DT]) (by simp [IN.DT]) (by simp [IN.DT])
theorem RS.tree {I B L : Int} {l : List (Nat × IN.Nd)} (h : IN.RS base w rg I B L l) {C : Nat} (hK : Keeps C RT w w') : IN.RS base w' rg I B L l := h.keeps hK (by simp [RT]) (by simp [RT]) (by simp [RT])
theorem DM.newRow {w1 : World} (h : DM base w rt rg v q) (hb : Below w.heap.size w w1) {v' : Value} {q' : List QE} (ho : w1.ownsRow w.heap.size 115 3 v' q'.length (qcl q')) :
    DM base (w1.setCell ⟨rt, 1, none⟩ v') rt rg v' q' ∧ Keeps base RT w (w1.setCell ⟨rt, 1, none⟩ v') := by
  have h1 := h.keep hb
  have hlt := h.box.lt
  refine ⟨⟨h1.box.set 1 v', Own.low h.low (Own.set ho (p := ⟨rt, 1, none⟩) hlt v'), h.ge⟩, ?_⟩
  exact (Keeps.new hb h.low).trans ((Keeps.refl base RT w1).setCell (p := ⟨rt, 1, none⟩) h1.box (.inl ⟨_, _, rfl⟩) h.ge v')
theorem info_dir : Own.Info Tryz.prog 115 (.agg #[.int .i64 0, .int .i64 0, .slice none 0 0]) 3 40 := Own.info_of (by kernel_rfl) rfl (by decide)
theorem elem_dir : Tryz.prog.elem 116 = 115 := by kernel_rfl
theorem NE.one {w : World} {v : Value} {l : List (ByteArray × Int × Int)} (h : NE w v l) : v.oneCell' = true := by
  obtain ⟨ao, cap, rfl⟩ := h.form
  rfl
theorem Fit.one : ∀ {q : List QE} {l : List DD}, Fit w q l → ∀ u ∈ qcl q, u.oneCell' = true
  | [], [], _, u, hu => by cases hu
  | x :: q, y :: l, h, u, hu => by
    rw [show x :: q = [x] ++ q from rfl, qcl_app, qcl_one] at hu
    rcases List.mem_append.1 hu with hu | hu
    · simp only [qrow, List.mem_cons, List.not_mem_nil, or_false] at hu
      rcases hu with rfl | rfl | rfl
      · rfl
      · rfl
      · exact h.1.v.one
    · exact Fit.one h.2 u hu
  | [], y :: l, h, _, _ => h.elim
  | x :: q, [], h, _, _ => h.elim
theorem DT.ptr {l : List DD} (h : DT base w rt rg l) : w.cell? ⟨rt, 0, none⟩ = some (.pointer (some ⟨rg, 0, none⟩)) := by
  obtain ⟨v, q, k1, k2⟩ := h.ex
  exact k1.box.cell (j := 0) rfl
variable {I B L k : Nat} {S : Int → Option IN.Nd}
set_option maxRecDepth 100000 in
set_option maxHeartbeats 8000000 in
theorem raway_file (n : Int) {l : List DD} (w : World) (h : DT base w rt rg l) (hn : ¬ ix l n < l.length) (hf : IN.Fine I L B k S) (hI : I ≤ 4096) (hL : L ≤ 32768) (hk : k < 1000000) (hS : IN.RS base w rg (I : Int) (B : Int) (L : Int) (IN.lst S I)) :
    Calls Tryz.prog 134 #[.pointer (some ⟨rt, 0, none⟩), .int .i64 n] w fun e w' => e = .returned (.tuple #[]) ∧ DT base w' rt rg l ∧ IN.RS base w' rg (I : Int) (B : Int) (L : Int) (IN.lst (IN.ulS S n) I) ∧ Keeps base UT w w' := by
  have hda : dirA l n = -1 := by unfold dirA; rw [if_neg hn]
  have cD := dir_t n h
  rw [hda] at cD
  have c0 := h.ptr
  have cU := W_hid (IN.rUnlink_any n w hf hI hL hk hS)
  replace cD := W_hid cD
  have h := W_hid h
  clear hn hda hf hS
  go_enter Tryz.func134, Tryz.ntmps134
  go_wp2_with fail
  refine cD.out.mono ?_
  rintro e w1 ⟨rfl, rfl⟩
  go_wp2_with fail
  refine cU.out.mono ?_
  rintro e w1 ⟨rfl, hr, hK⟩
  go_wp2_with fail
  go_end0
  exact ⟨rfl, h.out.store hK, hr, keeps_dt hK⟩
set_option maxRecDepth 100000 in
set_option maxHeartbeats 8000000 in
theorem raway_dir (n : Int) {l : List DD} (w : World) (h : DT base w rt rg l) (hn : ix l n < l.length) (hf : IN.Fine I L B k S) (hI : I ≤ 4096) (hL : L ≤ 32768) (hk : k < 1000000) (hS : IN.RS base w rg (I : Int) (B : Int) (L : Int) (IN.lst S I)) :
    Calls Tryz.prog 134 #[.pointer (some ⟨rt, 0, none⟩), .int .i64 n] w fun e w' => e = .returned (.tuple #[]) ∧ DT base w' rt rg (l.eraseIdx (ix l n)) ∧ IN.RS base w' rg (I : Int) (B : Int) (L : Int) (IN.lst (IN.ulS S n) I) ∧ Keeps base UT w w' := by
  have hda : dirA l n = (ix l n : Int) := by unfold dirA; rw [if_pos hn]
  have cD := dir_t n h
  rw [hda] at cD
  have hfew := h.few
  obtain ⟨v, q, hM, hF⟩ := h.ex
  have hlen := hF.len
  obtain ⟨g, cap, rfl, hbg, hgl, hgr, hNc, hcm, hfz, -, -, -⟩ := hM.el (i := ix l n) (by omega)
  have hrl := hM.box.lt
  have cU := W_hid (fun W (hS' : IN.RS base W rg (I : Int) (B : Int) (L : Int) (IN.lst S I)) => IN.rUnlink_any n W hf hI hL hk hS')
  have hle := hfew.len
  have hfin : Hid (Few (l.take (ix l n) ++ l.drop (ix l n + 1))) := W_hid ⟨by rw [List.length_append, List.length_take, List.length_drop]; omega, fun x hx => hfew.names x (by
      rcases List.mem_append.1 hx with hx | hx
      · exact List.mem_of_mem_take hx
      · exact List.mem_of_mem_drop hx), fun x hx => hfew.nos x (by
      rcases List.mem_append.1 hx with hx | hx
      · exact List.mem_of_mem_take hx
      · exact List.mem_of_mem_drop hx)⟩
  rw [List.eraseIdx_eq_take_drop_succ]
  generalize ix l n = p at *
  obtain ⟨N, hN⟩ : ∃ N, q.length = N := ⟨_, rfl⟩
  have hpN : p < N := by omega
  have hNl : N ≤ 100000 := by omega
  unfold maxLen at hcm
  rw [hN] at hNc hM
  have c0 := hM.box.cell (j := 0) rfl
  have c1 := hM.box.cell (j := 1) rfl
  obtain ⟨X, hmk, hmo⟩ := Own.make_room (t := 116) Tryz.underlying116 info_dir N (N : Int) rfl (by omega) (by omega)
  obtain ⟨ad, hlo, had1, had2⟩ := Own.cut_lo (t := 116) Tryz.underlying116 elem_dir info_dir g 0 N cap (p + 1) ((p : Int) + 1) (by omega) (by omega) hNc
  have hhi := Own.cut_hi (t := 116) Tryz.underlying116 elem_dir info_dir (some ⟨g, 0, none⟩) N cap p (by omega) hNc (.inr ⟨_, _, rfl⟩)
  have hwr : IntKind.i64.wrap ((p : Int) + 1) = (p : Int) + 1 := IntWalk.i64_in _ (by omega)
  have hi3 : (p : Int) + 1 ≤ (N : Int) := by omega
  have hpn' : (p : Int) < (N : Int) := by omega
  have hone : ∀ u ∈ qcl q, u.oneCell' = true := fun u hu => hF.one u hu
  have H := W_hid hM
  have HF := W_hid hF
  have HS := W_hid hS
  have hrow : Hid (w.ownsRow base 115 3 (.slice (some ⟨g, 0, none⟩) N cap) N (qcl q)) := W_hid (by have := hM.row; rw [hN] at this; exact this)
  have A1 : Hid ((w.alloc X).drew.ownsRow w.heap.size 115 3 (.slice (some ⟨w.heap.size, 0, none⟩) 0 N) 0 []) := W_hid (hmo w w.heap.size (Nat.le_refl _))
  have S1 := W_hid ((Own.src_take hrow.out rfl p (by omega)).keep (((Below.refl _ _).alloc (Nat.le_refl _) X).drew))
  have S2 := W_hid ((Own.src_drop hrow.out (p + 1) (by omega) ad (cap - (p + 1)) (by simpa using had2)).keep (((Below.refl _ _).alloc (Nat.le_refl _) X).drew))
  have hone1 : Hid (∀ u ∈ (qcl q).take (p * 3), u.oneCell' = true) := W_hid (fun u hu => hone u (List.mem_of_mem_take hu))
  have hone2 : Hid (∀ u ∈ (qcl q).drop ((p + 1) * 3), u.oneCell' = true) := W_hid (fun u hu => hone u (List.mem_of_mem_drop hu))
  have hcut : Hid ([] ++ (qcl q).take (p * 3) ++ (qcl q).drop ((p + 1) * 3) = qcl (q.take p ++ q.drop (p + 1)) ∧ 0 + p + (N - (p + 1)) = (q.take p ++ q.drop (p + 1)).length) := W_hid ⟨by rw [qcl_take, qcl_drop, qcl_app]; rfl, by rw [List.length_append, List.length_take, List.length_drop, hN]; omega⟩
  have hend := W_hid (fun (w3 : World) (v3 : Value) (hb : Below w.heap.size w w3) (ho : w3.ownsRow w.heap.size 115 3 v3 (q.take p ++ q.drop (p + 1)).length (qcl (q.take p ++ q.drop (p + 1)))) => hM.newRow hb ho)
  obtain ⟨adb, ado, ads⟩ := ad
  simp only at had1
  obtain rfl := had1.symm
  have xa : ∀ ob, (w.alloc ob).cell? ⟨rt, 1, none⟩ = some (.slice (some ⟨g, 0, none⟩) N cap) := fun ob => (hM.box.alloc ob).cell rfl
  replace hN := W_hid hN
  replace hrow := W_hid hrow.out
  have hbl1 : Hid (g < w.heap.size) := W_hid hgl
  have hgl1 : Hid (rt < w.heap.size) := W_hid hrl
  replace cD := W_hid cD
  clear h hM hF hS had2 hmo hfew hone hf hda hlen hle hn hgr hfz hbg
  go_enter Tryz.func134, Tryz.ntmps134
  go_wp2_with fail
  refine cD.out.mono ?_
  rintro e w1 ⟨rfl, rfl⟩
  go_wp2_with fail
  go_region_law (first
    | (refine Own.step_app rfl (.tmp 16) (.tmp 22) 116 rfl Tryz.underlying116 info_dir (.slice (some ⟨w.heap.size, 0, none⟩) 0 N) (.slice (some ⟨g, 0, none⟩) p cap) rfl rfl A1.out (by simp) S1.out hone1.out (by unfold maxLen; omega) (by omega) ?_
       intro v2 w2 ho2 hg2 hob2
       have A2 := W_hid ho2
       have S3 := W_hid (Own.Src.grown S2.out hg2 (fun ad n c e _ => by simp only [Value.slice.injEq, Option.some.injEq] at e; have := hbl1.out; obtain ⟨rfl, -, -⟩ := e; simp [Value.ownBlock]; omega))
       have x2b : w2.cell? ⟨rt, 1, none⟩ = some (.slice (some ⟨g, 0, none⟩) N cap) := Own.cellg hg2 (xa X) (by have := hgl1.out; simp [Value.ownBlock]; omega)
       have B2 := W_hid ((((Below.refl w.heap.size w).alloc (Nat.le_refl _) X).drew).grown hg2 (by simp) (fun j hj => Own.ge A1.out j hj))
       clear ho2 hg2 hob2)
    | (refine Own.step_app rfl (.tmp 23) (.tmp 30) 116 rfl Tryz.underlying116 info_dir v2 (.slice (some ⟨g, ado, ads⟩) (N - (p + 1)) (cap - (p + 1))) rfl rfl A2.out B2.out.size S3.out hone2.out (by unfold maxLen; omega) (by omega) ?_
       intro v3 w3 ho3 hg3 hob3
       obtain ⟨a3, c3, rfl⟩ := Own.form ho3
       have B3 := W_hid (B2.out.grown hg3 B2.out.size (fun k h => Own.ge A2.out k h))
       have A3 := W_hid ho3
       have bx3 := H.out.box.below B3.out hgl1.out
       have x3b := bx3.cell (j := 1) rfl
       have f3b := bx3.fz
       clear ho3 hg3 hob3 bx3))
  all_goals
    have ho3 := A3.out
    have e2 := hcut.out.2
    rw [hcut.out.1] at ho3
    simp only [Nat.zero_add] at ho3 e2
    rw [e2] at ho3
    rw [e2]
    obtain ⟨q1, q2⟩ := hend.out w3 _ B3.out ho3
    obtain ⟨ML, hML⟩ : ∃ ML, (q.take p ++ q.drop (p + 1)).length = ML := ⟨_, rfl⟩
    rw [hML] at q1 q2
    rw [hML]
    have y0 := q1.box.cell (j := 0) rfl
    have hS3 := RS.tree HS.out q2
    have hD3 : DT base _ rt rg (l.take p ++ l.drop (p + 1)) := ⟨⟨_, _, q1, ((HF.out.take p).app (HF.out.drop (p + 1))).keeps q2 (by simp [RT])⟩, hfin.out⟩
    have cU3 := W_hid (cU.out _ hS3)
    replace hD3 := W_hid hD3
    replace q2 := W_hid q2
    clear q1 hS3 ho3 e2 hML
    go_wp2_with fail
    refine cU3.out.mono ?_
    rintro e w4 ⟨rfl, hr, hK⟩
    go_wp2_with fail
    go_end0
    exact ⟨rfl, hD3.out.store hK, hr, (keeps_rt q2.out).trans (keeps_dt hK)⟩
theorem raway_any (n : Int) {l : List DD} (w : World) (h : DT base w rt rg l) (hf : IN.Fine I L B k S) (hI : I ≤ 4096) (hL : L ≤ 32768) (hk : k < 1000000) (hS : IN.RS base w rg (I : Int) (B : Int) (L : Int) (IN.lst S I)) :
    Calls Tryz.prog 134 #[.pointer (some ⟨rt, 0, none⟩), .int .i64 n] w fun e w' => e = .returned (.tuple #[]) ∧ DT base w' rt rg (l.eraseIdx (ix l n)) ∧ IN.RS base w' rg (I : Int) (B : Int) (L : Int) (IN.lst (IN.ulS S n) I) ∧ Keeps base UT w w' := by
  by_cases hn : ix l n < l.length
  · exact raway_dir n w h hn hf hI hL hk hS
  · rw [List.eraseIdx_of_length_le (by omega)]
    exact raway_file n w h hn hf hI hL hk hS
end
end RN
namespace RN
open IN (Keeps)
open NT (Dr Ds er nu findR)
section
variable {base : Nat} {w w' : World} {rt rg : Nat}
set_option maxRecDepth 100000 in
set_option maxHeartbeats 8000000 in
theorem rput_any (n : Int) (k : ByteArray) (a b : Int) {l : List DD} (w : World) (h : DT base w rt rg l) (hn : ix l n < l.length) (hln : l[ix l n].l.length < 100000) (ha : a ≠ 0) :
    Calls Tryz.prog 127 #[.pointer (some ⟨rt, 0, none⟩), .int .i64 n, .agg #[.string k, .int .i64 a, .int .i64 b]] w fun e w' => e = .returned (.tuple #[]) ∧ DT base w' rt rg (l.set (ix l n) (setL l[ix l n] (putL l[ix l n].l (k, a, b)))) ∧ Keeps base RT w w' := by
  have b0 := (Below.refl w.heap.size w).alloc (Nat.le_refl _) (.cells #[.string k, .int .i64 a, .int .i64 b] 133)
  have p0 : Blk (w.alloc (.cells #[.string k, .int .i64 a, .int .i64 b] 133)) w.heap.size 133 [.string k, .int .i64 a, .int .i64 b] := Blk.new _ _ _ rfl
  have hda : dirA l n = (ix l n : Int) := by unfold dirA; rw [if_pos hn]
  have cD := dir_t n (h.keep b0)
  rw [hda] at cD
  obtain ⟨g, cap, v, c1, hcap, c2, hNE⟩ := h.at_l hn
  obtain ⟨g', cap', c1', -, hbg, hgl, hfz, hset⟩ := h.names hn
  rw [c1] at c1'
  simp only [Option.some.injEq, Value.slice.injEq, Addr.mk.injEq, and_true, true_and] at c1'
  obtain ⟨rfl, rfl⟩ := c1'
  have hgr : rt ≠ g := by
    obtain ⟨v0, q0, d1, d2⟩ := h.ex
    have hl := d2.len
    obtain ⟨g0, cap0, rfl, -, -, hne, -⟩ := d1.el (i := ix l n) (by omega)
    have h7 := d1.box.cell (j := 1) rfl
    rw [c1] at h7
    simp only [Option.some.injEq, Value.slice.injEq, Addr.mk.injEq, and_true, true_and] at h7
    rw [h7.1]
    exact hne.symm
  have HF := W_hid (fun (W : World) (hb : Below w.heap.size w W) => show ∀ j, W.frozen? ⟨g, j, none⟩ = false from by
    obtain ⟨g2, cap2, c2', -, -, -, hf2, -⟩ := (h.keep hb).names hn
    have := (hb.cell (World.block_lt_of_cell? w _ c1)).trans c1
    rw [this] at c2'
    simp only [Option.some.injEq, Value.slice.injEq, Addr.mk.injEq, and_true, true_and] at c2'
    rw [c2'.1]
    exact hf2)
  have hnos := h.few.nos _ (List.getElem_mem hn)
  generalize l[ix l n] = X at *
  obtain ⟨xi, xu, nl⟩ := X
  simp only [setL] at *
  have hset := W_hid hset
  have hnos := W_hid hnos
  generalize l.set (ix l n) = Y at *
  have hK : ((ix l n : Nat) : Int) < (l.length : Int) := by omega
  generalize ix l n = Kd at *
  generalize hL : l.length = LL at *
  obtain ⟨ao, cc, rfl⟩ := hNE.form
  obtain ⟨N, hN⟩ : ∃ N, nl.length = N := ⟨_, rfl⟩
  rw [hN] at c2 hNE hln
  have hple := px_le nl k
  have hplt := px_lt nl k
  have hpat := px_at nl k
  have hput : putL nl (k, a, b) = nl.take (px nl k) ++ [(k, a, b)] ++ nl.drop (px nl k) := rfl
  rw [hput]
  generalize px nl k = P at *
  have hplt := W_hid hplt
  have hpat := W_hid hpat
  have hNE := W_hid hNE
  have hPN : P ≤ N := by omega
  have hcN : N ≤ cc ∧ cc ≤ 9223372036854775807 := by
    obtain ⟨bb, hr⟩ := hNE.out
    rcases hr.2 with ⟨e, h0⟩ | ⟨g9, cap9, cur, e, hb9, hg9, h19, h29, -⟩
    · simp only [Value.slice.injEq] at e
      omega
    · simp only [Value.slice.injEq] at e
      unfold maxLen at h29
      omega
  have hao : ao = none ∧ cc = 0 ∨ ∃ b o, ao = some ⟨b, o, none⟩ := by
    obtain ⟨bb, hr⟩ := hNE.out
    rcases hr.2 with ⟨e, h0⟩ | ⟨g9, cap9, cur, e, -⟩
    · simp only [Value.slice.injEq] at e
      exact .inl ⟨e.1, e.2.2⟩
    · simp only [Value.slice.injEq] at e
      exact .inr ⟨_, _, e.1⟩
  have hS1 : Own.Src w 3 (.slice ao P cc) P ((kcl nl).take (P * 3)) := by
    obtain ⟨bb, hr⟩ := hNE.out
    rw [hN] at hr
    exact Own.src_take hr rfl P hPN
  have hhi := Own.cut_hi (t := 56) Tryz.underlying56 (by kernel_rfl) NT.info_name ao N cc P hPN hcN.1 (hao.imp (·.1) id)
  obtain ⟨ad, hlo, hS3⟩ : ∃ ad : Value, (∀ W : World, (Instr.slice 56 (.slice ao N cc) (some (.int .i64 (P : Int))) none none).run Tryz.prog W = .ok ad W) ∧ Own.Src w 3 ad (N - P) ((kcl nl).drop (P * 3)) := by
    obtain ⟨bb, hr⟩ := hNE.out
    rw [hN] at hr
    rcases hao with ⟨e1, e2⟩ | ⟨b1, o1, e1⟩
    · subst e1; subst e2
      obtain rfl : N = 0 := by omega
      obtain rfl : P = 0 := by omega
      refine ⟨.slice none 0 0, Own.cut_none (t := 56) Tryz.underlying56 (by kernel_rfl) NT.info_name, .inl ⟨rfl, rfl, ?_⟩⟩
      rw [Nat.zero_mul, List.drop_zero]
      exact List.eq_nil_of_length_eq_zero (by rw [kcl_len, hN])
    · subst e1
      obtain ⟨ad, hl1, hl2, hl3⟩ := Own.cut_lo (t := 56) Tryz.underlying56 (by kernel_rfl) NT.info_name b1 o1 N cc P (P : Int) rfl hPN hcN.1
      exact ⟨_, hl1, Own.src_drop hr P hPN ad _ hl3⟩
  obtain ⟨XX, hmk, hmo⟩ := Own.make_room (t := 56) Tryz.underlying56 NT.info_name (N + 1) ((N : Int) + 1) (by omega) (by omega) (by omega)
  have honek : ∀ (r : List (ByteArray × Int × Int)), ∀ u ∈ kcl r, u.oneCell' = true := fun r => by
    induction r with
    | nil => intro u hu; cases hu
    | cons x r ih =>
      intro u hu
      rw [show x :: r = [x] ++ r from rfl, kcl_app] at hu
      rcases List.mem_append.1 hu with hu | hu
      · exact krow_one x u hu
      · exact ih u hu
  have HS := W_hid (And.intro hS1 (And.intro hS3 (And.intro hmo honek)))
  have hwN : IntKind.i64.wrap ((N : Int) + 1) = (N : Int) + 1 := IntWalk.i64_in _ (by omega)
  clear hS1 hS3 hmo honek hao
  replace hN := W_hid hN
  replace cD := W_hid cD
  have hgl1 := World.block_lt_of_cell? w _ c1
  clear h hn hda hL hput hple
  have HC := W_hid (And.intro c1 (And.intro c2 (And.intro hgl hgl1)))
  have c1 := (b0.cell hgl1).trans c1
  have c2 := (b0.cell hgl).trans c2
  have d0 := p0.cell (j := 0) rfl
  have p0 := W_hid p0
  have b0 := W_hid b0
  clear hfz hgl hgl1
  go_enter Tryz.func127, Tryz.ntmps127
  go_wp2_with fail
  refine cD.out.mono ?_
  rintro e w1 ⟨rfl, rfl⟩
  go_wp2_with fail
  obtain ⟨w1, hw1⟩ : ∃ w1, w.alloc (.cells #[.string k, .int .i64 a, .int .i64 b] 133) = w1 := ⟨_, rfl⟩
  rw [hw1] at p0 b0 ⊢
  clear c1 c2 d0 cD hw1
  go_loopw [8] (fun i wr => ∃ (j : Nat), j ≤ P ∧ i = .int .i64 (j : Int) ∧ Hid (Below w1.heap.size w1 wr)) (fun i _ => N + 1 - (intOf i).toNat)
  case atStart => exact ⟨0, Nat.zero_le _, rfl, W_hid (Below.refl _ _)⟩
  case round =>
    obtain ⟨j, hj, rfl, hb1⟩ := hrel
    have hb := W_hid (b0.out.trans (hb1.out.mono b0.out.size))
    have d0 := (p0.out.keep hb1.out).cell (j := 0) rfl
    by_cases hlt : j < N
    · have hjn : j < nl.length := by rw [hN.out]; exact hlt
      have hjN : (j : Int) < (N : Int) := by omega
      have hNr := (show NE w (.slice ao nl.length cc) nl by rw [hN.out]; exact hNE.out).move (w' := wr) fun b cur hc => hb.out.block b (IN.lt_of_some hc)
      obtain ⟨g2, cc2, hv, hg2, -, -, s0, -, -⟩ := hNr.el hjn
      simp only [Value.slice.injEq] at hv
      obtain ⟨rfl, -, -⟩ := hv
      by_cases hjP : j < P
      · have hx := hplt.out j hjn hjP
        obtain ⟨y, hy⟩ : ∃ y, nl[j].1 = y := ⟨_, rfl⟩
        rw [hy] at s0 hx
        have hx : Op.bytesLess y.toList k.toList = true := hx
        clear hNr hjn hy
        go_wp2_with fail
        go_quiet (fail)
        go_wp2_with fail
        go_roundw
        case rel => exact ⟨j + 1, by omega, by go_num, W_hid ⟨hb1.out.os, hb1.out.tape, hb1.out.output, hb1.out.size, hb1.out.block⟩⟩
        case measure => simp [intOf]; omega
      · obtain rfl : j = P := by omega
        have hx := hpat.out hjn
        obtain ⟨y, hy⟩ : ∃ y, nl[j].1 = y := ⟨_, rfl⟩
        rw [hy] at s0 hx
        have hx : Op.bytesLess y.toList k.toList = false := hx
        clear hNr hjn hy
        go_wp2_with fail
        go_quiet (fail)
        go_wp2_with fail
        obtain ⟨W0, hW0⟩ : ∃ W0, wr.drewN nq = W0 := ⟨_, rfl⟩
        rw [hW0]
        have hbW : Below w.heap.size w W0 := by rw [← hW0]; exact ⟨hb.out.os, hb.out.tape, hb.out.output, hb.out.size, hb.out.block⟩
        have hbW1 : Below w1.heap.size w1 W0 := by rw [← hW0]; exact ⟨hb1.out.os, hb1.out.tape, hb1.out.output, hb1.out.size, hb1.out.block⟩
        have hbX := (Below.refl W0.heap.size W0).drew.alloc (Nat.le_refl _) XX
        have A1 : Hid ((W0.drew.alloc XX).ownsRow w1.heap.size 133 3 (.slice (some ⟨W0.heap.size, 0, none⟩) 0 (N + 1)) 0 []) := W_hid (HS.out.2.2.1 W0.drew w1.heap.size hbW1.size)
        have S1 := W_hid (HS.out.1.keep (hbW.trans (hbX.mono hbW.size)))
        have hone1 : Hid (∀ u ∈ (kcl nl).take (j * 3), u.oneCell' = true) := W_hid (fun u hu => HS.out.2.2.2 nl u (List.mem_of_mem_take hu))
        have hLow := W_hid hbW
        have hX2 := W_hid (hbW.trans (hbX.mono hbW.size))
        have hbX := W_hid hbX
        replace hbW1 := W_hid hbW1
        have hws0 := hbW.size
        have hws1 := hbW1.out.size
        have hB0 := W_hid (hbW1.out.trans (hbX.out.mono hws1))
        have hjN2 := hPN
        clear d0 hW0 hbW s0 hx
        go_wp2_with fail
        go_region_law (first
          | (refine Own.step_app rfl (.tmp 40) (.tmp 43) 56 rfl Tryz.underlying56 NT.info_name _ _ rfl rfl A1.out (by simp; omega) S1.out hone1.out (by unfold maxLen; omega) (by omega) ?_
             intro v2 w2 ho2 hg2 hob2))
        all_goals
          have B2 : Below w1.heap.size w1 w2 := hB0.out.grown (show (W0.drew.alloc XX).grownBy w2 _ from hg2) hB0.out.size (fun q hq => Own.ge A1.out q hq)
          have p2 := p0.out.keep B2
          have q0 := p2.cell (j := 0) rfl
          have q1 := p2.cell (j := 1) rfl
          have q2 := p2.cell (j := 2) rfl
          have own2 := W_hid (Own.below ho2 ((Below.refl w2.heap.size w2).alloc (Nat.le_refl _) (.cells #[.string k, .int .i64 a, .int .i64 b] 133)))
          have B2a := W_hid (B2.alloc B2.size (.cells #[.string k, .int .i64 a, .int .i64 b] 133))
          have hw2 := B2.size
          have hsk := W_hid (krow_src w2 (k, a, b))
          clear p2 B2 ho2 hg2 hob2 A1 S1
          go_wp2_with (first | (at_builtin; refine Own.wpList_app rfl (.tmp 45) (.tmp 47) 56 rfl Tryz.underlying56 NT.info_name _ (.slice (some ⟨w2.heap.size, 0, none⟩) 1 1) rfl rfl own2.out (by simp; omega) hsk.out (krow_one _) (by unfold maxLen; omega) (by omega) ?_; intro v3 w3 ho3 hg3 hob3))
          have B3 : Below w1.heap.size w1 w3 := B2a.out.grown hg3 B2a.out.size (fun q hq => Own.ge own2.out q hq)
          have C3 := b0.out.trans (B3.mono b0.out.size)
          have c31 : w3.cell? ⟨rt, 1, none⟩ = _ := (C3.cell HC.out.2.2.2).trans HC.out.1
          have own3 := W_hid (Own.below ho3 ((Below.refl w3.heap.size w3).drew))
          have S3 := W_hid (HS.out.2.1.keep C3.drew)
          have hone3 : Hid (∀ u ∈ (kcl nl).drop (j * 3), u.oneCell' = true) := W_hid (fun u hu => HS.out.2.2.2 nl u (List.mem_of_mem_drop hu))
          have hw3 := B3.size
          obtain ⟨a3, k3, hv3⟩ := Own.form own3.out
          subst hv3
          have c31d : w3.drew.cell? ⟨rt, 1, none⟩ = some (.slice (some ⟨g, 0, none⟩) LL cap) := c31
          have B3h := W_hid B3
          clear B3 C3 ho3 hg3 hob3 own2 B2a hsk q0 q1 q2
          go_wp2_with fail
          refine wp_region_held_drew (S := (fun w' => w'.cell? ⟨rt, 1, none⟩ = some (.slice (some ⟨g, 0, none⟩) LL cap))) (by kernel_rfl) c31d (fun hHeld => ?_)
          refine wpAnyH_take (i := 0) (v := .pointer (some ⟨rt, 0, none⟩)) rfl (by kernel_rfl) (by kernel_rfl) (by kernel_rfl) (fun _ _ _ h => h) (Or.inl ⟨by rfl, fun w0 s1 => ?_⟩) hHeld ?_
          · go_simp
          try simp only [Act.put, List.setIfInBounds_toArray, List.set_cons_zero, List.set_cons_succ, List.getElem_toArray, List.getElem_cons_zero, List.getElem_cons_succ]
          refine wpAnyH_take (i := 1) (v := .pointer (some ⟨rt, 0, none⟩)) rfl (by kernel_rfl) (by kernel_rfl) (by kernel_rfl) (fun _ _ _ h => h) (Or.inl ⟨by rfl, fun w0 s1 => ?_⟩) hHeld ?_
          · go_simp
          try simp only [Act.put, List.setIfInBounds_toArray, List.set_cons_zero, List.set_cons_succ, List.getElem_toArray, List.getElem_cons_zero, List.getElem_cons_succ]
          refine wpAnyH_take (i := 2) (v := .pointer (some ⟨rt, 1, none⟩)) rfl (by kernel_rfl) (by kernel_rfl) (by kernel_rfl) (fun _ _ _ h => h) (Or.inl ⟨by rfl, fun w0 s1 => ?_⟩) hHeld ?_
          · go_simp
          try simp only [Act.put, List.setIfInBounds_toArray, List.set_cons_zero, List.set_cons_succ, List.getElem_toArray, List.getElem_cons_zero, List.getElem_cons_succ]
          refine wpAnyH_take (i := 3) (v := .slice (some ⟨g, 0, none⟩) LL cap) rfl (by kernel_rfl) (by kernel_rfl) (by kernel_rfl) (fun _ _ _ h => h) (Or.inl ⟨by rfl, fun w0 s1 => ?_⟩) hHeld ?_
          · go_simp
          try simp only [Act.put, List.setIfInBounds_toArray, List.set_cons_zero, List.set_cons_succ, List.getElem_toArray, List.getElem_cons_zero, List.getElem_cons_succ]
          refine wpAnyH_take (i := 4) (v := .int .i64 (Kd : Int)) rfl (by kernel_rfl) (by kernel_rfl) (by kernel_rfl) (fun _ _ _ h => h) (Or.inl ⟨by rfl, fun w0 s1 => ?_⟩) hHeld ?_
          · go_simp
          try simp only [Act.put, List.setIfInBounds_toArray, List.set_cons_zero, List.set_cons_succ, List.getElem_toArray, List.getElem_cons_zero, List.getElem_cons_succ]
          refine wpAnyH_take (i := 5) (v := .slice a3 (0 + j + 1) k3) rfl (by kernel_rfl) (by kernel_rfl) (by kernel_rfl) (fun _ _ _ h => h) (Or.inl ⟨by rfl, fun w0 s1 => ?_⟩) hHeld ?_
          · go_simp
          try simp only [Act.put, List.setIfInBounds_toArray, List.set_cons_zero, List.set_cons_succ, List.getElem_toArray, List.getElem_cons_zero, List.getElem_cons_succ]
          refine wpAnyH_take (i := 6) (v := .slice (some ⟨g2, 0, none⟩) N cc) rfl (by kernel_rfl) (by kernel_rfl) (by kernel_rfl) (fun _ _ _ h => h) (Or.inl ⟨by rfl, fun w0 s1 => ?_⟩) hHeld ?_
          · go_simp
          try simp only [Act.put, List.setIfInBounds_toArray, List.set_cons_zero, List.set_cons_succ, List.getElem_toArray, List.getElem_cons_zero, List.getElem_cons_succ]
          refine wpAnyH_take (i := 7) (v := .int .i64 (j : Int)) rfl (by kernel_rfl) (by kernel_rfl) (by kernel_rfl) (fun _ _ _ h => h) (Or.inl ⟨by rfl, fun w0 s1 => ?_⟩) hHeld ?_
          · go_simp
          try simp only [Act.put, List.setIfInBounds_toArray, List.set_cons_zero, List.set_cons_succ, List.getElem_toArray, List.getElem_cons_zero, List.getElem_cons_succ]
          refine wpAnyH_take (i := 8) (v := ad) rfl (by kernel_rfl) (by kernel_rfl) (by kernel_rfl) (fun _ _ _ h => h) (Or.inl ⟨by rfl, fun w0 s1 => ?_⟩) hHeld ?_
          · (have hl := hlo w0; go_simp)
          try simp only [Act.put, List.setIfInBounds_toArray, List.set_cons_zero, List.set_cons_succ, List.getElem_toArray, List.getElem_cons_zero, List.getElem_cons_succ]
          refine wpAnyH_ready (rs := [9]) (by kernel_rfl) (by simp) ?_
          refine AllReadyH.cons rfl (fun K hK => ?_) AllReadyH.nil
          refine Own.step_app rfl (.tmp 54) (.tmp 57) 56 rfl Tryz.underlying56 NT.info_name _ _ rfl rfl own3.out (by simp; omega) S3.out hone3.out (by unfold maxLen; omega) (by omega) ?_
          intro v4 w4 ho4 hg4 hob4
          obtain ⟨a4, k4, rfl⟩ := Own.form ho4
          have B4 : Below w.heap.size w w4 := b0.out.trans ((B3h.out.drew.grown hg4 B3h.out.size (fun q hq => Own.ge own3.out q hq)).mono b0.out.size)
          have c41 : w4.cell? ⟨rt, 1, none⟩ = some (.slice (some ⟨g, 0, none⟩) LL cap) := (B4.cell HC.out.2.2.2).trans HC.out.1
          have c42 : w4.cell? ⟨g, Kd * 3 + 2, none⟩ = _ := (B4.cell HC.out.2.2.1).trans HC.out.2.1
          have f4 := HF.out w4 B4
          have O4 := W_hid ho4
          replace B4 := W_hid B4
          clear ho4 hg4 hob4
          refine hK.out _ _ c41 (fun hHeld1 => ?_)
          clear hK K
          try simp only [Act.put, List.setIfInBounds_toArray, List.set_cons_zero, List.set_cons_succ, List.getElem_toArray, List.getElem_cons_zero, List.getElem_cons_succ]
          refine wpAnyH_take (i := 10) (v := .pointer (some ⟨g, Kd * 3, none⟩)) rfl (by kernel_rfl) (by kernel_rfl) (by kernel_rfl) (fun _ _ _ h => h) (Or.inl ⟨by rfl, fun w0 s1 => ?_⟩) hHeld1 ?_
          · go_simp
          try simp only [Act.put, List.setIfInBounds_toArray, List.set_cons_zero, List.set_cons_succ, List.getElem_toArray, List.getElem_cons_zero, List.getElem_cons_succ]
          refine wpAnyH_take (i := 11) (v := .pointer (some ⟨g, Kd * 3 + 2, none⟩)) rfl (by kernel_rfl) (by kernel_rfl) (by kernel_rfl) (fun _ _ _ h => h) (Or.inl ⟨by rfl, fun w0 s1 => ?_⟩) hHeld1 ?_
          · go_simp
          try simp only [Act.put, List.setIfInBounds_toArray, List.set_cons_zero, List.set_cons_succ, List.getElem_toArray, List.getElem_cons_zero, List.getElem_cons_succ]
          refine wpAnyH_ready (rs := [12]) (by kernel_rfl) (by simp) ?_
          refine AllReadyH.cons rfl (fun K hK => ?_) AllReadyH.nil
          go_simp
          refine hK.out _ _ (by show _ = _; rw [World.cell?_of_block (Below.heap_setCell w4 ⟨g, Kd * 3 + 2, none⟩ _ rt hgr)]; exact c41) (fun hHeld2 => ?_)
          clear hK K
          try simp only [Act.put, List.setIfInBounds_toArray, List.set_cons_zero, List.set_cons_succ, List.getElem_toArray, List.getElem_cons_zero, List.getElem_cons_succ]
          refine wpAnyH_done (by kernel_rfl) ?_ _
          go_end0
          have ho4 := O4.out
          simp only [Nat.zero_add] at ho4
          have hLN : (nl.take j ++ [(k, a, b)] ++ nl.drop j).length = j + 1 + (N - j) := by
            have := hN.out
            rw [List.length_append, List.length_append, List.length_take, List.length_drop, List.length_singleton]; omega
          have hfin := hset.out w4 B4.out (.slice a4 _ k4) (nl.take j ++ [(k, a, b)] ++ nl.drop j) ⟨w1.heap.size, by
            rw [hLN]
            have e : kcl (nl.take j ++ [(k, a, b)] ++ nl.drop j) = [] ++ (kcl nl).take (j * 3) ++ kcl [(k, a, b)] ++ (kcl nl).drop (j * 3) := by
              rw [kcl_take, kcl_drop, kcl_app, kcl_app]; rfl
            rw [e]
            exact ho4⟩ (by rw [hLN]; omega) (fun y hy => by
            rcases List.mem_append.1 hy with hy | hy
            · rcases List.mem_append.1 hy with hy | hy
              · exact hnos.out y (List.mem_of_mem_take hy)
              · rw [List.mem_singleton.1 hy]; exact ha
            · exact hnos.out y (List.mem_of_mem_drop hy))
          exact ⟨rfl, hfin⟩
    · obtain rfl : j = P := by omega
      have hjN := W_hid (show j = N by omega)
      have hge : (N : Int) ≤ (j : Int) := by have := hjN.out; omega
      go_wp2_with fail
      go_quiet (fail)
      go_wp2_with fail
      obtain ⟨W0, hW0⟩ : ∃ W0, wr.drewN nq = W0 := ⟨_, rfl⟩
      rw [hW0]
      have hbW : Below w.heap.size w W0 := by rw [← hW0]; exact ⟨hb.out.os, hb.out.tape, hb.out.output, hb.out.size, hb.out.block⟩
      have hbW1 : Below w1.heap.size w1 W0 := by rw [← hW0]; exact ⟨hb1.out.os, hb1.out.tape, hb1.out.output, hb1.out.size, hb1.out.block⟩
      have hbX := ((Below.refl W0.heap.size W0).alloc (Nat.le_refl _) XX).drew
      have A1 : Hid ((W0.alloc XX).drew.ownsRow w1.heap.size 133 3 (.slice (some ⟨W0.heap.size, 0, none⟩) 0 (N + 1)) 0 []) := W_hid (HS.out.2.2.1 W0 w1.heap.size hbW1.size)
      have S1 := W_hid (HS.out.1.keep (hbW.trans (hbX.mono hbW.size)))
      have hone1 : Hid (∀ u ∈ (kcl nl).take (j * 3), u.oneCell' = true) := W_hid (fun u hu => HS.out.2.2.2 nl u (List.mem_of_mem_take hu))
      have hLow := W_hid hbW
      have hX2 := W_hid (hbW.trans (hbX.mono hbW.size))
      have hbX := W_hid hbX
      replace hbW1 := W_hid hbW1
      have hws0 := hbW.size
      have hws1 := hbW1.out.size
      have hB0 := W_hid (hbW1.out.trans (hbX.out.mono hws1))
      have hjN2 := hPN
      clear d0 hW0 hbW
      go_wp2_with fail
      go_region_law (first
        | (refine Own.step_app rfl (.tmp 40) (.tmp 43) 56 rfl Tryz.underlying56 NT.info_name _ _ rfl rfl A1.out (by simp; omega) S1.out hone1.out (by unfold maxLen; omega) (by omega) ?_
           intro v2 w2 ho2 hg2 hob2))
      all_goals
        have B2 : Below w1.heap.size w1 w2 := hB0.out.grown (show (W0.alloc XX).drew.grownBy w2 _ from hg2) hB0.out.size (fun q hq => Own.ge A1.out q hq)
        have p2 := p0.out.keep B2
        have q0 := p2.cell (j := 0) rfl
        have q1 := p2.cell (j := 1) rfl
        have q2 := p2.cell (j := 2) rfl
        have own2 := W_hid (Own.below ho2 ((Below.refl w2.heap.size w2).alloc (Nat.le_refl _) (.cells #[.string k, .int .i64 a, .int .i64 b] 133)))
        have B2a := W_hid (B2.alloc B2.size (.cells #[.string k, .int .i64 a, .int .i64 b] 133))
        have hw2 := B2.size
        have hsk := W_hid (krow_src w2 (k, a, b))
        clear p2 B2 ho2 hg2 hob2 A1 S1
        go_wp2_with (first | (at_builtin; refine Own.wpList_app rfl (.tmp 45) (.tmp 47) 56 rfl Tryz.underlying56 NT.info_name _ (.slice (some ⟨w2.heap.size, 0, none⟩) 1 1) rfl rfl own2.out (by simp; omega) hsk.out (krow_one _) (by unfold maxLen; omega) (by omega) ?_; intro v3 w3 ho3 hg3 hob3))
        have B3 : Below w1.heap.size w1 w3 := B2a.out.grown hg3 B2a.out.size (fun q hq => Own.ge own2.out q hq)
        have C3 := b0.out.trans (B3.mono b0.out.size)
        have c31 : w3.cell? ⟨rt, 1, none⟩ = _ := (C3.cell HC.out.2.2.2).trans HC.out.1
        have own3 := W_hid (Own.below ho3 ((Below.refl w3.heap.size w3).drew))
        have S3 := W_hid (HS.out.2.1.keep C3.drew)
        have hone3 : Hid (∀ u ∈ (kcl nl).drop (j * 3), u.oneCell' = true) := W_hid (fun u hu => HS.out.2.2.2 nl u (List.mem_of_mem_drop hu))
        have hw3 := B3.size
        obtain ⟨a3, k3, hv3⟩ := Own.form own3.out
        subst hv3
        have c31d : w3.drew.cell? ⟨rt, 1, none⟩ = some (.slice (some ⟨g, 0, none⟩) LL cap) := c31
        have B3h := W_hid B3
        clear B3 C3 ho3 hg3 hob3 own2 B2a hsk q0 q1 q2
        go_wp2_with fail
        refine wp_region_held_drew (S := (fun w' => w'.cell? ⟨rt, 1, none⟩ = some (.slice (some ⟨g, 0, none⟩) LL cap))) (by kernel_rfl) c31d (fun hHeld => ?_)
        refine wpAnyH_take (i := 0) (v := .pointer (some ⟨rt, 0, none⟩)) rfl (by kernel_rfl) (by kernel_rfl) (by kernel_rfl) (fun _ _ _ h => h) (Or.inl ⟨by rfl, fun w0 s1 => ?_⟩) hHeld ?_
        · go_simp
        try simp only [Act.put, List.setIfInBounds_toArray, List.set_cons_zero, List.set_cons_succ, List.getElem_toArray, List.getElem_cons_zero, List.getElem_cons_succ]
        refine wpAnyH_take (i := 1) (v := .pointer (some ⟨rt, 0, none⟩)) rfl (by kernel_rfl) (by kernel_rfl) (by kernel_rfl) (fun _ _ _ h => h) (Or.inl ⟨by rfl, fun w0 s1 => ?_⟩) hHeld ?_
        · go_simp
        try simp only [Act.put, List.setIfInBounds_toArray, List.set_cons_zero, List.set_cons_succ, List.getElem_toArray, List.getElem_cons_zero, List.getElem_cons_succ]
        refine wpAnyH_take (i := 2) (v := .pointer (some ⟨rt, 1, none⟩)) rfl (by kernel_rfl) (by kernel_rfl) (by kernel_rfl) (fun _ _ _ h => h) (Or.inl ⟨by rfl, fun w0 s1 => ?_⟩) hHeld ?_
        · go_simp
        try simp only [Act.put, List.setIfInBounds_toArray, List.set_cons_zero, List.set_cons_succ, List.getElem_toArray, List.getElem_cons_zero, List.getElem_cons_succ]
        refine wpAnyH_take (i := 3) (v := .slice (some ⟨g, 0, none⟩) LL cap) rfl (by kernel_rfl) (by kernel_rfl) (by kernel_rfl) (fun _ _ _ h => h) (Or.inl ⟨by rfl, fun w0 s1 => ?_⟩) hHeld ?_
        · go_simp
        try simp only [Act.put, List.setIfInBounds_toArray, List.set_cons_zero, List.set_cons_succ, List.getElem_toArray, List.getElem_cons_zero, List.getElem_cons_succ]
        refine wpAnyH_take (i := 4) (v := .int .i64 (Kd : Int)) rfl (by kernel_rfl) (by kernel_rfl) (by kernel_rfl) (fun _ _ _ h => h) (Or.inl ⟨by rfl, fun w0 s1 => ?_⟩) hHeld ?_
        · go_simp
        try simp only [Act.put, List.setIfInBounds_toArray, List.set_cons_zero, List.set_cons_succ, List.getElem_toArray, List.getElem_cons_zero, List.getElem_cons_succ]
        refine wpAnyH_take (i := 5) (v := .slice a3 (0 + j + 1) k3) rfl (by kernel_rfl) (by kernel_rfl) (by kernel_rfl) (fun _ _ _ h => h) (Or.inl ⟨by rfl, fun w0 s1 => ?_⟩) hHeld ?_
        · go_simp
        try simp only [Act.put, List.setIfInBounds_toArray, List.set_cons_zero, List.set_cons_succ, List.getElem_toArray, List.getElem_cons_zero, List.getElem_cons_succ]
        refine wpAnyH_take (i := 6) (v := .slice ao N cc) rfl (by kernel_rfl) (by kernel_rfl) (by kernel_rfl) (fun _ _ _ h => h) (Or.inl ⟨by rfl, fun w0 s1 => ?_⟩) hHeld ?_
        · go_simp
        try simp only [Act.put, List.setIfInBounds_toArray, List.set_cons_zero, List.set_cons_succ, List.getElem_toArray, List.getElem_cons_zero, List.getElem_cons_succ]
        refine wpAnyH_take (i := 7) (v := .int .i64 (j : Int)) rfl (by kernel_rfl) (by kernel_rfl) (by kernel_rfl) (fun _ _ _ h => h) (Or.inl ⟨by rfl, fun w0 s1 => ?_⟩) hHeld ?_
        · go_simp
        try simp only [Act.put, List.setIfInBounds_toArray, List.set_cons_zero, List.set_cons_succ, List.getElem_toArray, List.getElem_cons_zero, List.getElem_cons_succ]
        refine wpAnyH_take (i := 8) (v := ad) rfl (by kernel_rfl) (by kernel_rfl) (by kernel_rfl) (fun _ _ _ h => h) (Or.inl ⟨by rfl, fun w0 s1 => ?_⟩) hHeld ?_
        · (have hl := hlo w0; go_simp)
        try simp only [Act.put, List.setIfInBounds_toArray, List.set_cons_zero, List.set_cons_succ, List.getElem_toArray, List.getElem_cons_zero, List.getElem_cons_succ]
        refine wpAnyH_ready (rs := [9]) (by kernel_rfl) (by simp) ?_
        refine AllReadyH.cons rfl (fun K hK => ?_) AllReadyH.nil
        refine Own.step_app rfl (.tmp 54) (.tmp 57) 56 rfl Tryz.underlying56 NT.info_name _ _ rfl rfl own3.out (by simp; omega) S3.out hone3.out (by unfold maxLen; omega) (by omega) ?_
        intro v4 w4 ho4 hg4 hob4
        obtain ⟨a4, k4, rfl⟩ := Own.form ho4
        have B4 : Below w.heap.size w w4 := b0.out.trans ((B3h.out.drew.grown hg4 B3h.out.size (fun q hq => Own.ge own3.out q hq)).mono b0.out.size)
        have c41 : w4.cell? ⟨rt, 1, none⟩ = some (.slice (some ⟨g, 0, none⟩) LL cap) := (B4.cell HC.out.2.2.2).trans HC.out.1
        have c42 : w4.cell? ⟨g, Kd * 3 + 2, none⟩ = _ := (B4.cell HC.out.2.2.1).trans HC.out.2.1
        have f4 := HF.out w4 B4
        have O4 := W_hid ho4
        replace B4 := W_hid B4
        clear ho4 hg4 hob4
        refine hK.out _ _ c41 (fun hHeld1 => ?_)
        clear hK K
        try simp only [Act.put, List.setIfInBounds_toArray, List.set_cons_zero, List.set_cons_succ, List.getElem_toArray, List.getElem_cons_zero, List.getElem_cons_succ]
        refine wpAnyH_take (i := 10) (v := .pointer (some ⟨g, Kd * 3, none⟩)) rfl (by kernel_rfl) (by kernel_rfl) (by kernel_rfl) (fun _ _ _ h => h) (Or.inl ⟨by rfl, fun w0 s1 => ?_⟩) hHeld1 ?_
        · go_simp
        try simp only [Act.put, List.setIfInBounds_toArray, List.set_cons_zero, List.set_cons_succ, List.getElem_toArray, List.getElem_cons_zero, List.getElem_cons_succ]
        refine wpAnyH_take (i := 11) (v := .pointer (some ⟨g, Kd * 3 + 2, none⟩)) rfl (by kernel_rfl) (by kernel_rfl) (by kernel_rfl) (fun _ _ _ h => h) (Or.inl ⟨by rfl, fun w0 s1 => ?_⟩) hHeld1 ?_
        · go_simp
        try simp only [Act.put, List.setIfInBounds_toArray, List.set_cons_zero, List.set_cons_succ, List.getElem_toArray, List.getElem_cons_zero, List.getElem_cons_succ]
        refine wpAnyH_ready (rs := [12]) (by kernel_rfl) (by simp) ?_
        refine AllReadyH.cons rfl (fun K hK => ?_) AllReadyH.nil
        go_simp
        refine hK.out _ _ (by show _ = _; rw [World.cell?_of_block (Below.heap_setCell w4 ⟨g, Kd * 3 + 2, none⟩ _ rt hgr)]; exact c41) (fun hHeld2 => ?_)
        clear hK K
        try simp only [Act.put, List.setIfInBounds_toArray, List.set_cons_zero, List.set_cons_succ, List.getElem_toArray, List.getElem_cons_zero, List.getElem_cons_succ]
        refine wpAnyH_done (by kernel_rfl) ?_ _
        go_end0
        have ho4 := O4.out
        simp only [Nat.zero_add] at ho4
        have hLN : (nl.take j ++ [(k, a, b)] ++ nl.drop j).length = j + 1 + (N - j) := by
          have := hN.out
          rw [List.length_append, List.length_append, List.length_take, List.length_drop, List.length_singleton]; omega
        have hfin := hset.out w4 B4.out (.slice a4 _ k4) (nl.take j ++ [(k, a, b)] ++ nl.drop j) ⟨w1.heap.size, by
          rw [hLN]
          have e : kcl (nl.take j ++ [(k, a, b)] ++ nl.drop j) = [] ++ (kcl nl).take (j * 3) ++ kcl [(k, a, b)] ++ (kcl nl).drop (j * 3) := by
            rw [kcl_take, kcl_drop, kcl_app, kcl_app]; rfl
          rw [e]
          exact ho4⟩ (by rw [hLN]; omega) (fun y hy => by
          rcases List.mem_append.1 hy with hy | hy
          · rcases List.mem_append.1 hy with hy | hy
            · exact hnos.out y (List.mem_of_mem_take hy)
            · rw [List.mem_singleton.1 hy]; exact ha
          · exact hnos.out y (List.mem_of_mem_drop hy))
        exact ⟨rfl, hfin⟩
end
end RN
namespace RN
open IN (Keeps)
open NT (Dr Ds er nu findR)
def kap (D : Ds) (j : Int) : Int := if D j = none then 1 else 2
def RA (base rt rg c : Nat) (D : Ds) (κ : Int → Int) (w : World) : Prop := ∃ l, DT base w rt rg l ∧ RK l D κ ∧ l.length ≤ c + 1 ∧ ∀ x ∈ l, x.l.length ≤ c
structure RW (base rt rg I B L c : Nat) (S : Int → Option IN.Nd) (D : Ds) (κ : Int → Int) (w : World) : Prop where
  ex : RA base rt rg c D κ w
  rs : IN.RS base w rg (I : Int) (B : Int) (L : Int) (IN.lst S I)
section
variable {base rt rg I B L c k : Nat} {S : Int → Option IN.Nd} {D : Ds} {κ : Int → Int} {w w' : World}
theorem RA.keep (h : RA base rt rg c D κ w) (hb : Below w.heap.size w w') : RA base rt rg c D κ w' := by
  obtain ⟨l, h1, h2⟩ := h
  exact ⟨l, h1.keep hb, h2⟩
theorem RA.keeps (h : RA base rt rg c D κ w) {C : Nat} {T : Nat → Obj → Prop} (hK : Keeps C T w w') (h1 : ∀ k c s, ¬ T k (.cells c 118 s)) (h2 : ∀ k c s, ¬ T k (.cells c 115 s)) (h3 : ∀ k c, ¬ T k (.cells c 133 (0, 0))) : RA base rt rg c D κ w' := by
  obtain ⟨l, h4, h5⟩ := h
  exact ⟨l, h4.keeps hK h1 h2 h3, h5⟩
theorem RA.low (h : RA base rt rg c D κ w) : base ≤ w.heap.size := by
  obtain ⟨l, h1, -⟩ := h
  exact h1.low
theorem RA.more (h : RA base rt rg c D κ w) {c' : Nat} (hc : c ≤ c') : RA base rt rg c' D κ w := by
  obtain ⟨l, h1, h2, h3, h4⟩ := h
  exact ⟨l, h1, h2, by omega, fun x hx => Nat.le_trans (h4 x hx) hc⟩
theorem RW.keep (h : RW base rt rg I B L c S D κ w) (hb : Below w.heap.size w w') : RW base rt rg I B L c S D κ w' := ⟨h.ex.keep hb, h.rs.keep hb⟩
theorem RW.more (h : RW base rt rg I B L c S D κ w) {c' : Nat} (hc : c ≤ c') : RW base rt rg I B L c' S D κ w := ⟨h.ex.more hc, h.rs⟩
theorem RW.low (h : RW base rt rg I B L c S D κ w) : base ≤ w.heap.size := h.ex.low
theorem RW.ptr (h : RW base rt rg I B L c S D κ w) : w.cell? ⟨rt, 0, none⟩ = some (.pointer (some ⟨rg, 0, none⟩)) ∧ rt < w.heap.size := by
  obtain ⟨l, h1, -⟩ := h.ex
  exact ⟨h1.ptr, World.block_lt_of_cell? w _ h1.ptr⟩
theorem RW.kinds (h : RW base rt rg I B L c S D κ w) {κ' : Int → Int} (he : ∀ n d k j, D n = some d → (k, j) ∈ d.l → κ j = κ' j) : RW base rt rg I B L c S D κ' w := by
  obtain ⟨l, h1, h2, h3⟩ := h.ex
  exact ⟨⟨l, h1, h2.kap he, h3⟩, h.rs⟩
theorem find_d (s : ByteArray) (hs : s.size ≤ maxLen) (w : World) (h : RA base rt rg c D κ w) :
    Calls Tryz.prog 66 #[.pointer (some ⟨rt, 0, none⟩), .string s] w fun e w' => e = .returned (.tuple #[.int .i64 (nu (findR D s)), .int .i64 (er (findR D s))]) ∧ Below w.heap.size w w' := by
  obtain ⟨l, h1, h2, -⟩ := h
  have := rFind_any s hs w h1
  rw [h2.eq] at this
  exact this
theorem dir_no {n : Int} (w : World) (h : RA base rt rg c D κ w) (hD : D n = none) :
    Calls Tryz.prog 128 #[.pointer (some ⟨rt, 0, none⟩), .int .i64 n] w fun e w' => e = .returned (.int .i64 (-1)) ∧ w = w' := by
  obtain ⟨l, h1, h2, -⟩ := h
  have := dir_t n h1
  rw [dir_none (by rw [h2.eq]; exact hD)] at this
  exact this
theorem dir_yes {n : Int} {d : Dr} (w : World) (h : RA base rt rg c D κ w) (hD : D n = some d) : ∃ K : Nat, ∀ W, Below w.heap.size w W →
    Calls Tryz.prog 128 #[.pointer (some ⟨rt, 0, none⟩), .int .i64 n] W fun e w' => e = .returned (.int .i64 (K : Int)) ∧ W = w' := by
  obtain ⟨l, h1, h2, -⟩ := h
  refine ⟨ix l n, fun W hb => ?_⟩
  have := dir_t n (h1.keep hb)
  obtain ⟨-, h3, -⟩ := dir_some (show toD l n = some d by rw [h2.eq]; exact hD)
  rw [h3] at this
  exact this
theorem has_d (n : Int) (k : ByteArray) {d : Dr} (w : World) (h : RA base rt rg c D κ w) (hD : D n = some d) :
    Calls Tryz.prog 132 #[.pointer (some ⟨rt, 0, none⟩), .int .i64 n, .string k] w fun e w' => e = .returned (.int .i64 ((NT.look k d.l).getD 0)) ∧ Below w.heap.size w w' := by
  obtain ⟨l, h1, h2, -⟩ := h
  exact has_t n k h1 (by rw [h2.eq]; exact hD)
theorem look_ne (h : RA base rt rg c D κ w) {n j : Int} {d : Dr} {k : ByteArray} (hD : D n = some d) (hj : NT.look k d.l = some j) : j ≠ 0 := by
  obtain ⟨l, h1, h2, -⟩ := h
  exact h1.few.look (by rw [h2.eq]; exact hD) hj
theorem place_d (a d : Bool) (ns : List ByteArray) (ao : Option Addr) (N cap : Nat) (w : World) (h : RA base rt rg c D κ w) (hl : SS w ao N cap ns) (h0 : 0 < N) (hN : N ≤ 100000) :
    Calls Tryz.prog 130 #[.pointer (some ⟨rt, 0, none⟩), .agg #[.bool a, .slice ao N cap, .bool d]] w fun e w' => e = .returned (.tuple #[.int .i64 (plA D ns).1.1, .string (plA D ns).1.2, .int .i64 (plA D ns).2]) ∧ Below w.heap.size w w' := by
  obtain ⟨l, h1, h2, -⟩ := h
  have := rplace_any a d ns ao N cap w h1 hl h0 hN
  rw [h2.eq] at this
  exact this
theorem free_d (a d : Bool) (kind : Int) (ns : List ByteArray) (ao : Option Addr) (N cap : Nat) (w : World) (h : RA base rt rg c D κ w) (hl : SS w ao N cap ns) (hN : N ≤ 100000) (hcomp : ∀ k ∈ ns, PM.comp k = true) :
    Calls Tryz.prog 126 #[.pointer (some ⟨rt, 0, none⟩), .agg #[.bool a, .slice ao N cap, .bool d], .int .i64 kind] w fun e w' => e = .returned (.tuple #[.int .i64 (frA D ns kind d).1.1, .string (frA D ns kind d).1.2, .int .i64 (frA D ns kind d).2]) ∧ Below w.heap.size w w' := by
  obtain ⟨l, h1, h2, -⟩ := h
  have := rfree_any a d kind ns ao N cap w h1 hl hN hcomp
  rw [h2.eq] at this
  exact this
theorem over_d (n m : Int) (w : World) (h : RA base rt rg c D κ w) :
    Calls Tryz.prog 135 #[.pointer (some ⟨rt, 0, none⟩), .int .i64 n, .int .i64 m] w fun e w' => e = .returned (.int .i64 (ovA D n m)) ∧ Below w.heap.size w w' := by
  obtain ⟨l, h1, h2, -⟩ := h
  have := rover_any n m w h1
  rw [h2.eq] at this
  exact this
theorem within_d (d top : Int) (hgt : Nat) (w : World) (h : RA base rt rg c D κ w) (hr : NT.Reach D hgt d) (h1 : ∃ dr, D 1 = some dr ∧ dr.up = 1) :
    Calls Tryz.prog 136 #[.pointer (some ⟨rt, 0, none⟩), .int .i64 d, .int .i64 top] w fun e w' => e = .returned (.bool (decide (top ∈ NT.anc D hgt d))) ∧ Below w.heap.size w w' := by
  obtain ⟨l, h2, h3, -⟩ := h
  have hl := reach_len h3 (by obtain ⟨dr, h4, -⟩ := h1; rw [h4]; simp) hr
  have he := h3.eq
  subst he
  exact rwithin_any d top hgt w h2 hr (Nat.le_of_lt hl) h1
theorem put_d (n : Int) (k : ByteArray) (a kd : Int) {d : Dr} (w : World) (h : RW base rt rg I B L c S D κ w) (hc : c < 70000) (hD : D n = some d) (hl : NT.look k d.l = none) (ha : a ≠ 0) (hk : kd = κ a) :
    Calls Tryz.prog 127 #[.pointer (some ⟨rt, 0, none⟩), .int .i64 n, .agg #[.string k, .int .i64 a, .int .i64 kd]] w fun e w' => e = .returned (.tuple #[]) ∧ RW base rt rg I B L (c + 1) S (NT.putD D n k a) κ w' ∧ Keeps base UT w w' := by
  obtain ⟨l, h1, h2, h3, h4⟩ := h.ex
  obtain ⟨hn, h5, h6, h7⟩ := h2.at_ hD
  have hx := h4 _ (List.getElem_mem hn)
  refine (rput_any n k a kd w h1 hn (by omega) ha).mono ?_
  rintro e w' ⟨rfl, hT, hK⟩
  refine ⟨rfl, ⟨⟨_, hT, h2.put hD hn hl hk, by rw [List.length_set]; omega, fun x hx2 => ?_⟩, RS.tree h.rs hK⟩, keeps_rt hK⟩
  rcases List.mem_or_eq_of_mem_set hx2 with hx2 | rfl
  · have := h4 x hx2; omega
  · show (putL _ _).length ≤ _
    rw [put_len]; omega
theorem drop_d (n : Int) (k : ByteArray) {d : Dr} (w : World) (h : RW base rt rg I B L c S D κ w) (hD : D n = some d) :
    Calls Tryz.prog 133 #[.pointer (some ⟨rt, 0, none⟩), .int .i64 n, .string k] w fun e w' => e = .returned (.tuple #[]) ∧ RW base rt rg I B L c S (NT.cutD D n k) κ w' ∧ Keeps base UT w w' := by
  obtain ⟨l, h1, h2, h3, h4⟩ := h.ex
  obtain ⟨hn, h5, h6, h7⟩ := h2.at_ hD
  have hx := h4 _ (List.getElem_mem hn)
  refine (rdrop_any n k w h1 hn).mono ?_
  rintro e w' ⟨rfl, hT, hK⟩
  refine ⟨rfl, ⟨⟨_, hT, h2.cut hD hn k, by rw [List.length_set]; omega, fun x hx2 => ?_⟩, RS.tree h.rs hK⟩, keeps_rt hK⟩
  rcases List.mem_or_eq_of_mem_set hx2 with hx2 | rfl
  · exact h4 x hx2
  · exact Nat.le_trans (List.length_filter_le _ _) hx
theorem away_d (n : Int) (w : World) (h : RW base rt rg I B L c S D κ w) (hf : IN.Fine I L B k S) (hI : I ≤ 4096) (hL : L ≤ 32768) (hk : k < 1000000) :
    Calls Tryz.prog 134 #[.pointer (some ⟨rt, 0, none⟩), .int .i64 n] w fun e w' => e = .returned (.tuple #[]) ∧ RW base rt rg I B L c (IN.ulS S n) (NT.upd D n none) κ w' ∧ Keeps base UT w w' := by
  obtain ⟨l, h1, h2, h3, h4⟩ := h.ex
  refine (raway_any n w h1 hf hI hL hk h.rs).mono ?_
  rintro e w' ⟨rfl, hT, hr, hK⟩
  refine ⟨rfl, ⟨⟨_, hT, h2.gone n, ?_, fun x hx => h4 x (List.mem_of_mem_eraseIdx hx)⟩, hr⟩, hK⟩
  have := (List.eraseIdx_sublist l (ix l n)).length_le
  omega
theorem RW.out {S' : Int → Option IN.Nd} {r : Int} {e : Ending} (h : RW base rt rg I B L c S D κ w) (ho : IN.ROut base rg I B L w r (IN.lst S' I) e w') : e = .returned (.int .i64 r) ∧ RW base rt rg I B L c S' D κ w' ∧ Keeps base UT w w' := by
  obtain ⟨h1, h2, h3⟩ := ho
  exact ⟨h1, ⟨h.ex.keeps h3 (by simp [IN.DT]) (by simp [IN.DT]) (by simp [IN.DT]), h2⟩, keeps_dt h3⟩
theorem make_d (kd : Int) (n : Nat) (w : World) (h : RW base rt rg I B L c S D κ w) (hI : I ≤ 4096) (hr : IN.mkR I S kd = 0) (hlow : IN.Low S n) (hnI : n ≤ I) :
    Calls Tryz.prog 60 #[.pointer (some ⟨rg, 0, none⟩), .int .i64 kd] w fun e w' => e = .returned (.tuple #[.int .i64 (n : Int), .int .i64 0]) ∧ RW base rt rg I B L c (IN.upd S (n : Int) (some (IN.newNd kd))) D κ w' ∧ Keeps base UT w w' := by
  refine (IN.rMake_yes kd n w hI h.rs hr hlow hnI).mono ?_
  rintro e w' ⟨rfl, h2, h3⟩
  exact ⟨rfl, ⟨h.ex.keeps h3 (by simp [IN.DT]) (by simp [IN.DT]) (by simp [IN.DT]), h2⟩, keeps_dt h3⟩
theorem DM.app {v : Value} {q : List QE} (h : DM base w rt rg v q) (h0 : 0 < q.length) {w1 w3 : World} (hb : Below w.heap.size w w1) {v3 : Value} {x : QE} (hg : w1.grownBy w3 v.ownBlock) (ho : w3.ownsRow base 115 3 v3 (q.length + 1) (qcl q ++ qrow x)) :
    DM base (w3.setCell ⟨rt, 1, none⟩ v3) rt rg v3 (q ++ [x]) ∧ Keeps base RT w (w3.setCell ⟨rt, 1, none⟩ v3) := by
  obtain ⟨g, cap, rfl, hbg, hgl, hgr, -⟩ := h.el h0
  have h1 := h.keep hb
  have hrl := h1.box.lt
  have hbox : Blk w3 rt 118 [.pointer (some ⟨rg, 0, none⟩), .slice (some ⟨g, 0, none⟩) q.length cap] := (hg.block rt hrl (by simp [Value.ownBlock]; exact fun e => hgr e.symm)).trans h1.box
  have hK1 : Keeps base RT w1 w3 := by
    obtain ⟨cur, hc⟩ : ∃ cur, w1.heap[g]? = some (.cells cur 115 (0, 0)) := by
      rcases h1.row.2 with ⟨e, _⟩ | ⟨g', cap', cur, e, _, hg', _⟩
      · simp at e
      · simp only [Value.slice.injEq, Option.some.injEq, Addr.mk.injEq, and_true] at e
        exact ⟨cur, by rw [e.1]; exact hg'⟩
    exact (Keeps.refl base RT w1).grown hc (.inr ⟨_, _, rfl⟩) hbg (by simpa [Value.ownBlock] using hg)
  refine ⟨⟨hbox.set 1 v3, ?_, h.ge⟩, ((Keeps.new hb h.low).trans hK1).trans ((Keeps.refl base RT w3).setCell (p := ⟨rt, 1, none⟩) hbox (.inl ⟨_, _, rfl⟩) h.ge v3)⟩
  rw [List.length_append, List.length_singleton, qcl_app, qcl_one]
  rcases ho.2 with h0 | ⟨g', cap', cur', e1, e2, e3, e4⟩
  · exact ⟨ho.1, .inl h0⟩
  · refine ⟨ho.1, .inr ⟨g', cap', cur', e1, e2, ?_, e4⟩⟩
    refine (Below.heap_setCell w3 ⟨rt, 1, none⟩ v3 g' (fun e => ?_)).trans e3
    simp only at e
    subst e
    unfold Blk at hbox
    rw [hbox] at e3
    simp only [Option.some.injEq, Obj.cells.injEq] at e3
    exact absurd e3.2.1 (by decide)
theorem RW.room {n p : Int} (h : RW base rt rg I B L c S D κ w) (hc : c < 70000) (hD : D n = none) (h1 : D 1 ≠ none) : ∃ g N cap xs, w.cell? ⟨rt, 1, none⟩ = some (.slice (some ⟨g, 0, none⟩) N cap) ∧ N ≤ cap ∧ N ≤ 80000 ∧ base ≤ g ∧ w.ownsRow base 115 3 (.slice (some ⟨g, 0, none⟩) N cap) N xs ∧
    (∀ w1 w3, Below w.heap.size w w1 → w1.grownBy w3 (some g) → Blk w3 rt 118 [.pointer (some ⟨rg, 0, none⟩), .slice (some ⟨g, 0, none⟩) N cap]) ∧
    ∀ w1 w3 v3, Below w.heap.size w w1 → w1.grownBy w3 (some g) → w3.ownsRow base 115 3 v3 (N + 1) (xs ++ [.int .i64 n, .int .i64 p, .slice none 0 0]) →
      RW base rt rg I B L (c + 1) S (NT.upd D n (some ⟨p, []⟩)) κ (w3.setCell ⟨rt, 1, none⟩ v3) ∧ Keeps base UT w (w3.setCell ⟨rt, 1, none⟩ v3) := by
  obtain ⟨l, h2, h3, h4, h5⟩ := h.ex
  have hl0 : 0 < l.length := by
    obtain ⟨d1, e1⟩ := Option.ne_none_iff_exists'.1 h1
    obtain ⟨hn, -⟩ := h3.at_ e1
    omega
  have hfew := h2.few
  obtain ⟨v, q, hM, hF⟩ := h2.ex
  have hlen := hF.len
  obtain ⟨g, cap, rfl, hbg, hgl, hgr, hcap, -⟩ := hM.el (i := 0) (by omega)
  refine ⟨g, q.length, cap, qcl q, hM.box.cell (j := 1) rfl, hcap, by omega, hbg, hM.row, fun w1 w3 hb hg => (hg.block rt (hM.box.keep hb).lt (by simp; exact fun e => hgr e.symm)).trans (hM.box.keep hb), fun w1 w3 v3 hb hg ho => ?_⟩
  obtain ⟨m1, m2⟩ := hM.app (by omega) hb (x := ⟨n, p, .slice none 0 0⟩) (by simpa [Value.ownBlock] using hg) ho
  refine ⟨⟨⟨l ++ [⟨n, p, []⟩], ⟨⟨_, _, m1, ?_⟩, ⟨?_, fun x hx => ?_, fun x hx => ?_⟩⟩, h3.new hD p, ?_, fun x hx => ?_⟩, RS.tree h.rs m2⟩, keeps_rt m2⟩
  · exact (hF.keeps m2 (by simp [RT])).app ⟨⟨rfl, rfl, NE.nil _⟩, trivial⟩
  · rw [List.length_append, List.length_singleton]; omega
  · rcases List.mem_append.1 hx with hx | hx
    · exact hfew.names x hx
    · rw [List.mem_singleton.1 hx]; exact Nat.zero_le _
  · rcases List.mem_append.1 hx with hx | hx
    · exact hfew.nos x hx
    · rw [List.mem_singleton.1 hx]; intro y hy; cases hy
  · rw [List.length_append, List.length_singleton]; omega
  · rcases List.mem_append.1 hx with hx | hx
    · have := h5 x hx; omega
    · rw [List.mem_singleton.1 hx]; exact Nat.zero_le _
theorem RW.parent {n : Int} {d : Dr} (h : RW base rt rg I B L c S D κ w) (hD : D n = some d) : ∃ (K g N cap : Nat), (∀ W, Below w.heap.size w W → Calls Tryz.prog 128 #[.pointer (some ⟨rt, 0, none⟩), .int .i64 n] W fun e w' => e = .returned (.int .i64 (K : Int)) ∧ W = w') ∧ K < N ∧ N ≤ cap ∧
    ∀ W, Below w.heap.size w W → W.cell? ⟨rt, 1, none⟩ = some (.slice (some ⟨g, 0, none⟩) N cap) ∧ (∀ j, W.frozen? ⟨g, j, none⟩ = false) ∧ (∃ u, W.cell? ⟨g, K * 3 + 1, none⟩ = some (.int .i64 u)) ∧ (∃ ao cc, W.cell? ⟨g, K * 3 + 2, none⟩ = some (.slice ao d.l.length cc)) ∧
      ∀ f : Int, RW base rt rg I B L c S (NT.upD D n f) κ (W.setCell ⟨g, K * 3 + 1, none⟩ (.int .i64 f)) ∧ Keeps base UT W (W.setCell ⟨g, K * 3 + 1, none⟩ (.int .i64 f)) := by
  obtain ⟨l, h2, h3, h4, h5⟩ := h.ex
  obtain ⟨hn, h6, h7, h8⟩ := h3.at_ hD
  have hfew := h2.few
  obtain ⟨v, q, hM, hF⟩ := h2.ex
  have hlen := hF.len
  have hnq : ix l n < q.length := by omega
  obtain ⟨g, cap, rfl, hbg, hgl, hgr, hcap, -⟩ := hM.el hnq
  refine ⟨ix l n, g, q.length, cap, fun W hb => ?_, hnq, hcap, fun W hb => ?_⟩
  · have := dir_t n (h2.keep hb)
    obtain ⟨-, h9, -⟩ := dir_some (show toD l n = some d by rw [h3.eq]; exact hD)
    rw [h9] at this
    exact this
  · have hM' := hM.keep hb
    have hF' := hF.keep hb
    obtain ⟨g', cap', e, -, -, -, -, -, hfz, -, e1, e2⟩ := hM'.el hnq
    simp only [Value.slice.injEq, Option.some.injEq, Addr.mk.injEq, and_true, true_and] at e
    obtain ⟨rfl, rfl⟩ := e
    have hQ := hF'.at_ _ hnq hn
    obtain ⟨ao, cc, hv⟩ := hQ.v.form
    refine ⟨hM'.box.cell (j := 1) rfl, hfz, ⟨_, e1⟩, ⟨ao, cc, ?_⟩, fun f => ?_⟩
    · rw [e2, hv, h8, two_len]
    · obtain ⟨m1, m2⟩ := hM'.set rfl hnq 1 (.int .i64 f) (by decide) ⟨(q[ix l n]'hnq).ino, f, (q[ix l n]'hnq).v⟩ rfl
      refine ⟨⟨⟨_, ⟨⟨_, _, m1, (hF'.set (ix l n) (x := ⟨(q[ix l n]'hnq).ino, f, (q[ix l n]'hnq).v⟩) (y := ⟨l[ix l n].ino, f, l[ix l n].l⟩) ⟨hQ.ino, rfl, hQ.v⟩).keeps m2 (by simp [RT])⟩, ⟨by rw [List.length_set]; exact hfew.len, fun x hx => ?_, fun x hx => ?_⟩⟩, h3.up hD hn f, by rw [List.length_set]; omega, fun x hx => ?_⟩, RS.tree (h.rs.keep hb) m2⟩, keeps_rt m2⟩
      · rcases List.mem_or_eq_of_mem_set hx with hx | rfl
        · exact hfew.names x hx
        · exact hfew.names l[ix l n] (List.getElem_mem hn)
      · rcases List.mem_or_eq_of_mem_set hx with hx | rfl
        · exact hfew.nos x hx
        · exact hfew.nos l[ix l n] (List.getElem_mem hn)
      · rcases List.mem_or_eq_of_mem_set hx with hx | rfl
        · exact h5 x hx
        · exact h5 l[ix l n] (List.getElem_mem hn)
end
end RN
end Go.Proofs.YtmnmheocmcmpmaaGreat

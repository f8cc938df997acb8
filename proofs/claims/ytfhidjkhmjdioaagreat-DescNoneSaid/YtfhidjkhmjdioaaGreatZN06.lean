/- Package desc's Seek, Trunc, Write, whatever the arguments. -/
import Derived.Test.YtfhidjkhmjdioaaGreatZN05
import Derived.Test.YtfhidjkhmjdioaaGreatZN02
import Derived.Test.YtfhidjkhmjdioaaGreatZN04

namespace Go.Proofs.YtfhidjkhmjdioaaGreat
open Go.ChangeShapes Go.WideShapes Go.ChangeAt Go.RowKit Go.Maps
set_option linter.unusedVariables false
set_option linter.unusedSimpArgs false
set_option maxRecDepth 100000
set_option maxHeartbeats 4000000
namespace DC
open IS (I64 upd)
open IN (Keeps lt_of_some)
def relO (O : Ou) (k : Nat) : Ou := match O k with
  | none => O
  | some o => if 1 < o.refs then updO O k (some { o with refs := o.refs - 1 }) else updO O k none
def relS (S : Sm) (O : Ou) (k : Nat) : Sm := match O k with
  | none => S
  | some o => if 1 < o.refs then S else IN.clS S o.ino
section
variable {K : Cn} {q : Nat} {A : Am} {S : Sm} {D : NT.Ds} {M : Int → Option Nat} {β : Nat → Nat} {P : Ps} {O : Ou} {R : Ls} {w w' : World} {n : Nat}
theorem DM.refs_le (h : DM K q A S D M β P O R w) {k : Nat} {o : Of} (ho : O k = some o) : 1 ≤ o.refs ∧ o.refs ≤ 4000000 := by
  have h1 := h.di.refs k o ho
  have h2 := cntP_le k h.di.len
  have h3 := cntL_le k R
  have h4 := h.cap
  have h5 : P.length * K.files ≤ 60000 * 64 := Nat.mul_le_mul (by omega) (by omega)
  omega
theorem DM.ino_i64 (h : DM K q A S D M β P O R w) {k : Nat} {o : Of} (ho : O k = some o) : I64 o.ino := by
  obtain ⟨x, hx, -⟩ := h.di.ino k o ho
  exact h.dp.tw.ti.i64 h.dp.tw.lim (by rw [hx]; simp)
end
end DC
namespace DC
theorem start_set (pd pf : Option Addr) (w : World) : Calls Tryz.prog 72 #[.pointer pd, .pointer pf, .int .i64 0] w fun e w' => e = .returned (.tuple #[.int .i64 0, .int .i64 0]) ∧ w' = w := by
  go_enter Tryz.func72, Tryz.ntmps72
  go_wp2_with fail
  go_ret2
  exact ⟨rfl, rfl⟩
theorem start_cur (pd : Option Addr) (f : Nat) (o : Of) (w : World) (h : FB w f o) : Calls Tryz.prog 72 #[.pointer pd, .pointer (some ⟨f, 0, none⟩), .int .i64 1] w fun e w' => e = .returned (.tuple #[.int .i64 o.off, .int .i64 0]) ∧ w' = w := by
  have c1 := h.cell (j := 1) rfl
  clear h
  go_enter Tryz.func72, Tryz.ntmps72
  go_wp2_with fail
  go_ret2
  exact ⟨rfl, rfl⟩
theorem start_bad (pd pf : Option Addr) (k : Int) (w : World) (h0 : k ≠ 0) (h1 : k ≠ 1) (h2 : k ≠ 2) : Calls Tryz.prog 72 #[.pointer pd, .pointer pf, .int .i64 k] w fun e w' => e = .returned (.tuple #[.int .i64 0, .int .i64 2]) ∧ w' = w := by
  have e0 : (k == 0) = false := by simpa using h0
  have e1 : (k == 1) = false := by simpa using h1
  have e2 : (k == 2) = false := by simpa using h2
  clear h0 h1 h2
  go_enter Tryz.func72, Tryz.ntmps72
  go_wp2_with fail
  go_ret2
  exact ⟨rfl, rfl⟩
end DC
namespace DC
def Nay (w : World) (pd : Option Addr) (p q need c : Int) : Prop := c ≠ 0 ∧ Calls Tryz.prog 70 #[.pointer pd, .int .i64 p, .int .i64 q, .int .i64 need] w fun e w' => e = .returned (.tuple #[.pointer none, .int .i64 c]) ∧ w' = w
theorem Dup_nay (pd : Option Addr) (p q c : Int) (w : World) (h : Nay w pd p q 0 c) : Calls Tryz.prog 32 #[.pointer pd, .int .i64 p, .int .i64 q] w fun e w' => e = .returned (.tuple #[.int .i64 0, .int .i64 c]) ∧ w' = w := by
  have hne : (c != 0) = true := by simpa using h.1
  have cF := W_hid h.2
  clear h
  go_enter Tryz.func32, Tryz.ntmps32
  go_wp2_with fail
  refine cF.out.mono ?_
  rintro e w1 ⟨rfl, rfl⟩
  go_wp2_with fail
  go_ret2
  exact ⟨rfl, rfl⟩
theorem Read_nay (pd : Option Addr) (p q c : Int) (n : Int) (w : World) (h : Nay w pd p q 1 c) : Calls Tryz.prog 30 #[.pointer pd, .int .i64 p, .int .i64 q, .int .i64 n] w fun e w' => e = .returned (.tuple #[.string ByteArray.empty, .int .i64 c]) ∧ w' = w := by
  have hne : (c != 0) = true := by simpa using h.1
  have cF := W_hid h.2
  clear h
  go_enter Tryz.func30, Tryz.ntmps30
  go_wp2_with fail
  refine cF.out.mono ?_
  rintro e w1 ⟨rfl, rfl⟩
  go_wp2_with fail
  go_ret2
  exact ⟨rfl, rfl⟩
theorem Write_nay (pd : Option Addr) (p q c : Int) (s : ByteArray) (w : World) (h : Nay w pd p q 2 c) : Calls Tryz.prog 27 #[.pointer pd, .int .i64 p, .int .i64 q, .string s] w fun e w' => e = .returned (.tuple #[.int .i64 0, .int .i64 c]) ∧ w' = w := by
  have hne : (c != 0) = true := by simpa using h.1
  have cF := W_hid h.2
  clear h
  go_enter Tryz.func27, Tryz.ntmps27
  go_wp2_with fail
  refine cF.out.mono ?_
  rintro e w1 ⟨rfl, rfl⟩
  go_wp2_with fail
  go_ret2
  exact ⟨rfl, rfl⟩
theorem Seek_nay (pd : Option Addr) (p q c : Int) (n k : Int) (w : World) (h : Nay w pd p q 0 c) : Calls Tryz.prog 29 #[.pointer pd, .int .i64 p, .int .i64 q, .int .i64 n, .int .i64 k] w fun e w' => e = .returned (.tuple #[.int .i64 0, .int .i64 c]) ∧ w' = w := by
  have hne : (c != 0) = true := by simpa using h.1
  have cF := W_hid h.2
  clear h
  go_enter Tryz.func29, Tryz.ntmps29
  go_wp2_with fail
  refine cF.out.mono ?_
  rintro e w1 ⟨rfl, rfl⟩
  go_wp2_with fail
  go_ret2
  exact ⟨rfl, rfl⟩
end DC
namespace DC
open IS (I64 upd)
open IN (Keeps lt_of_some)
open NT (er)
def fileR (P : Ps) (O : Ou) (pid fd need : Int) : Except Int Nat := match lk P pid with
  | none => .error 19
  | some L => match getL L fd with
    | none => .error 16
    | some k => match O k with
      | none => .error 16
      | some o => if (bits .and .i64 o.flags need == need) = true then .ok k else .error 16
theorem getL_some {L : Ls} {fd : Int} {k : Nat} (h : getL L fd = some k) : ∃ j : Nat, fd = j ∧ L[j]? = some (some k) := by
  unfold getL at h
  split at h
  · rename_i h0
    refine ⟨fd.toNat, by omega, ?_⟩
    cases e : L[fd.toNat]? with
    | none => rw [e] at h; cases h
    | some x => rw [e] at h; simpa using h
  · cases h
theorem fileR_ok {P : Ps} {O : Ou} {pid fd need : Int} {k : Nat} (h : fileR P O pid fd need = .ok k) : ∃ L o, ∃ j : Nat, lk P pid = some L ∧ fd = j ∧ getL L fd = some k ∧ L[j]? = some (some k) ∧ O k = some o ∧ (bits .and .i64 o.flags need == need) = true := by
  unfold fileR at h
  cases e1 : lk P pid with
  | none => rw [e1] at h; cases h
  | some L =>
    rw [e1] at h
    simp only at h
    cases e2 : getL L fd with
    | none => rw [e2] at h; cases h
    | some k' =>
      rw [e2] at h
      simp only at h
      cases e3 : O k' with
      | none => rw [e3] at h; cases h
      | some o =>
        rw [e3] at h
        simp only at h
        split at h
        · rename_i h4
          cases h
          obtain ⟨j, hj, hL⟩ := getL_some e2
          exact ⟨L, o, j, rfl, hj, e2, hL, e3, h4⟩
        · cases h
theorem fileR_ne {P : Ps} {O : Ou} {pid fd need c : Int} (h : fileR P O pid fd need = .error c) : c ≠ 0 := by
  unfold fileR at h
  split at h
  · cases h; decide
  · split at h
    · cases h; decide
    · split at h
      · cases h; decide
      · split at h
        · cases h
        · cases h; decide
section
variable {K : Cn} {q : Nat} {A : Am} {S : Sm} {D : NT.Ds} {M : Int → Option Nat} {β : Nat → Nat} {P : Ps} {O : Ou} {R : Ls} {w w' : World} {n : Nat}
theorem DM.file_err (h : DM K q A S D M β P O R w) (hm : MB w K.b q M) {pid fd need c : Int} (hp : I64 pid) (he : fileR P O pid fd need = .error c) : Nay w (some ⟨K.g, 0, none⟩) pid fd need c := by
  refine ⟨fileR_ne he, ?_⟩
  unfold fileR at he
  cases e1 : lk P pid with
  | none =>
    rw [e1] at he
    cases he
    exact file_srch pid fd need w h.dp.tb hm hp ((h.dp.fp.dom pid).2 e1)
  | some L =>
    rw [e1] at he
    simp only at he
    obtain ⟨g, hM, hpr, -⟩ := h.dp.fp.hasP e1
    have hl := h.di.lks e1
    have hg := getL_pad (β := β) hl.1 h.cap.2.1 fd
    cases e2 : getL L fd with
    | none =>
      rw [e2] at he hg
      cases he
      exact file_none pid fd need g _ w h.dp.tb hm hp hM hpr hg
    | some k =>
      rw [e2] at he hg
      simp only at he
      obtain ⟨j, hj, hL⟩ := getL_some e2
      obtain ⟨o, ho⟩ := h.di.has e1 hL
      rw [ho] at he
      simp only at he
      have := file_some pid fd need g (β k) _ o w h.dp.tb hm hp hM hpr hg (h.dp.fp.fb k o ho)
      split at he
      · cases he
      · rename_i hb
        cases he
        rw [if_neg hb] at this
        exact this
theorem DM.file_ok (h : DM K q A S D M β P O R w) (hm : MB w K.b q M) {pid fd need : Int} {k : Nat} (hp : I64 pid) (he : fileR P O pid fd need = .ok k) : Calls Tryz.prog 70 #[.pointer (some ⟨K.g, 0, none⟩), .int .i64 pid, .int .i64 fd, .int .i64 need] w fun e w' => e = .returned (.tuple #[.pointer (some ⟨β k, 0, none⟩), .int .i64 0]) ∧ w' = w := by
  obtain ⟨L, o, j, h1, h2, h3, h4, h5, h6⟩ := fileR_ok he
  obtain ⟨g, hM, hpr, -⟩ := h.dp.fp.hasP h1
  have hl := h.di.lks h1
  have hg := getL_pad (β := β) hl.1 h.cap.2.1 fd
  rw [h3] at hg
  have := file_some pid fd need g (β k) _ o w h.dp.tb hm hp hM hpr hg (h.dp.fp.fb k o h5)
  rw [if_pos h6] at this
  exact this
def DQ (K : Cn) (q : Nat) (A : Am) (S : Sm) (D : NT.Ds) (P : Ps) (O : Ou) (w w' : World) : Prop := (∃ A', DW K (q + 2) A' S D P O w') ∧ Keeps K.base (UT K A) w w'
theorem DQ.same (h : DW K q A S D P O w) (hq : q < 59998) (hb : Below w.heap.size w w') : DQ K q A S D P O w w' := by
  have h1 := (h.keep hb).more (q' := q + 2) (by omega) (by omega)
  obtain ⟨M, β, h2, h3⟩ := h
  exact ⟨⟨A, h1⟩, Keeps.new hb h3.low⟩
def clsR (S : Sm) (P : Ps) (O : Ou) (pid fd : Int) : Int × Sm × Ps × Ou := match fileR P O pid fd 0 with
  | .error c => (c, S, P, O)
  | .ok k => (0, relS S O k, setP P pid (((lk P pid).getD []).set fd.toNat none), relO O k)
theorem DP.slot (h : DP K q A S D M β P O w) {p : Int} {g : Nat} {L : Ls} (hM : M p = some g) (hl : lk P p = some L) (hf : L.length = K.files) {j : Nat} (hj : j < K.files) (x : Option Nat) (u : Value) (hu : u = pv (x.map β)) : DP K q A S D M β (setP P p (L.set j x)) O (w.setCell ⟨g, j, none⟩ u) := by
  have hg := h.fp.pr p g L hM hl
  exact ⟨TW_set h.tw hg.2 (.inr (.inl rfl)), h.far, Blk.far h.tb (p := ⟨g, j, none⟩) (IN.blk_ne h.tb.blk hg.2 (by decide)) _, h.fp.setSlot hM hl hf hj x u hu, h.ge⟩
theorem MB_slot {b : Nat} (h : MB w b n M) {g j : Nat} {L : Ls} (hg : PR w g L) (u : Value) : MB (w.setCell ⟨g, j, none⟩ u) b n M :=
  h.far (p := ⟨g, j, none⟩) (fun e => by
    obtain ⟨es, c, ho⟩ := h.obj
    have e' : b = g := e
    subst e'
    have := hg.2
    unfold Blk at this
    rw [this] at ho
    cases ho) u
theorem MB_file {b : Nat} (h : MB w b n M) {g j : Nat} {o : Of} (hg : FB w g o) (u : Value) : MB (w.setCell ⟨g, j, none⟩ u) b n M :=
  h.far (p := ⟨g, j, none⟩) (fun e => by
    obtain ⟨es, c, ho⟩ := h.obj
    have e' : b = g := e
    subst e'
    unfold FB Blk at hg
    rw [hg] at ho
    cases ho) u
end
end DC
namespace DC
open IS (I64 upd)
open IN (Keeps lt_of_some)
section
variable {K : Cn} {q : Nat} {A : Am} {S : Sm} {D : NT.Ds} {M : Int → Option Nat} {β : Nat → Nat} {P : Ps} {O : Ou} {R : Ls} {w w' : World} {n : Nat}
theorem cntO_turn {O : Ou} {k : Nat} {o o' : Of} (ho : O k = some o) (m : Nat) : cntO (updO O k (some o')) m = cntO O m := cntO_same fun j _ => by
  by_cases e : j = k
  · subst e; rw [updO_at, ho]; simp
  · rw [updO_ne e]
theorem DP.file (h : DP K q A S D M β P O w) {k : Nat} {o o' : Of} (ho : O k = some o) (j : Nat) (u : Value) (he : ([.int .i64 o.ino, .int .i64 o.off, .int .i64 o.flags, .int .i64 o.refs] : List Value).set j u = [.int .i64 o'.ino, .int .i64 o'.off, .int .i64 o'.flags, .int .i64 o'.refs]) : DP K q A S D M β P (updO O k (some o')) (w.setCell ⟨β k, j, none⟩ u) := by
  have hfb := h.fp.fb k o ho
  refine ⟨TW_set h.tw hfb (.inl rfl), h.far, ?_, h.fp.setFile ho j u he, h.ge⟩
  rw [cntO_turn ho]
  exact Blk.far h.tb (p := ⟨β k, j, none⟩) (IN.blk_ne h.tb.blk hfb.blk (by decide)) _
def dupR (f : Nat) (P : Ps) (O : Ou) (pid fd : Int) : (Int × Int) × Ps × Ou := match fileR P O pid fd 0 with
  | .error c => ((0, c), P, O)
  | .ok k => if fx ((lk P pid).getD []) < f then (((fx ((lk P pid).getD []) : Nat), 0), setP P pid (((lk P pid).getD []).set (fx ((lk P pid).getD [])) (some k)), updO O k ((O k).map fun o => { o with refs := o.refs + 1 })) else ((0, 22), P, O)
theorem Dup_all (pid fd : Int) (w : World) (h : DW K q A S D P O w) (hp : I64 pid) (hq : q < 59998) :
    Calls Tryz.prog 32 #[.pointer (some ⟨K.g, 0, none⟩), .int .i64 pid, .int .i64 fd] w fun e w' => e = .returned (.tuple #[.int .i64 (dupR K.files P O pid fd).1.1, .int .i64 (dupR K.files P O pid fd).1.2]) ∧ DQ K q A S D (dupR K.files P O pid fd).2.1 (dupR K.files P O pid fd).2.2 w w' := by
  have h0 := h
  obtain ⟨M, β, hm, hd⟩ := h
  unfold dupR
  cases e : fileR P O pid fd 0 with
  | error c =>
    refine (Dup_nay _ pid fd c w (hd.file_err hm hp e)).mono ?_
    rintro e w' ⟨rfl, rfl⟩
    exact ⟨rfl, DQ.same h0 hq (Below.refl _ _)⟩
  | ok k =>
    have cF := W_hid (hd.file_ok hm hp e)
    obtain ⟨L, o, j, h1, rfl, h3, h4, h5, h6⟩ := fileR_ok e
    obtain ⟨g, hM, hpr, hgb⟩ := hd.dp.fp.hasP h1
    have hl := hd.di.lks h1
    have hcap := hd.cap
    have hfx := fx_pad (β := β) hl.1
    simp only [h1, Option.getD_some, h5, Option.map_some]
    have cL := lowest_any K.g K.sg K.tg K.b g K.files _ _ w hd.dp.tb hpr hcap.2.1
    unfold lowV lowE at cL
    rw [hfx] at cL
    have c2 := hd.dp.tb.cell (j := 2) rfl
    have hlk := hm.look pid hp
    rw [hM] at hlk
    unfold IS.ptr at hlk
    have hq2 : q + 2 < 60000 := by omega
    by_cases hf : fx L < K.files
    · simp only [if_pos hf] at cL ⊢
      have cL := W_hid cL
      have hno := fx_none (L := L) (by omega)
      have hrf := hd.refs_le h5
      have H := W_hid (And.intro hm hd)
      have HP := W_hid (And.intro hpr h1)
      have HM := W_hid hM
      have hne : g ≠ β k := IN.blk_ne hpr.2 (hd.dp.fp.fb k o h5).blk (by decide)
      have HNE := W_hid hne
      have hgk := W_hid (hd.dp.fp.ge.2 k (by rw [h5]; simp))
      have H5 := W_hid h5
      have HG := W_hid hgb
      have HL := W_hid hl
      have HF := W_hid hf
      have HR := W_hid hrf
      have HC := W_hid hcap
      have HNO := W_hid hno
      clear h0 hm hd h1 h3 h4 h5 h6 hM hpr hl hcap hgb e hfx hno hrf hne hf
      generalize hfd : fx L = fd2 at *
      go_enter Tryz.func32, Tryz.ntmps32
      go_wp2_with fail
      refine cF.out.mono ?_
      rintro e w1 ⟨rfl, rfl⟩
      go_wp2_with fail
      refine cL.out.mono ?_
      rintro e w2 ⟨rfl, b2⟩
      have hm2 := H.out.1.keep b2
      have hd2 := H.out.2.keep b2
      have hp2 : PR w2 g (pad K.files β L) := ⟨HP.out.1.1, HP.out.1.2.keep b2⟩
      have cP := W_hid (put_any g (β k) fd2 _ o w2 hp2 (hd2.dp.fp.fb k o H5.out) (by have := HF.out; have := HC.out; omega) HNE.out (by have := HR.out; omega))
      have hfin := W_hid (show DQ K q A S D (setP P pid (L.set fd2 (some k))) (updO O k (some { o with refs := o.refs + 1 })) _ ((w2.setCell ⟨β k, 3, none⟩ (.int .i64 (o.refs + 1))).setCell ⟨g, fd2, none⟩ (.pointer (some ⟨β k, 0, none⟩))) from by
        have p1 := hd2.dp.file H5.out 3 (.int .i64 (o.refs + 1)) (o' := { o with refs := o.refs + 1 }) rfl
        have m1 := MB_file hm2 (hd2.dp.fp.fb k o H5.out) (j := 3) (.int .i64 (o.refs + 1))
        have hp3 : PR (w2.setCell ⟨β k, 3, none⟩ (.int .i64 (o.refs + 1))) g (pad K.files β L) := ⟨hp2.1, hp2.2.far (p := ⟨β k, 3, none⟩) HNE.out _⟩
        have p2 := p1.slot HM.out HP.out.2 HL.out.1 HF.out (some k) (.pointer (some ⟨β k, 0, none⟩)) rfl
        have hc := HC.out
        exact ⟨⟨A, M, β, (MB_slot m1 hp3 (j := fd2) (.pointer (some ⟨β k, 0, none⟩))).le (by omega), p2.more (by omega), (hd2.di.more H5.out).lay HP.out.2 HNO.out, by rw [set_len]; simp only [List.length_nil]; omega⟩,
          (Keeps.new b2 H.out.2.low).trans ((UT_file (hd2.dp.fp.fb k o H5.out) hgk.out).trans (UT_slot hp3 HG.out))⟩)
      clear b2 hm2 hd2 hp2
      go_wp2_with fail
      refine cP.out.mono ?_
      rintro e w3 ⟨rfl, rfl⟩
      go_wp2_with fail
      go_ret2
      exact ⟨rfl, hfin.out⟩
    · simp only [if_neg hf] at cL ⊢
      have cL := W_hid cL
      have H0 := W_hid h0
      clear h0 hm hd h1 h3 h4 h5 h6 hM hpr hl hcap hgb e hfx hf
      go_enter Tryz.func32, Tryz.ntmps32
      go_wp2_with fail
      refine cF.out.mono ?_
      rintro e w1 ⟨rfl, rfl⟩
      go_wp2_with fail
      refine cL.out.mono ?_
      rintro e w2 ⟨rfl, b2⟩
      have B2 := W_hid b2
      clear b2
      go_wp2_with fail
      go_ret2
      exact ⟨rfl, DQ.same H0.out hq B2.out⟩
end
end DC
namespace DC
open IS (I64 upd)
open IN (Keeps lt_of_some)
section
variable {K : Cn} {q : Nat} {A : Am} {S : Sm} {D : NT.Ds} {M : Int → Option Nat} {β : Nat → Nat} {P : Ps} {O : Ou} {R : Ls} {w w' : World} {n : Nat}
theorem start_end (k : Nat) (o : Of) (x : IN.Nd) (w : World) (h : DM K q A S D M β P O R w) (ho : O k = some o) (hx : S o.ino = some x) :
    Calls Tryz.prog 72 #[.pointer (some ⟨K.g, 0, none⟩), .pointer (some ⟨β k, 0, none⟩), .int .i64 2] w fun e w' => e = .returned (.tuple #[.int .i64 x.size, .int .i64 0]) ∧ Below w.heap.size w w' := by
  have hfb := (h.dp.fp.fb k o ho).blk
  have htb := h.dp.tb.blk
  have cS : Hid (∀ W, (W.cell? ⟨K.g, 0, none⟩ = some (.pointer (some ⟨K.sg, 0, none⟩)) ∧ W.cell? ⟨β k, 0, none⟩ = some (.int .i64 o.ino) ∧ Below w.heap.size w W) → Calls Tryz.prog 39 #[.pointer (some ⟨K.sg, 0, none⟩), .int .i64 o.ino] W fun e w' => e = .returned (.tuple #[.agg #[.int .i64 o.ino, .int .i64 x.kind, .int .i64 x.links, .int .i64 x.opens, .int .i64 x.size, .int .i64 (EM.cnt x.l : Int)], .int .i64 0]) ∧ (w'.cell? ⟨K.g, 0, none⟩ = some (.pointer (some ⟨K.sg, 0, none⟩)) ∧ w'.cell? ⟨β k, 0, none⟩ = some (.int .i64 o.ino) ∧ Below w.heap.size w w') ∧ Below W.heap.size W w') := W_hid fun W ⟨_, _, hW⟩ => by
    obtain ⟨M1, hps⟩ := (h.keep hW).dp.tw.ps
    have := IN.Stat_any o.ino W hps (h.ino_i64 ho)
    unfold IN.stV IN.opR IN.askR at this
    rw [hx] at this
    refine this.mono ?_
    rintro e w' ⟨rfl, hb⟩
    have hb' := hW.trans (hb.mono hW.size)
    exact ⟨rfl, ⟨(htb.keep hb').cell (j := 0) rfl, (hfb.keep hb').cell (j := 0) rfl, hb'⟩, hb⟩
  have z0 : Hid (∀ w3, Below (w.alloc (.cells #[.int .i64 0, .int .i64 0, .int .i64 0, .int .i64 0, .int .i64 0, .int .i64 0] 65)).drew.heap.size (w.alloc (.cells #[.int .i64 0, .int .i64 0, .int .i64 0, .int .i64 0, .int .i64 0, .int .i64 0] 65)).drew w3 → Blk w3 w.heap.size 65 IN.zl) := W_hid fun w3 hb => (show Blk (w.alloc (.cells #[.int .i64 0, .int .i64 0, .int .i64 0, .int .i64 0, .int .i64 0, .int .i64 0] 65)).drew w.heap.size 65 IN.zl from Blk.new w 65 IN.zl rfl).keep hb
  have t0 := htb.cell (j := 0) rfl
  have o0 := hfb.cell (j := 0) rfl
  have hg1 := htb.lt
  have hg2 := hfb.lt
  have n1 : ¬ K.g = w.heap.size := by omega
  have n2 : ¬ β k = w.heap.size := by omega
  have n3 : ¬ w.heap.size = K.g := by omega
  have n4 : ¬ w.heap.size = β k := by omega
  have hS : Hid (∀ W, Below w.heap.size w W → (W.cell? ⟨K.g, 0, none⟩ = some (.pointer (some ⟨K.sg, 0, none⟩)) ∧ W.cell? ⟨β k, 0, none⟩ = some (.int .i64 o.ino) ∧ Below w.heap.size w W)) := W_hid fun W hb' => ⟨(htb.keep hb').cell (j := 0) rfl, (hfb.keep hb').cell (j := 0) rfl, hb'⟩
  have hA : Hid (∀ W O, (W.cell? ⟨K.g, 0, none⟩ = some (.pointer (some ⟨K.sg, 0, none⟩)) ∧ W.cell? ⟨β k, 0, none⟩ = some (.int .i64 o.ino) ∧ Below w.heap.size w W) → ((W.alloc O).cell? ⟨K.g, 0, none⟩ = some (.pointer (some ⟨K.sg, 0, none⟩)) ∧ (W.alloc O).cell? ⟨β k, 0, none⟩ = some (.int .i64 o.ino) ∧ Below w.heap.size w (W.alloc O))) := W_hid fun W O hh => hS.out _ (hh.2.2.alloc hh.2.2.size _)
  have hT : Hid (∀ W (a b c d e f : Int), (W.cell? ⟨K.g, 0, none⟩ = some (.pointer (some ⟨K.sg, 0, none⟩)) ∧ W.cell? ⟨β k, 0, none⟩ = some (.int .i64 o.ino) ∧ Below w.heap.size w W) → (((((((W.setCell ⟨w.heap.size, 0, none⟩ (.int .i64 a)).setCell ⟨w.heap.size, 1, none⟩ (.int .i64 b)).setCell ⟨w.heap.size, 2, none⟩ (.int .i64 c)).setCell ⟨w.heap.size, 3, none⟩ (.int .i64 d)).setCell ⟨w.heap.size, 4, none⟩ (.int .i64 e)).setCell ⟨w.heap.size, 5, none⟩ (.int .i64 f)).cell? ⟨K.g, 0, none⟩ = some (.pointer (some ⟨K.sg, 0, none⟩)) ∧ ((((((W.setCell ⟨w.heap.size, 0, none⟩ (.int .i64 a)).setCell ⟨w.heap.size, 1, none⟩ (.int .i64 b)).setCell ⟨w.heap.size, 2, none⟩ (.int .i64 c)).setCell ⟨w.heap.size, 3, none⟩ (.int .i64 d)).setCell ⟨w.heap.size, 4, none⟩ (.int .i64 e)).setCell ⟨w.heap.size, 5, none⟩ (.int .i64 f)).cell? ⟨β k, 0, none⟩ = some (.int .i64 o.ino) ∧ Below w.heap.size w ((((((W.setCell ⟨w.heap.size, 0, none⟩ (.int .i64 a)).setCell ⟨w.heap.size, 1, none⟩ (.int .i64 b)).setCell ⟨w.heap.size, 2, none⟩ (.int .i64 c)).setCell ⟨w.heap.size, 3, none⟩ (.int .i64 d)).setCell ⟨w.heap.size, 4, none⟩ (.int .i64 e)).setCell ⟨w.heap.size, 5, none⟩ (.int .i64 f)))) := W_hid fun W a b c d e f hh => hS.out _ (IN.six_below hh.2.2 (Nat.le_refl _) a b c d e f)
  have hD : Hid (∀ W, (W.cell? ⟨K.g, 0, none⟩ = some (.pointer (some ⟨K.sg, 0, none⟩)) ∧ W.cell? ⟨β k, 0, none⟩ = some (.int .i64 o.ino) ∧ Below w.heap.size w W) → Below w.heap.size w W) := W_hid fun W hh => hh.2.2
  have sA := W_hid (hS.out _ (Below.refl w.heap.size w).drew)
  have sB := W_hid (hS.out _ ((Below.refl w.heap.size w).alloc (Nat.le_refl _) (.cells #[.int .i64 0, .int .i64 0, .int .i64 0, .int .i64 0, .int .i64 0, .int .i64 0] 65)).drew)
  clear h ho hx hfb htb hg1 hg2
  go_enter Tryz.func72, Tryz.ntmps72
  go_wp2_with fail
  go_region_held3 (fun w' => w'.cell? ⟨K.g, 0, none⟩ = some (.pointer (some ⟨K.sg, 0, none⟩)) ∧ w'.cell? ⟨β k, 0, none⟩ = some (.int .i64 o.ino) ∧ Below w.heap.size w w') (with_reducible (first | exact sA.out | exact sB.out | assumption | exact hA.out _ _ (by assumption) | exact hT.out _ _ _ _ _ _ _ (by assumption)))
    (first
      | (go_at_call 39; refine (cS.out _ (by with_reducible (first | exact sA.out | exact sB.out | assumption))).mono ?_; rintro e w3 ⟨rfl, S3, hZ⟩
         try (with_reducible (have hz := z0.out _ hZ; have r0 := hz.cell (j := 0) rfl; have r1 := hz.cell (j := 1) rfl; have r2 := hz.cell (j := 2) rfl; have r3 := hz.cell (j := 3) rfl; have r4 := hz.cell (j := 4) rfl; have r5 := hz.cell (j := 5) rfl; have fz := hz.fz))
         clear hZ))
  all_goals
    go_wp2_with fail
    go_ret2
    exact ⟨rfl, hD.out _ (by with_reducible assumption)⟩
end
end DC
namespace DC
open IS (I64 upd)
open IN (Keeps lt_of_some)
section
variable {K : Cn} {q : Nat} {A : Am} {S : Sm} {D : NT.Ds} {M : Int → Option Nat} {β : Nat → Nat} {P : Ps} {O : Ou} {R : Ls} {w w' : World} {n : Nat}
structure Op (K : Cn) (q : Nat) (S : Sm) (O : Ou) (β : Nat → Nat) (k : Nat) (o : Of) (x : IN.Nd) (w : World) : Prop where
  at_ : O k = some o
  nd : S o.ino = some x
  kind : x.kind = 1
  ino : I64 o.ino
  off : 0 ≤ o.off ∧ o.off ≤ 1048576
  fl : flg o.flags = true
  good : IN.Good K.L q x
  fb : Blk w (β k) 135 [.int .i64 o.ino, .int .i64 o.off, .int .i64 o.flags, .int .i64 o.refs]
  ge : K.base ≤ β k
theorem DM.op (h : DM K q A S D M β P O R w) {pid fd need : Int} {k : Nat} (he : fileR P O pid fd need = .ok k) : ∃ o x, Op K q S O β k o x w := by
  obtain ⟨L, o, j, h1, h2, h3, h4, h5, h6⟩ := fileR_ok he
  obtain ⟨x, hx, hk⟩ := h.di.ino k o h5
  obtain ⟨M1, hps⟩ := h.dp.tw.ps
  have hf := h.di.off k o h5
  exact ⟨o, x, h5, hx, hk, h.ino_i64 h5, ⟨hf.1, hf.2.1⟩, hf.2.2, hps.fn.good _ x hx, (h.dp.fp.fb k o h5).blk, h.dp.fp.ge.2 k (by rw [h5]; simp)⟩
theorem DW_seek (hm : MB w K.b q M) (h : DM K q A S D M β P O [] w) (hq : q < 59998) {k : Nat} {o : Of} (ho : O k = some o) {v : Int} (hv : 0 ≤ v ∧ v ≤ 1048576) : DQ K q A S D P (updO O k (some { o with off := v })) w (w.setCell ⟨β k, 1, none⟩ (.int .i64 v)) := by
  have hfb := h.dp.fp.fb k o ho
  have hc := h.cap
  exact ⟨⟨A, M, β, (MB_file hm hfb (j := 1) (.int .i64 v)).le (by omega), (h.dp.file ho 1 (.int .i64 v) (o' := { o with off := v }) rfl).more (by omega), h.di.seek ho hv, by omega⟩, UT_file hfb (h.dp.fp.ge.2 k (by rw [ho]; simp))⟩
theorem DQ.ahead {S' : Sm} {D' : NT.Ds} {P' : Ps} {O' : Ou} {w2 : World} (hb : Below w.heap.size w w') (hl : K.base ≤ w.heap.size) (h : DQ K q A S' D' P' O' w' w2) : DQ K q A S' D' P' O' w w2 := ⟨h.1, (Keeps.new hb hl).trans h.2⟩
def rdR (S : Sm) (P : Ps) (O : Ou) (pid fd n : Int) : (ByteArray × Int) × Ou := match fileR P O pid fd 1 with
  | .error c => ((ByteArray.empty, c), O)
  | .ok k => match O k with
    | none => ((ByteArray.empty, 0), O)
    | some o => match S o.ino with
      | none => ((ByteArray.empty, 0), O)
      | some x => if rdE x.l x.size o.off n = 0 then ((strOf (rdV x.l x.size o.off n), 0), updO O k (some { o with off := o.off + (strOf (rdV x.l x.size o.off n)).size })) else ((ByteArray.empty, rdE x.l x.size o.off n), O)
theorem rd_bound {l : List (Int × ByteArray)} {s f n : Int} (hs : s ≤ 1048576) (hf : 0 ≤ f ∧ f ≤ 1048576) : 0 ≤ f + ((strOf (rdV l s f n)).size : Int) ∧ f + ((strOf (rdV l s f n)).size : Int) ≤ 1048576 := by
  rw [strOf_size]
  unfold rdV
  split
  · rw [EM.rd_length]
    omega
  · simp
    omega
theorem Read_all (pid fd n : Int) (w : World) (h : DW K q A S D P O w) (hp : I64 pid) (hn : I64 n) (hq : q < 59998) :
    Calls Tryz.prog 30 #[.pointer (some ⟨K.g, 0, none⟩), .int .i64 pid, .int .i64 fd, .int .i64 n] w fun e w' => e = .returned (.tuple #[.string (rdR S P O pid fd n).1.1, .int .i64 (rdR S P O pid fd n).1.2]) ∧ DQ K q A S D P (rdR S P O pid fd n).2 w w' := by
  have h0 := h
  obtain ⟨M, β, hm, hd⟩ := h
  unfold rdR
  cases e : fileR P O pid fd 1 with
  | error c =>
    refine (Read_nay _ pid fd c n w (hd.file_err hm hp e)).mono ?_
    rintro e w' ⟨rfl, rfl⟩
    exact ⟨rfl, DQ.same h0 hq (Below.refl _ _)⟩
  | ok k =>
    have cF := W_hid (hd.file_ok hm hp e)
    obtain ⟨o, x, ho⟩ := hd.op e
    simp only [ho.at_, ho.nd]
    have htb := hd.dp.tb.blk
    have t0 := htb.cell (j := 0) rfl
    have o0 := ho.fb.cell (j := 0) rfl
    have o1 := ho.fb.cell (j := 1) rfl
    obtain ⟨M1, hps⟩ := hd.drew1.dp.tw.ps
    have cR := IN.Read_yes o.ino o.off n x w.drew hps ho.ino ⟨by have := ho.off; omega, by have := ho.off; omega⟩ hn ho.nd ho.kind
    have hbd := rd_bound (l := x.l) (n := n) (s := x.size) ho.good.size.2 ho.off
    have hno : rdE x.l x.size o.off n ≠ 0 → strOf (rdV x.l x.size o.off n) = ByteArray.empty := fun hh => by
      unfold rdV
      rw [if_neg hh]
      rfl
    have hszb : (strOf (rdV x.l x.size o.off n)).size ≤ 1048576 := by have := ho.off; omega
    generalize rdE x.l x.size o.off n = E at *
    generalize strOf (rdV x.l x.size o.off n) = s at *
    have hS : Hid (∀ W, Below w.heap.size w W → (W.cell? ⟨K.g, 0, none⟩ = some (.pointer (some ⟨K.sg, 0, none⟩)) ∧ W.cell? ⟨β k, 0, none⟩ = some (.int .i64 o.ino) ∧ W.cell? ⟨β k, 1, none⟩ = some (.int .i64 o.off) ∧ Below w.heap.size w W)) := W_hid fun W hb' => ⟨(htb.keep hb').cell (j := 0) rfl, (ho.fb.keep hb').cell (j := 0) rfl, (ho.fb.keep hb').cell (j := 1) rfl, hb'⟩
    have sA := W_hid (hS.out _ (Below.refl w.heap.size w).drew)
    have cR2 : Hid (Calls Tryz.prog 79 #[.pointer (some ⟨K.sg, 0, none⟩), .int .i64 o.ino, .int .i64 o.off, .int .i64 n] w.drew fun e w' => e = .returned (.tuple #[.string s, .int .i64 E]) ∧ (w'.cell? ⟨K.g, 0, none⟩ = some (.pointer (some ⟨K.sg, 0, none⟩)) ∧ w'.cell? ⟨β k, 0, none⟩ = some (.int .i64 o.ino) ∧ w'.cell? ⟨β k, 1, none⟩ = some (.int .i64 o.off) ∧ Below w.heap.size w w')) := W_hid (cR.mono (by
      rintro e w' ⟨rfl, hb⟩
      exact ⟨rfl, hS.out _ (bundrew hb)⟩))
    have hbel : Hid (∀ W, (W.cell? ⟨K.g, 0, none⟩ = some (.pointer (some ⟨K.sg, 0, none⟩)) ∧ W.cell? ⟨β k, 0, none⟩ = some (.int .i64 o.ino) ∧ W.cell? ⟨β k, 1, none⟩ = some (.int .i64 o.off) ∧ Below w.heap.size w W) → Below w.heap.size w W) := W_hid fun W hh => hh.2.2.2
    have hfz : Hid (∀ W, Below w.heap.size w W → ∀ i, W.frozen? ⟨β k, i, none⟩ = false) := W_hid fun W hb => (ho.fb.keep hb).fz
    have H := W_hid (And.intro hm hd)
    have HO := W_hid ho.at_
    have H0 := W_hid h0
    have hoff := ho.off
    have HB := W_hid hbd
    have hw : IntKind.i64.wrap (o.off + (s.size : Int)) = o.off + (s.size : Int) := by rw [IntKind.wrap_i64]; omega
    clear h0 hm hd ho htb hps cR hbd e
    by_cases hE : E = 0
    · subst hE
      rw [if_pos rfl]
      clear hno
      go_enter Tryz.func30, Tryz.ntmps30
      go_wp2_with fail
      refine cF.out.mono ?_
      rintro e w1 ⟨rfl, rfl⟩
      go_wp2_with fail
      go_region_held3 (fun w' => w'.cell? ⟨K.g, 0, none⟩ = some (.pointer (some ⟨K.sg, 0, none⟩)) ∧ w'.cell? ⟨β k, 0, none⟩ = some (.int .i64 o.ino) ∧ w'.cell? ⟨β k, 1, none⟩ = some (.int .i64 o.off) ∧ Below w1.heap.size w1 w') (with_reducible (first | exact sA.out | assumption))
        (first
          | (go_at_call 79; refine cR2.out.mono ?_; rintro e w3 ⟨rfl, S3⟩))
      all_goals
        have b3 := hbel.out w3 (by with_reducible assumption)
        have fz := hfz.out w3 b3
        have hfin := W_hid (DQ.ahead b3 H.out.2.low (DW_seek (H.out.1.keep b3) (H.out.2.keep b3) hq HO.out HB.out))
        clear b3
        go_wp2_with fail
        go_ret2
        exact ⟨rfl, hfin.out⟩
    · rw [if_neg hE]
      have hs := hno hE
      subst hs
      have hne : (E != 0) = true := by simpa using hE
      clear hno hE
      go_enter Tryz.func30, Tryz.ntmps30
      go_wp2_with fail
      refine cF.out.mono ?_
      rintro e w1 ⟨rfl, rfl⟩
      go_wp2_with fail
      go_region_held3 (fun w' => w'.cell? ⟨K.g, 0, none⟩ = some (.pointer (some ⟨K.sg, 0, none⟩)) ∧ w'.cell? ⟨β k, 0, none⟩ = some (.int .i64 o.ino) ∧ w'.cell? ⟨β k, 1, none⟩ = some (.int .i64 o.off) ∧ Below w1.heap.size w1 w') (with_reducible (first | exact sA.out | assumption))
        (first
          | (go_at_call 79; refine cR2.out.mono ?_; rintro e w3 ⟨rfl, S3⟩))
      all_goals
        have b3 := W_hid (hbel.out w3 (by with_reducible assumption))
        go_wp2_with fail
        go_ret2
        exact ⟨rfl, DQ.same H0.out hq b3.out⟩
end
end DC
namespace DC
open IS (I64 upd)
open IN (Keeps lt_of_some)
section
variable {K : Cn} {q : Nat} {A : Am} {S : Sm} {D : NT.Ds} {M : Int → Option Nat} {β : Nat → Nat} {P : Ps} {O : Ou} {R : Ls} {w w' : World} {n : Nat}
def skAt (o : Of) (x : IN.Nd) (k : Int) : Option Int := if k = 0 then some 0 else if k = 1 then some o.off else if k = 2 then some x.size else none
theorem start_any (k : Nat) (o : Of) (x : IN.Nd) (wh : Int) (w : World) (h : DM K q A S D M β P O R w) (ho : O k = some o) (hx : S o.ino = some x) :
    Calls Tryz.prog 72 #[.pointer (some ⟨K.g, 0, none⟩), .pointer (some ⟨β k, 0, none⟩), .int .i64 wh] w fun e w' => e = .returned (.tuple #[.int .i64 ((skAt o x wh).getD 0), .int .i64 (if skAt o x wh = none then 2 else 0)]) ∧ Below w.heap.size w w' := by
  unfold skAt
  by_cases h0 : wh = 0
  · subst h0
    exact (start_set _ _ w).mono (by rintro e w' ⟨rfl, rfl⟩; exact ⟨rfl, Below.refl _ _⟩)
  · by_cases h1 : wh = 1
    · subst h1
      exact (start_cur _ _ o w (h.dp.fp.fb k o ho)).mono (by rintro e w' ⟨rfl, rfl⟩; exact ⟨rfl, Below.refl _ _⟩)
    · by_cases h2 : wh = 2
      · subst h2
        exact start_end k o x w h ho hx
      · rw [if_neg h0, if_neg h1, if_neg h2]
        exact (start_bad _ _ wh w h0 h1 h2).mono (by rintro e w' ⟨rfl, rfl⟩; exact ⟨rfl, Below.refl _ _⟩)
def skR (S : Sm) (P : Ps) (O : Ou) (pid fd by_ wh : Int) : (Int × Int) × Ou := match fileR P O pid fd 0 with
  | .error c => ((0, c), O)
  | .ok k => match O k with
    | none => ((0, 0), O)
    | some o => match S o.ino with
      | none => ((0, 0), O)
      | some x => match skAt o x wh with
        | none => ((0, 2), O)
        | some at_ => if by_ < -at_ ∨ by_ > 1048576 - at_ then ((0, 2), O) else ((at_ + by_, 0), updO O k (some { o with off := at_ + by_ }))
theorem Seek_all (pid fd by_ wh : Int) (w : World) (h : DW K q A S D P O w) (hp : I64 pid) (hn : I64 by_) (hq : q < 59998) :
    Calls Tryz.prog 29 #[.pointer (some ⟨K.g, 0, none⟩), .int .i64 pid, .int .i64 fd, .int .i64 by_, .int .i64 wh] w fun e w' => e = .returned (.tuple #[.int .i64 (skR S P O pid fd by_ wh).1.1, .int .i64 (skR S P O pid fd by_ wh).1.2]) ∧ DQ K q A S D P (skR S P O pid fd by_ wh).2 w w' := by
  have h0 := h
  obtain ⟨M, β, hm, hd⟩ := h
  unfold skR
  cases e : fileR P O pid fd 0 with
  | error c =>
    refine (Seek_nay _ pid fd c by_ wh w (hd.file_err hm hp e)).mono ?_
    rintro e w' ⟨rfl, rfl⟩
    exact ⟨rfl, DQ.same h0 hq (Below.refl _ _)⟩
  | ok k =>
    have cF := W_hid (hd.file_ok hm hp e)
    obtain ⟨o, x, ho⟩ := hd.op e
    simp only [ho.at_, ho.nd]
    have cS := start_any k o x wh w hd ho.at_ ho.nd
    have hat : ∀ v, skAt o x wh = some v → 0 ≤ v ∧ v ≤ 1048576 := fun v hv => by
      unfold skAt at hv
      have h1 := ho.off
      have h2 := ho.good.size
      split at hv
      · cases hv; omega
      · split at hv
        · cases hv; omega
        · split at hv
          · cases hv; omega
          · cases hv
    cases hsk : skAt o x wh with
    | none =>
      rw [hsk] at cS
      simp only [if_true, Option.getD_none] at cS ⊢
      have cS := W_hid cS
      have H0 := W_hid h0
      clear h0 hm hd ho hsk hat e
      go_enter Tryz.func29, Tryz.ntmps29
      go_wp2_with fail
      refine cF.out.mono ?_
      rintro e w1 ⟨rfl, rfl⟩
      go_wp2_with fail
      refine cS.out.mono ?_
      rintro e w2 ⟨rfl, b2⟩
      have B2 := W_hid b2
      clear b2
      go_wp2_with fail
      go_ret2
      exact ⟨rfl, DQ.same H0.out hq B2.out⟩
    | some v =>
      rw [hsk] at cS
      simp only [reduceCtorEq, if_false, Option.getD_some] at cS ⊢
      have hv := hat v hsk
      have cS := W_hid cS
      have H0 := W_hid h0
      have H := W_hid (And.intro hm hd)
      have HO := W_hid ho.at_
      have hfz : Hid (∀ W, Below w.heap.size w W → (∀ i, W.frozen? ⟨β k, i, none⟩ = false) ∧ W.cell? ⟨β k, 1, none⟩ = some (.int .i64 o.off)) := W_hid fun W hb => ⟨(ho.fb.keep hb).fz, (ho.fb.keep hb).cell (j := 1) rfl⟩
      have hw1 : IntKind.i64.wrap (-v) = -v := by rw [IntKind.wrap_i64]; omega
      have hw2 : IntKind.i64.wrap (1048576 - v) = 1048576 - v := by rw [IntKind.wrap_i64]; omega
      clear h0 hm hd ho hsk hat e
      have hn1 := hn.1
      have hn2 := hn.2
      clear hn
      by_cases h1 : by_ < -v
      · have d1 : decide (by_ < -v) = true := decide_eq_true h1
        rw [if_pos (.inl h1)]
        clear h1 hfz
        go_enter Tryz.func29, Tryz.ntmps29
        go_wp2_with fail
        refine cF.out.mono ?_
        rintro e w1 ⟨rfl, rfl⟩
        go_wp2_with fail
        refine cS.out.mono ?_
        rintro e w2 ⟨rfl, b2⟩
        have B2 := W_hid b2
        clear b2
        go_wp2_with fail
        go_ret2
        exact ⟨rfl, DQ.same H0.out hq B2.out⟩
      · have d1 : decide (by_ < -v) = false := decide_eq_false h1
        by_cases h2 : by_ > 1048576 - v
        · have d2 : decide (by_ > 1048576 - v) = true := decide_eq_true h2
          have d3 : decide (1048576 - v < by_) = true := decide_eq_true h2
          rw [if_pos (.inr h2)]
          clear h1 h2 hfz
          go_enter Tryz.func29, Tryz.ntmps29
          go_wp2_with fail
          refine cF.out.mono ?_
          rintro e w1 ⟨rfl, rfl⟩
          go_wp2_with fail
          refine cS.out.mono ?_
          rintro e w2 ⟨rfl, b2⟩
          have B2 := W_hid b2
          clear b2
          go_wp2_with fail
          go_ret2
          exact ⟨rfl, DQ.same H0.out hq B2.out⟩
        · have d2 : decide (by_ > 1048576 - v) = false := decide_eq_false h2
          have d3 : decide (1048576 - v < by_) = false := decide_eq_false h2
          rw [if_neg (by omega)]
          have HB : Hid (0 ≤ v + by_ ∧ v + by_ ≤ 1048576) := W_hid ⟨by omega, by omega⟩
          have hw3 : IntKind.i64.wrap (v + by_) = v + by_ := by rw [IntKind.wrap_i64]; omega
          clear h1 h2
          go_enter Tryz.func29, Tryz.ntmps29
          go_wp2_with fail
          refine cF.out.mono ?_
          rintro e w1 ⟨rfl, rfl⟩
          go_wp2_with fail
          refine cS.out.mono ?_
          rintro e w2 ⟨rfl, b2⟩
          obtain ⟨fz, c1⟩ := hfz.out w2 b2
          have hfin := W_hid (DQ.ahead b2 H.out.2.low (DW_seek (H.out.1.keep b2) (H.out.2.keep b2) hq HO.out HB.out))
          clear b2
          go_wp2_with fail
          go_ret2
          exact ⟨rfl, hfin.out⟩
def truR (S : Sm) (P : Ps) (O : Ou) (pid fd n : Int) : Int × Sm := match fileR P O pid fd 2 with
  | .error c => (c, S)
  | .ok k => match O k with
    | none => (0, S)
    | some o => (IN.tErr S o.ino n, IN.tS S o.ino n)
end
end DC
end Go.Proofs.YtfhidjkhmjdioaaGreat

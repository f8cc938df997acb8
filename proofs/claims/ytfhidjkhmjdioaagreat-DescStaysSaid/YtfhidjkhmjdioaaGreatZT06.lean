/- Package desc's Read, Seek, Trunc, whatever the arguments. -/
import Derived.Test.YtfhidjkhmjdioaaGreatZT05
import Derived.Test.YtfhidjkhmjdioaaGreatZT02
import Derived.Test.YtfhidjkhmjdioaaGreatZT04

namespace Go.Proofs.YtfhidjkhmjdioaaGreat
open Go.ChangeShapes Go.WideShapes Go.ChangeAt Go.RowKit Go.Maps
set_option linter.unusedVariables false
set_option linter.unusedSimpArgs false
namespace DC
open IS (I64 upd)
open IN (Keeps lt_of_some)
structure Cn where
  base : Nat
  g : Nat
  tg : Nat
  sg : Nat
  mb : Nat
  b : Nat
  I : Nat
  L : Nat
  B : Nat
  files : Nat
  opens : Nat
abbrev Am := Int → Option (Nat × Nat)
abbrev Sm := Int → Option IN.Nd
structure DP (K : Cn) (q : Nat) (A : Am) (S : Sm) (D : NT.Ds) (M : Int → Option Nat) (β : Nat → Nat) (P : Ps) (O : Ou) (w : World) : Prop where
  tw : NT.TW K.base K.tg K.sg K.mb K.I K.L K.B q q A S D w
  far : K.b ≠ K.mb ∧ ∀ n x m, A n = some (x, m) → m ≠ K.b
  tb : TB w K.g K.sg K.tg K.b (K.files : Int) ((K.opens : Int) - (cntO O K.opens : Int))
  fp : FP K.base w K.files β M P O
  ge : K.base ≤ K.g ∧ K.base ≤ K.b
structure DM (K : Cn) (q : Nat) (A : Am) (S : Sm) (D : NT.Ds) (M : Int → Option Nat) (β : Nat → Nat) (P : Ps) (O : Ou) (R : Ls) (w : World) : Prop where
  dp : DP K q A S D M β P O w
  di : DI K.files K.opens S P O R
  cap : 1 ≤ K.files ∧ K.files ≤ 64 ∧ 1 ≤ K.opens ∧ K.opens ≤ 1024 ∧ 1 ≤ K.L ∧ P.length ≤ q ∧ q < 60000 ∧ R.length ≤ 64
def DW (K : Cn) (q : Nat) (A : Am) (S : Sm) (D : NT.Ds) (P : Ps) (O : Ou) (w : World) : Prop := ∃ M β, MB w K.b q M ∧ DM K q A S D M β P O [] w
def UT (K : Cn) (A : Am) (k : Nat) (o : Obj) : Prop := NT.FT A K.mb k o ∨ (∃ c s, o = .cells c 135 s) ∨ (∃ c s, o = .cells c 111 s) ∨ (∃ c s, o = .cells c 101 s) ∨ (k = K.b ∧ ∃ es c, o = .map es c)
def WT (K : Cn) (k : Nat) (o : Obj) : Prop := IN.PT K.mb k o ∨ (∃ c s, o = .cells c 135 s) ∨ (∃ c s, o = .cells c 101 s)
section
variable {K : Cn} {q : Nat} {A : Am} {S : Sm} {D : NT.Ds} {M : Int → Option Nat} {β : Nat → Nat} {P : Ps} {O : Ou} {R : Ls} {w w' : World} {n : Nat}
theorem MB.obj (h : MB w n q M) : ∃ es c, w.heap[n]? = some (.map es c) := by
  obtain ⟨D, ⟨es, clock, hb, _⟩, _⟩ := h.ex
  exact ⟨es, clock, hb⟩
theorem TW_drew {base tg sg mb I L B q c : Nat} (h : NT.TW base tg sg mb I L B q c A S D w) (n : Nat) : NT.TW base tg sg mb I L B q c A S D (w.drewN n) := ⟨h.tm.drew n, by obtain ⟨M, hM⟩ := h.ps; exact ⟨M, hM.pm.drew n, hM.fn, hM.lim⟩, h.ti⟩
theorem TW_q {base tg sg mb I L B q c q' : Nat} (h : NT.TW base tg sg mb I L B q c A S D w) (hq : q ≤ q') : NT.TW base tg sg mb I L B q' c A S D w := ⟨h.tm, by obtain ⟨M, hM⟩ := h.ps; exact ⟨M, hM.more hq⟩, h.ti⟩
theorem DP.low (h : DP K q A S D M β P O w) : K.base ≤ w.heap.size := h.tw.tm.low
theorem DP.keep (h : DP K q A S D M β P O w) (hb : Below w.heap.size w w') : DP K q A S D M β P O w' := ⟨h.tw.keep hb, h.far, h.tb.keep hb, h.fp.keep hb, h.ge⟩
theorem DP.drew (h : DP K q A S D M β P O w) (n : Nat) : DP K q A S D M β P O (w.drewN n) := ⟨TW_drew h.tw n, h.far, h.tb, h.fp.drew n, h.ge⟩
theorem TW_drew1 {base tg sg mb I L B q c : Nat} (h : NT.TW base tg sg mb I L B q c A S D w) : NT.TW base tg sg mb I L B q c A S D w.drew := ⟨h.tm.moved rfl fun _ _ _ _ => ⟨rfl, rfl⟩, by obtain ⟨M, hM⟩ := h.ps; exact ⟨M, hM.pm.drew1, hM.fn, hM.lim⟩, h.ti⟩
theorem DP.drew1 (h : DP K q A S D M β P O w) : DP K q A S D M β P O w.drew := ⟨TW_drew1 h.tw, h.far, h.tb, h.fp.drew1, h.ge⟩
theorem DP.more (h : DP K q A S D M β P O w) {q' : Nat} (hq : q ≤ q') : DP K q' A S D M β P O w := ⟨TW_q (h.tw.more hq) hq, h.far, h.tb, h.fp, h.ge⟩
theorem DM.low (h : DM K q A S D M β P O R w) : K.base ≤ w.heap.size := h.dp.low
theorem DM.keep (h : DM K q A S D M β P O R w) (hb : Below w.heap.size w w') : DM K q A S D M β P O R w' := ⟨h.dp.keep hb, h.di, h.cap⟩
theorem DM.drew (h : DM K q A S D M β P O R w) (n : Nat) : DM K q A S D M β P O R (w.drewN n) := ⟨h.dp.drew n, h.di, h.cap⟩
theorem DM.drew1 (h : DM K q A S D M β P O R w) : DM K q A S D M β P O R w.drew := ⟨h.dp.drew1, h.di, h.cap⟩
theorem DM.alloc (h : DM K q A S D M β P O R w) (o : Obj) : DM K q A S D M β P O R (w.alloc o) := h.keep ((Below.refl _ _).alloc (Nat.le_refl _) o)
theorem DM.more (h : DM K q A S D M β P O R w) {q' : Nat} (hq : q ≤ q') (hq' : q' < 60000) : DM K q' A S D M β P O R w := ⟨h.dp.more hq, h.di, by have := h.cap; omega⟩
theorem DW.keep (h : DW K q A S D P O w) (hb : Below w.heap.size w w') : DW K q A S D P O w' := by
  obtain ⟨M, β, h1, h2⟩ := h
  exact ⟨M, β, h1.keep hb, h2.keep hb⟩
theorem DW.more (h : DW K q A S D P O w) {q' : Nat} (hq : q ≤ q') (hq' : q' < 60000) : DW K q' A S D P O w := by
  obtain ⟨M, β, h1, h2⟩ := h
  exact ⟨M, β, h1.le hq, h2.more hq hq'⟩
/-! What each kind of work leaves alone. -/
theorem TB_keeps {sg ng b : Nat} {f l : Int} {g : Nat} (h : TB w g sg ng b f l) {B : Nat} {T : Nat → Obj → Prop} (hK : Keeps B T w w') (h1 : ∀ k c s, ¬ T k (.cells c 101 s)) : TB w' g sg ng b f l := hK.block _ _ h (h1 _ _ _)
theorem MB_keeps {b : Nat} (h : MB w b n M) {B : Nat} {T : Nat → Obj → Prop} (hK : Keeps B T w w') (h1 : ∀ es c, ¬ T b (.map es c)) : MB w' b n M := by
  obtain ⟨es, c, ho⟩ := h.obj
  exact h.heap ((hK.block _ _ ho (h1 _ _)).trans ho.symm)
theorem DP.store (h : DP K q A S D M β P O w) (hK : Keeps K.base (IN.PT K.mb) w w') {S' : Sm} {q' : Nat} (hq : q ≤ q') (hp : ∃ M', IN.PS K.base w' K.sg K.mb M' K.I K.L K.B q' S') (ht : NT.TI K.I q NT.e0 S' D) : DP K q' A S' D M β P O w' :=
  ⟨⟨h.tw.tm.store hK, hp, ht.more hq⟩, h.far, TB_keeps h.tb hK (by simp [IN.PT]), h.fp.keeps hK (by simp [IN.PT]) (by simp [IN.PT]), h.ge⟩
theorem DP.mbStore (h : DP K q A S D M β P O w) {M' : Int → Option Nat} (hm : MB w K.b n M') (hK : Keeps K.base (WT K) w w') : MB w' K.b n M' :=
  MB_keeps hm hK fun es c => by simp [WT, IN.PT, h.far.1]
theorem DP.tree (h : DP K q A S D M β P O w) (hK : Keeps K.base (NT.FT A K.mb) w w') {A' : Am} {S' : Sm} {D' : NT.Ds} {q' : Nat} (hs : NT.Sub A A' w) (ht : NT.TW K.base K.tg K.sg K.mb K.I K.L K.B q' q' A' S' D' w') (hb : K.b < w.heap.size) : DP K q' A' S' D' M β P O w' := by
  refine ⟨ht, ⟨h.far.1, fun n x m hA => ?_⟩, TB_keeps h.tb hK (by simp [NT.FT, IN.PT, NT.OneD, NT.One]), h.fp.keeps hK (by simp [NT.FT, IN.PT, NT.OneD, NT.One]) (by simp [NT.FT, IN.PT, NT.OneD, NT.One]), h.ge⟩
  rcases hs n x m hA with e | e
  · exact h.far.2 n x m e
  · omega
theorem DP.mbTree (h : DP K q A S D M β P O w) {M' : Int → Option Nat} (hm : MB w K.b n M') (hK : Keeps K.base (NT.FT A K.mb) w w') : MB w' K.b n M' :=
  MB_keeps hm hK fun es c => by
    rintro (h1 | ⟨m, x, y, h1, h2 | h2⟩)
    · simp [IN.PT, h.far.1] at h1
    · simp [NT.OneD] at h2
    · exact h.far.2 m x y h1 h2.1.symm
theorem WT_store (h : Keeps K.base (IN.PT K.mb) w w') : Keeps K.base (WT K) w w' := NT.keeps_wide h fun k o _ hT => .inl hT
theorem UT_w (A : Am) (h : Keeps K.base (WT K) w w') : Keeps K.base (UT K A) w w' := NT.keeps_wide h fun k o _ hT => by
  rcases hT with h1 | h1 | h1
  · exact .inl (.inl h1)
  · exact .inr (.inl h1)
  · exact .inr (.inr (.inr (.inl h1)))
theorem UT_tree (h : Keeps K.base (NT.FT A K.mb) w w') : Keeps K.base (UT K A) w w' := NT.keeps_wide h fun k o _ hT => .inl hT
theorem UT_file {k j : Nat} {u : Value} {o : Of} (h : FB w k o) (hb : K.base ≤ k) : Keeps K.base (UT K A) w (w.setCell ⟨k, j, none⟩ u) := (Keeps.refl _ _ _).setCell (p := ⟨k, j, none⟩) h (.inr (.inl ⟨_, _, rfl⟩)) hb u
theorem WT_file {k j : Nat} {u : Value} {o : Of} (h : FB w k o) (hb : K.base ≤ k) : Keeps K.base (WT K) w (w.setCell ⟨k, j, none⟩ u) := (Keeps.refl _ _ _).setCell (p := ⟨k, j, none⟩) h (.inr (.inl ⟨_, _, rfl⟩)) hb u
theorem UT_slot {k j : Nat} {u : Value} {L : Ls} (h : PR w k L) (hb : K.base ≤ k) : Keeps K.base (UT K A) w (w.setCell ⟨k, j, none⟩ u) := (Keeps.refl _ _ _).setCell (p := ⟨k, j, none⟩) h.2 (.inr (.inr (.inl ⟨_, _, rfl⟩))) hb u
theorem WT_table {k j sg ng b : Nat} {f l : Int} {u : Value} (h : TB w k sg ng b f l) (hb : K.base ≤ k) : Keeps K.base (WT K) w (w.setCell ⟨k, j, none⟩ u) := (Keeps.refl _ _ _).setCell (p := ⟨k, j, none⟩) h (.inr (.inr ⟨_, _, rfl⟩)) hb u
theorem TW_set {base tg sg mb I L B q c : Nat} (h : NT.TW base tg sg mb I L B q c A S D w) {k j : Nat} {u : Value} {cs : Array Value} {ty : TypeId} {s : Nat × Nat} (ho : w.heap[k]? = some (.cells cs ty s)) (hty : ty = 135 ∨ ty = 111 ∨ ty = 101) : NT.TW base tg sg mb I L B q c A S D (w.setCell ⟨k, j, none⟩ u) := by
  have hK : Keeps 0 (fun i o => i = k ∧ ∃ c s, o = .cells c ty s) w (w.setCell ⟨k, j, none⟩ u) := (Keeps.refl _ _ _).setCell (p := ⟨k, j, none⟩) ho ⟨rfl, _, _, rfl⟩ (Nat.zero_le _) u
  refine ⟨h.tm.keeps hK ?_ ?_ ?_, ?_, h.ti⟩
  · rintro _ _ _ ⟨-, _, _, e⟩
    simp only [Obj.cells.injEq] at e
    rcases hty with h | h | h <;> rw [h] at e <;> simp at e
  · rintro _ _ _ ⟨-, _, _, e⟩
    simp only [Obj.cells.injEq] at e
    rcases hty with h | h | h <;> rw [h] at e <;> simp at e
  · rintro _ _ _ _ _ _ ⟨-, _, _, e⟩
    cases e
  · obtain ⟨M, hM⟩ := h.ps
    refine ⟨M, hM.keeps hK ?_ ?_ ?_ ?_⟩
    · rintro _ _ _ ⟨-, _, _, e⟩
      simp only [Obj.cells.injEq] at e
      rcases hty with h | h | h <;> rw [h] at e <;> simp at e
    · rintro _ _ _ ⟨-, _, _, e⟩
      simp only [Obj.cells.injEq] at e
      rcases hty with h | h | h <;> rw [h] at e <;> simp at e
    · rintro _ _ ⟨-, _, _, e⟩
      cases e
    · rintro _ _ ⟨-, _, _, e⟩
      simp only [Obj.cells.injEq] at e
      rcases hty with h | h | h <;> rw [h] at e <;> simp at e
end
end DC
end Go.Proofs.YtfhidjkhmjdioaaGreat

namespace Go.Proofs.YtfhidjkhmjdioaaGreat
open Go.ChangeShapes Go.WideShapes Go.ChangeAt Go.RowKit Go.Maps
set_option linter.unusedVariables false
set_option linter.unusedSimpArgs false
set_option maxRecDepth 100000
set_option maxHeartbeats 4000000
namespace DC
open IS (I64 upd)
open IN (Keeps lt_of_some)
def relO (O : Ou) (k : Nat) : Ou := match O k with
  | none => O
  | some o => if 1 < o.refs then updO O k (some { o with refs := o.refs - 1 }) else updO O k none
def relS (S : Sm) (O : Ou) (k : Nat) : Sm := match O k with
  | none => S
  | some o => if 1 < o.refs then S else IN.clS S o.ino
theorem updO_updO (O : Ou) (k : Nat) (x y : Option Of) : updO (updO O k x) k y = updO O k y := by
  funext j; unfold updO; split <;> rfl
section
variable {K : Cn} {q : Nat} {A : Am} {S : Sm} {D : NT.Ds} {M : Int → Option Nat} {β : Nat → Nat} {P : Ps} {O : Ou} {R : Ls} {w w' : World} {n : Nat}
theorem DM.refs_le (h : DM K q A S D M β P O R w) {k : Nat} {o : Of} (ho : O k = some o) : 1 ≤ o.refs ∧ o.refs ≤ 4000000 := by
  have h1 := h.di.refs k o ho
  have h2 := cntP_le k h.di.len
  have h3 := cntL_le k R
  have h4 := h.cap
  have h5 : P.length * K.files ≤ 60000 * 64 := Nat.mul_le_mul (by omega) (by omega)
  omega
theorem DM.ino_i64 (h : DM K q A S D M β P O R w) {k : Nat} {o : Of} (ho : O k = some o) : I64 o.ino := by
  obtain ⟨x, hx, -⟩ := h.di.ino k o ho
  exact h.dp.tw.ti.i64 h.dp.tw.lim (by rw [hx]; simp)
theorem release_any (k : Nat) (o : Of) (w : World) (h : DM K q A S D M β P O (some k :: R) w) (ho : O k = some o) :
    Calls Tryz.prog 80 #[.pointer (some ⟨K.g, 0, none⟩), .pointer (some ⟨β k, 0, none⟩)] w fun e w' => e = .returned (.tuple #[]) ∧ DM K q A (relS S O k) D M β P (relO O k) R w' ∧ Keeps K.base (WT K) w w' := by
  have hfb := h.dp.fp.fb k o ho
  have hrf := h.refs_le ho
  have c0 := hfb.cell (j := 0) rfl
  have c3 := hfb.cell (j := 3) rfl
  have fz := hfb.fz
  have hcap := h.cap
  have hge := h.dp.fp.ge.2 k (by rw [ho]; simp)
  unfold relO relS
  rw [ho]
  simp only
  by_cases h1 : 1 < o.refs
  · rw [if_pos h1, if_pos h1]
    have hfin := W_hid (show DM K q A S D M β P (updO O k (some { o with refs := o.refs - 1 })) R (w.setCell ⟨β k, 3, none⟩ (.int .i64 (o.refs - 1))) from by
      have hc : cntO (updO O k (some { o with refs := o.refs - 1 })) K.opens = cntO O K.opens := cntO_same fun j _ => by
        by_cases e : j = k
        · subst e; rw [updO_at, ho]; simp
        · rw [updO_ne e]
      refine ⟨⟨TW_set h.dp.tw hfb (.inl rfl), h.dp.far, ?_, h.dp.fp.setFile ho 3 _ rfl, h.dp.ge⟩, h.di.less ho h1, by rw [List.length_cons] at hcap; omega⟩
      rw [hc]
      exact Blk.far h.dp.tb (p := ⟨β k, 3, none⟩) (IN.blk_ne h.dp.tb.blk hfb.blk (by decide)) _)
    have hK := W_hid (WT_file (K := K) (j := 3) (u := .int .i64 (o.refs - 1)) hfb hge)
    have hlo : -9223372036854775808 ≤ o.refs - 1 := by omega
    have hp : decide (1 < o.refs) = true := by simpa using h1
    have hw : IntKind.i64.wrap (o.refs - 1) = o.refs - 1 := by rw [IntKind.wrap_i64]; omega
    clear h hfb ho c0 h1 hge
    go_enter Tryz.func80, Tryz.ntmps80
    go_wp2_with fail
    exact bodyPost_ret (results_none Tryz.results80 _ _ _) rfl ⟨rfl, hfin.out, hK.out⟩
  · rw [if_neg h1, if_neg h1]
    have e1 : o.refs = 1 := by omega
    have hb := h.di.bound k (by rw [ho]; simp)
    have hcnt := cntO_upd O k none K.opens hb
    rw [ho, if_neg (by simp), if_pos rfl] at hcnt
    obtain ⟨W1, hW1⟩ : ∃ W1, w.setCell ⟨β k, 3, none⟩ (.int .i64 0) = W1 := ⟨_, rfl⟩
    have hne : K.g ≠ β k := IN.blk_ne h.dp.tb.blk hfb.blk (by decide)
    have htb1 : TB W1 K.g K.sg K.tg K.b K.files ((K.opens : Int) - (cntO O K.opens : Int)) := by rw [← hW1]; exact Blk.far h.dp.tb (p := ⟨β k, 3, none⟩) hne _
    have htb2 : TB (W1.setCell ⟨K.g, 4, none⟩ (.int .i64 ((K.opens : Int) - (cntO O K.opens : Int) + 1))) K.g K.sg K.tg K.b K.files ((K.opens : Int) - (cntO (updO O k none) K.opens : Int)) := by
      have := Blk.set htb1 4 (.int .i64 ((K.opens : Int) - (cntO O K.opens : Int) + 1))
      rw [show (K.opens : Int) - (cntO (updO O k none) K.opens : Int) = (K.opens : Int) - (cntO O K.opens : Int) + 1 by omega]
      exact this
    have hfp1 : FP K.base W1 K.files β M P (updO O k (some { o with refs := 0 })) := by rw [← hW1]; exact h.dp.fp.setFile ho 3 _ rfl
    have hdp : DP K q A S D M β P (updO O k none) (W1.setCell ⟨K.g, 4, none⟩ (.int .i64 ((K.opens : Int) - (cntO O K.opens : Int) + 1))) := by
      refine ⟨?_, h.dp.far, htb2, ?_, h.dp.ge⟩
      · refine TW_set ?_ htb1 (.inr (.inr rfl))
        rw [← hW1]
        exact TW_set h.dp.tw hfb (.inl rfl)
      · have h2 := hfp1.drop k
        rw [updO_updO] at h2
        exact h2.moved (fun p g hM => by
          obtain ⟨L, -, hp, -⟩ := h2.plt hM
          exact Below.heap_setCell _ _ _ _ (IN.blk_ne hp.2 htb1.blk (by decide))) fun i hi => by
          obtain ⟨x, hx⟩ := Option.ne_none_iff_exists'.1 hi
          exact Below.heap_setCell _ _ _ _ (IN.blk_ne (h2.fb i x hx).blk htb1.blk (by decide))
    have hfb2 : FB (W1.setCell ⟨K.g, 4, none⟩ (.int .i64 ((K.opens : Int) - (cntO O K.opens : Int) + 1))) (β k) { o with refs := 0 } := Blk.far (hfp1.fb k _ (updO_at _ _ _)) (p := ⟨K.g, 4, none⟩) hne.symm _
    obtain ⟨W2, hW2⟩ : ∃ W2, W1.setCell ⟨K.g, 4, none⟩ (.int .i64 ((K.opens : Int) - (cntO O K.opens : Int) + 1)) = W2 := ⟨_, rfl⟩
    have hK1 : Keeps K.base (WT K) w W1 := by rw [← hW1]; exact WT_file hfb hge
    have hK2 := hK1.trans (WT_table (K := K) (j := 4) (u := .int .i64 ((K.opens : Int) - (cntO O K.opens : Int) + 1)) htb1 h.dp.ge.1)
    rw [hW2] at htb2 hdp hfb2 hK2
    obtain ⟨M1, hps⟩ := hdp.drew1.tw.ps
    have hino := h.ino_i64 ho
    have cC := W_hid (IN.Close_any o.ino _ hps hino (by omega))
    obtain ⟨x, hx, hkd⟩ := h.di.ino k o ho
    have hti := h.dp.tw.ti.clS hx hkd
    have hdi := h.di.closed ho e1
    have next := W_hid (fun (w3 : World) (hp3 : ∃ M', IN.PS K.base w3 K.sg K.mb M' K.I K.L K.B q (IN.clS S o.ino)) (k3 : Keeps K.base (IN.PT K.mb) W2 w3) =>
      show (w3.cell? ⟨K.g, 0, none⟩ = some (.pointer (some ⟨K.sg, 0, none⟩)) ∧ w3.cell? ⟨β k, 0, none⟩ = some (.int .i64 o.ino)) ∧ Hid (DM K q A (IN.clS S o.ino) D M β P (updO O k none) R w3 ∧ Keeps K.base (WT K) w w3) from
        ⟨⟨(TB_keeps htb2 k3 (by simp [IN.PT])).cell (j := 0) rfl, Blk.cell (show Blk w3 (β k) 135 _ from k3.block _ _ hfb2 (by simp [IN.PT])) (j := 0) rfl⟩,
         W_hid ⟨⟨hdp.store k3 (Nat.le_refl _) hp3 hti, hdi, by rw [List.length_cons] at hcap; omega⟩, hK2.trans (WT_store (K := K) k3)⟩⟩)
    have s1 : W2.cell? ⟨K.g, 0, none⟩ = some (.pointer (some ⟨K.sg, 0, none⟩)) := htb2.cell (j := 0) rfl
    have s2 : W2.cell? ⟨β k, 0, none⟩ = some (.int .i64 o.ino) := Blk.cell hfb2 (j := 0) rfl
    have t4 := h.dp.tb.cell (j := 4) rfl
    have w3 : W1.cell? ⟨β k, 3, none⟩ = some (.int .i64 0) := Blk.cell (hfp1.fb k _ (updO_at _ _ _)).blk (j := 3) rfl
    have wf := (hfp1.fb k _ (updO_at _ _ _)).blk.fz
    have hle := cntO_le O K.opens
    have t4' : W1.cell? ⟨K.g, 4, none⟩ = some (.int .i64 ((K.opens : Int) - (cntO O K.opens : Int))) := htb1.cell (j := 4) rfl
    have f4' := htb1.fz
    have ft := h.dp.tb.fz
    have hw : IntKind.i64.wrap ((K.opens : Int) - (cntO O K.opens : Int) + 1) = (K.opens : Int) - (cntO O K.opens : Int) + 1 := by rw [IntKind.wrap_i64]; omega
    rw [e1] at c3
    have HNE := W_hid hne
    clear h hfb ho h1 hge hps hdp hfp1 htb1 htb2 hK1 hK2 hcnt hcap hx hkd hrf hb hino e1 hti hdi hfb2 c0 hne
    generalize (K.opens : Int) - (cntO O K.opens : Int) = lf at *
    go_enter Tryz.func80, Tryz.ntmps80
    go_wp2_with fail
    go_region_held3 (fun w' => w'.cell? ⟨K.g, 0, none⟩ = some (.pointer (some ⟨K.sg, 0, none⟩)) ∧ w'.cell? ⟨β k, 0, none⟩ = some (.int .i64 o.ino)) (first | assumption | exact ⟨s1, s2⟩ | go_keep)
      (first
        | (go_at_call 128; refine cC.out.mono ?_; rintro e w3 ⟨rfl, hp3, k3⟩; obtain ⟨S3, hfin⟩ := next.out w3 hp3 k3.undrew; clear hp3 k3))
    all_goals
      go_wp2_with fail
      exact bodyPost_end (results_none Tryz.results80 _ _ _) rfl ⟨rfl, hfin.out⟩
end
end DC
namespace DC
theorem start_set (pd pf : Option Addr) (w : World) : Calls Tryz.prog 72 #[.pointer pd, .pointer pf, .int .i64 0] w fun e w' => e = .returned (.tuple #[.int .i64 0, .int .i64 0]) ∧ w' = w := by
  go_enter Tryz.func72, Tryz.ntmps72
  go_wp2_with fail
  go_ret2
  exact ⟨rfl, rfl⟩
theorem start_cur (pd : Option Addr) (f : Nat) (o : Of) (w : World) (h : FB w f o) : Calls Tryz.prog 72 #[.pointer pd, .pointer (some ⟨f, 0, none⟩), .int .i64 1] w fun e w' => e = .returned (.tuple #[.int .i64 o.off, .int .i64 0]) ∧ w' = w := by
  have c1 := h.cell (j := 1) rfl
  clear h
  go_enter Tryz.func72, Tryz.ntmps72
  go_wp2_with fail
  go_ret2
  exact ⟨rfl, rfl⟩
theorem start_bad (pd pf : Option Addr) (k : Int) (w : World) (h0 : k ≠ 0) (h1 : k ≠ 1) (h2 : k ≠ 2) : Calls Tryz.prog 72 #[.pointer pd, .pointer pf, .int .i64 k] w fun e w' => e = .returned (.tuple #[.int .i64 0, .int .i64 2]) ∧ w' = w := by
  have e0 : (k == 0) = false := by simpa using h0
  have e1 : (k == 1) = false := by simpa using h1
  have e2 : (k == 2) = false := by simpa using h2
  clear h0 h1 h2
  go_enter Tryz.func72, Tryz.ntmps72
  go_wp2_with fail
  go_ret2
  exact ⟨rfl, rfl⟩
end DC
namespace DC
def Nay (w : World) (pd : Option Addr) (p q need c : Int) : Prop := c ≠ 0 ∧ Calls Tryz.prog 70 #[.pointer pd, .int .i64 p, .int .i64 q, .int .i64 need] w fun e w' => e = .returned (.tuple #[.pointer none, .int .i64 c]) ∧ w' = w
theorem Close_nay (pd : Option Addr) (p q c : Int) (w : World) (h : Nay w pd p q 0 c) : Calls Tryz.prog 31 #[.pointer pd, .int .i64 p, .int .i64 q] w fun e w' => e = .returned (.int .i64 c) ∧ w' = w := by
  have hne : (c != 0) = true := by simpa using h.1
  have cF := W_hid h.2
  clear h
  go_enter Tryz.func31, Tryz.ntmps31
  go_wp2_with fail
  refine cF.out.mono ?_
  rintro e w1 ⟨rfl, rfl⟩
  go_wp2_with fail
  go_ret
  exact ⟨rfl, rfl⟩
theorem Dup_nay (pd : Option Addr) (p q c : Int) (w : World) (h : Nay w pd p q 0 c) : Calls Tryz.prog 32 #[.pointer pd, .int .i64 p, .int .i64 q] w fun e w' => e = .returned (.tuple #[.int .i64 0, .int .i64 c]) ∧ w' = w := by
  have hne : (c != 0) = true := by simpa using h.1
  have cF := W_hid h.2
  clear h
  go_enter Tryz.func32, Tryz.ntmps32
  go_wp2_with fail
  refine cF.out.mono ?_
  rintro e w1 ⟨rfl, rfl⟩
  go_wp2_with fail
  go_ret2
  exact ⟨rfl, rfl⟩
theorem Read_nay (pd : Option Addr) (p q c : Int) (n : Int) (w : World) (h : Nay w pd p q 1 c) : Calls Tryz.prog 30 #[.pointer pd, .int .i64 p, .int .i64 q, .int .i64 n] w fun e w' => e = .returned (.tuple #[.string ByteArray.empty, .int .i64 c]) ∧ w' = w := by
  have hne : (c != 0) = true := by simpa using h.1
  have cF := W_hid h.2
  clear h
  go_enter Tryz.func30, Tryz.ntmps30
  go_wp2_with fail
  refine cF.out.mono ?_
  rintro e w1 ⟨rfl, rfl⟩
  go_wp2_with fail
  go_ret2
  exact ⟨rfl, rfl⟩
theorem Write_nay (pd : Option Addr) (p q c : Int) (s : ByteArray) (w : World) (h : Nay w pd p q 2 c) : Calls Tryz.prog 27 #[.pointer pd, .int .i64 p, .int .i64 q, .string s] w fun e w' => e = .returned (.tuple #[.int .i64 0, .int .i64 c]) ∧ w' = w := by
  have hne : (c != 0) = true := by simpa using h.1
  have cF := W_hid h.2
  clear h
  go_enter Tryz.func27, Tryz.ntmps27
  go_wp2_with fail
  refine cF.out.mono ?_
  rintro e w1 ⟨rfl, rfl⟩
  go_wp2_with fail
  go_ret2
  exact ⟨rfl, rfl⟩
theorem Seek_nay (pd : Option Addr) (p q c : Int) (n k : Int) (w : World) (h : Nay w pd p q 0 c) : Calls Tryz.prog 29 #[.pointer pd, .int .i64 p, .int .i64 q, .int .i64 n, .int .i64 k] w fun e w' => e = .returned (.tuple #[.int .i64 0, .int .i64 c]) ∧ w' = w := by
  have hne : (c != 0) = true := by simpa using h.1
  have cF := W_hid h.2
  clear h
  go_enter Tryz.func29, Tryz.ntmps29
  go_wp2_with fail
  refine cF.out.mono ?_
  rintro e w1 ⟨rfl, rfl⟩
  go_wp2_with fail
  go_ret2
  exact ⟨rfl, rfl⟩
end DC
namespace DC
open IS (I64 upd)
open IN (Keeps lt_of_some)
open NT (er)
def fileR (P : Ps) (O : Ou) (pid fd need : Int) : Except Int Nat := match lk P pid with
  | none => .error 19
  | some L => match getL L fd with
    | none => .error 16
    | some k => match O k with
      | none => .error 16
      | some o => if (bits .and .i64 o.flags need == need) = true then .ok k else .error 16
theorem getL_some {L : Ls} {fd : Int} {k : Nat} (h : getL L fd = some k) : ∃ j : Nat, fd = j ∧ L[j]? = some (some k) := by
  unfold getL at h
  split at h
  · rename_i h0
    refine ⟨fd.toNat, by omega, ?_⟩
    cases e : L[fd.toNat]? with
    | none => rw [e] at h; cases h
    | some x => rw [e] at h; simpa using h
  · cases h
theorem fileR_ok {P : Ps} {O : Ou} {pid fd need : Int} {k : Nat} (h : fileR P O pid fd need = .ok k) : ∃ L o, ∃ j : Nat, lk P pid = some L ∧ fd = j ∧ getL L fd = some k ∧ L[j]? = some (some k) ∧ O k = some o ∧ (bits .and .i64 o.flags need == need) = true := by
  unfold fileR at h
  cases e1 : lk P pid with
  | none => rw [e1] at h; cases h
  | some L =>
    rw [e1] at h
    simp only at h
    cases e2 : getL L fd with
    | none => rw [e2] at h; cases h
    | some k' =>
      rw [e2] at h
      simp only at h
      cases e3 : O k' with
      | none => rw [e3] at h; cases h
      | some o =>
        rw [e3] at h
        simp only at h
        split at h
        · rename_i h4
          cases h
          obtain ⟨j, hj, hL⟩ := getL_some e2
          exact ⟨L, o, j, rfl, hj, e2, hL, e3, h4⟩
        · cases h
theorem fileR_ne {P : Ps} {O : Ou} {pid fd need c : Int} (h : fileR P O pid fd need = .error c) : c ≠ 0 := by
  unfold fileR at h
  split at h
  · cases h; decide
  · split at h
    · cases h; decide
    · split at h
      · cases h; decide
      · split at h
        · cases h
        · cases h; decide
section
variable {K : Cn} {q : Nat} {A : Am} {S : Sm} {D : NT.Ds} {M : Int → Option Nat} {β : Nat → Nat} {P : Ps} {O : Ou} {R : Ls} {w w' : World} {n : Nat}
theorem DM.file_err (h : DM K q A S D M β P O R w) (hm : MB w K.b q M) {pid fd need c : Int} (hp : I64 pid) (he : fileR P O pid fd need = .error c) : Nay w (some ⟨K.g, 0, none⟩) pid fd need c := by
  refine ⟨fileR_ne he, ?_⟩
  unfold fileR at he
  cases e1 : lk P pid with
  | none =>
    rw [e1] at he
    cases he
    exact file_srch pid fd need w h.dp.tb hm hp ((h.dp.fp.dom pid).2 e1)
  | some L =>
    rw [e1] at he
    simp only at he
    obtain ⟨g, hM, hpr, -⟩ := h.dp.fp.hasP e1
    have hl := h.di.lks e1
    have hg := getL_pad (β := β) hl.1 h.cap.2.1 fd
    cases e2 : getL L fd with
    | none =>
      rw [e2] at he hg
      cases he
      exact file_none pid fd need g _ w h.dp.tb hm hp hM hpr hg
    | some k =>
      rw [e2] at he hg
      simp only at he
      obtain ⟨j, hj, hL⟩ := getL_some e2
      obtain ⟨o, ho⟩ := h.di.has e1 hL
      rw [ho] at he
      simp only at he
      have := file_some pid fd need g (β k) _ o w h.dp.tb hm hp hM hpr hg (h.dp.fp.fb k o ho)
      split at he
      · cases he
      · rename_i hb
        cases he
        rw [if_neg hb] at this
        exact this
theorem DM.file_ok (h : DM K q A S D M β P O R w) (hm : MB w K.b q M) {pid fd need : Int} {k : Nat} (hp : I64 pid) (he : fileR P O pid fd need = .ok k) : Calls Tryz.prog 70 #[.pointer (some ⟨K.g, 0, none⟩), .int .i64 pid, .int .i64 fd, .int .i64 need] w fun e w' => e = .returned (.tuple #[.pointer (some ⟨β k, 0, none⟩), .int .i64 0]) ∧ w' = w := by
  obtain ⟨L, o, j, h1, h2, h3, h4, h5, h6⟩ := fileR_ok he
  obtain ⟨g, hM, hpr, -⟩ := h.dp.fp.hasP h1
  have hl := h.di.lks h1
  have hg := getL_pad (β := β) hl.1 h.cap.2.1 fd
  rw [h3] at hg
  have := file_some pid fd need g (β k) _ o w h.dp.tb hm hp hM hpr hg (h.dp.fp.fb k o h5)
  rw [if_pos h6] at this
  exact this
def DQ (K : Cn) (q : Nat) (A : Am) (S : Sm) (D : NT.Ds) (P : Ps) (O : Ou) (w w' : World) : Prop := (∃ A', DW K (q + 2) A' S D P O w') ∧ Keeps K.base (UT K A) w w'
theorem DQ.same (h : DW K q A S D P O w) (hq : q < 59998) (hb : Below w.heap.size w w') : DQ K q A S D P O w w' := by
  have h1 := (h.keep hb).more (q' := q + 2) (by omega) (by omega)
  obtain ⟨M, β, h2, h3⟩ := h
  exact ⟨⟨A, h1⟩, Keeps.new hb h3.low⟩
def clsR (S : Sm) (P : Ps) (O : Ou) (pid fd : Int) : Int × Sm × Ps × Ou := match fileR P O pid fd 0 with
  | .error c => (c, S, P, O)
  | .ok k => (0, relS S O k, setP P pid (((lk P pid).getD []).set fd.toNat none), relO O k)
theorem DP.slot (h : DP K q A S D M β P O w) {p : Int} {g : Nat} {L : Ls} (hM : M p = some g) (hl : lk P p = some L) (hf : L.length = K.files) {j : Nat} (hj : j < K.files) (x : Option Nat) (u : Value) (hu : u = pv (x.map β)) : DP K q A S D M β (setP P p (L.set j x)) O (w.setCell ⟨g, j, none⟩ u) := by
  have hg := h.fp.pr p g L hM hl
  exact ⟨TW_set h.tw hg.2 (.inr (.inl rfl)), h.far, Blk.far h.tb (p := ⟨g, j, none⟩) (IN.blk_ne h.tb.blk hg.2 (by decide)) _, h.fp.setSlot hM hl hf hj x u hu, h.ge⟩
theorem MB_slot {b : Nat} (h : MB w b n M) {g j : Nat} {L : Ls} (hg : PR w g L) (u : Value) : MB (w.setCell ⟨g, j, none⟩ u) b n M :=
  h.far (p := ⟨g, j, none⟩) (fun e => by
    obtain ⟨es, c, ho⟩ := h.obj
    have e' : b = g := e
    subst e'
    have := hg.2
    unfold Blk at this
    rw [this] at ho
    cases ho) u
theorem MB_file {b : Nat} (h : MB w b n M) {g j : Nat} {o : Of} (hg : FB w g o) (u : Value) : MB (w.setCell ⟨g, j, none⟩ u) b n M :=
  h.far (p := ⟨g, j, none⟩) (fun e => by
    obtain ⟨es, c, ho⟩ := h.obj
    have e' : b = g := e
    subst e'
    unfold FB Blk at hg
    rw [hg] at ho
    cases ho) u
theorem Close_all (pid fd : Int) (w : World) (h : DW K q A S D P O w) (hp : I64 pid) (hq : q < 59998) :
    Calls Tryz.prog 31 #[.pointer (some ⟨K.g, 0, none⟩), .int .i64 pid, .int .i64 fd] w fun e w' => e = .returned (.int .i64 (clsR S P O pid fd).1) ∧ DQ K q A (clsR S P O pid fd).2.1 D (clsR S P O pid fd).2.2.1 (clsR S P O pid fd).2.2.2 w w' := by
  have h0 := h
  obtain ⟨M, β, hm, hd⟩ := h
  unfold clsR
  cases e : fileR P O pid fd 0 with
  | error c =>
    refine (Close_nay _ pid fd c w (hd.file_err hm hp e)).mono ?_
    rintro e w' ⟨rfl, rfl⟩
    exact ⟨rfl, DQ.same h0 hq (Below.refl _ _)⟩
  | ok k =>
    have cF := W_hid (hd.file_ok hm hp e)
    obtain ⟨L, o, j, h1, rfl, h3, h4, h5, h6⟩ := fileR_ok e
    obtain ⟨g, hM, hpr, hgb⟩ := hd.dp.fp.hasP h1
    have hl := hd.di.lks h1
    have hj : j < L.length := (List.getElem?_eq_some_iff.mp h4).1
    have hcap := hd.cap
    simp only [h1, Option.getD_some, Int.toNat_natCast]
    have hd1 : DM K q A S D M β (setP P pid (L.set j none)) O [some k] (w.setCell ⟨g, j, none⟩ (.pointer none)) :=
      ⟨hd.dp.slot hM h1 hl.1 (by omega) none _ rfl, hd.di.take h1 h4, by rw [set_len]; simp only [List.length_cons, List.length_nil] at hcap ⊢; omega⟩
    have hm1 := W_hid (MB_slot hm hpr (j := j) (.pointer none))
    have cR := W_hid (release_any k o _ hd1 h5)
    have hK1 := W_hid (UT_slot (K := K) (A := A) (j := j) (u := .pointer none) hpr hgb)
    have c2 := hd.dp.tb.cell (j := 2) rfl
    have hlk := hm.look pid hp
    rw [hM] at hlk
    unfold IS.ptr at hlk
    have cs := hpr.at_ (by rw [pad_at hl.1 j (by omega), h4]; rfl)
    have cs2 : w.cell? ⟨g, j, none⟩ = some (.pointer (some ⟨β k, 0, none⟩)) := cs
    have fz := hpr.2.fz
    have hdp1 := W_hid hd1.dp
    have h64 : j < 64 := by omega
    have hq2 : q + 2 < 60000 := by omega
    clear h0 hm hd h1 h3 h4 h5 h6 hM hpr hl hj hcap hd1 cs hgb e
    go_enter Tryz.func31, Tryz.ntmps31
    go_wp2_with fail
    refine cF.out.mono ?_
    rintro e w1 ⟨rfl, rfl⟩
    go_wp2_with fail
    refine cR.out.mono ?_
    rintro e w2 ⟨rfl, hd2, k2⟩
    have hfin := W_hid (show DQ K q A (relS S O k) D (setP P pid (L.set j none)) (relO O k) _ w2 from ⟨⟨A, M, β, (hdp1.out.mbStore hm1.out k2).le (by omega), hd2.more (by omega) hq2⟩, hK1.out.trans (UT_w A k2)⟩)
    clear hd2 k2
    go_wp2_with fail
    go_ret
    exact ⟨rfl, hfin.out⟩
end
end DC
namespace DC
open IS (I64 upd)
open IN (Keeps lt_of_some)
section
variable {K : Cn} {q : Nat} {A : Am} {S : Sm} {D : NT.Ds} {M : Int → Option Nat} {β : Nat → Nat} {P : Ps} {O : Ou} {R : Ls} {w w' : World} {n : Nat}
theorem cntO_turn {O : Ou} {k : Nat} {o o' : Of} (ho : O k = some o) (m : Nat) : cntO (updO O k (some o')) m = cntO O m := cntO_same fun j _ => by
  by_cases e : j = k
  · subst e; rw [updO_at, ho]; simp
  · rw [updO_ne e]
theorem DP.file (h : DP K q A S D M β P O w) {k : Nat} {o o' : Of} (ho : O k = some o) (j : Nat) (u : Value) (he : ([.int .i64 o.ino, .int .i64 o.off, .int .i64 o.flags, .int .i64 o.refs] : List Value).set j u = [.int .i64 o'.ino, .int .i64 o'.off, .int .i64 o'.flags, .int .i64 o'.refs]) : DP K q A S D M β P (updO O k (some o')) (w.setCell ⟨β k, j, none⟩ u) := by
  have hfb := h.fp.fb k o ho
  refine ⟨TW_set h.tw hfb (.inl rfl), h.far, ?_, h.fp.setFile ho j u he, h.ge⟩
  rw [cntO_turn ho]
  exact Blk.far h.tb (p := ⟨β k, j, none⟩) (IN.blk_ne h.tb.blk hfb.blk (by decide)) _
def dupR (f : Nat) (P : Ps) (O : Ou) (pid fd : Int) : (Int × Int) × Ps × Ou := match fileR P O pid fd 0 with
  | .error c => ((0, c), P, O)
  | .ok k => if fx ((lk P pid).getD []) < f then (((fx ((lk P pid).getD []) : Nat), 0), setP P pid (((lk P pid).getD []).set (fx ((lk P pid).getD [])) (some k)), updO O k ((O k).map fun o => { o with refs := o.refs + 1 })) else ((0, 22), P, O)
theorem Dup_all (pid fd : Int) (w : World) (h : DW K q A S D P O w) (hp : I64 pid) (hq : q < 59998) :
    Calls Tryz.prog 32 #[.pointer (some ⟨K.g, 0, none⟩), .int .i64 pid, .int .i64 fd] w fun e w' => e = .returned (.tuple #[.int .i64 (dupR K.files P O pid fd).1.1, .int .i64 (dupR K.files P O pid fd).1.2]) ∧ DQ K q A S D (dupR K.files P O pid fd).2.1 (dupR K.files P O pid fd).2.2 w w' := by
  have h0 := h
  obtain ⟨M, β, hm, hd⟩ := h
  unfold dupR
  cases e : fileR P O pid fd 0 with
  | error c =>
    refine (Dup_nay _ pid fd c w (hd.file_err hm hp e)).mono ?_
    rintro e w' ⟨rfl, rfl⟩
    exact ⟨rfl, DQ.same h0 hq (Below.refl _ _)⟩
  | ok k =>
    have cF := W_hid (hd.file_ok hm hp e)
    obtain ⟨L, o, j, h1, rfl, h3, h4, h5, h6⟩ := fileR_ok e
    obtain ⟨g, hM, hpr, hgb⟩ := hd.dp.fp.hasP h1
    have hl := hd.di.lks h1
    have hcap := hd.cap
    have hfx := fx_pad (β := β) hl.1
    simp only [h1, Option.getD_some, h5, Option.map_some]
    have cL := lowest_any K.g K.sg K.tg K.b g K.files _ _ w hd.dp.tb hpr hcap.2.1
    unfold lowV lowE at cL
    rw [hfx] at cL
    have c2 := hd.dp.tb.cell (j := 2) rfl
    have hlk := hm.look pid hp
    rw [hM] at hlk
    unfold IS.ptr at hlk
    have hq2 : q + 2 < 60000 := by omega
    by_cases hf : fx L < K.files
    · simp only [if_pos hf] at cL ⊢
      have cL := W_hid cL
      have hno := fx_none (L := L) (by omega)
      have hrf := hd.refs_le h5
      have H := W_hid (And.intro hm hd)
      have HP := W_hid (And.intro hpr h1)
      have HM := W_hid hM
      have hne : g ≠ β k := IN.blk_ne hpr.2 (hd.dp.fp.fb k o h5).blk (by decide)
      have HNE := W_hid hne
      have hgk := W_hid (hd.dp.fp.ge.2 k (by rw [h5]; simp))
      have H5 := W_hid h5
      have HG := W_hid hgb
      have HL := W_hid hl
      have HF := W_hid hf
      have HR := W_hid hrf
      have HC := W_hid hcap
      have HNO := W_hid hno
      clear h0 hm hd h1 h3 h4 h5 h6 hM hpr hl hcap hgb e hfx hno hrf hne hf
      generalize hfd : fx L = fd2 at *
      go_enter Tryz.func32, Tryz.ntmps32
      go_wp2_with fail
      refine cF.out.mono ?_
      rintro e w1 ⟨rfl, rfl⟩
      go_wp2_with fail
      refine cL.out.mono ?_
      rintro e w2 ⟨rfl, b2⟩
      have hm2 := H.out.1.keep b2
      have hd2 := H.out.2.keep b2
      have hp2 : PR w2 g (pad K.files β L) := ⟨HP.out.1.1, HP.out.1.2.keep b2⟩
      have cP := W_hid (put_any g (β k) fd2 _ o w2 hp2 (hd2.dp.fp.fb k o H5.out) (by have := HF.out; have := HC.out; omega) HNE.out (by have := HR.out; omega))
      have hfin := W_hid (show DQ K q A S D (setP P pid (L.set fd2 (some k))) (updO O k (some { o with refs := o.refs + 1 })) _ ((w2.setCell ⟨β k, 3, none⟩ (.int .i64 (o.refs + 1))).setCell ⟨g, fd2, none⟩ (.pointer (some ⟨β k, 0, none⟩))) from by
        have p1 := hd2.dp.file H5.out 3 (.int .i64 (o.refs + 1)) (o' := { o with refs := o.refs + 1 }) rfl
        have m1 := MB_file hm2 (hd2.dp.fp.fb k o H5.out) (j := 3) (.int .i64 (o.refs + 1))
        have hp3 : PR (w2.setCell ⟨β k, 3, none⟩ (.int .i64 (o.refs + 1))) g (pad K.files β L) := ⟨hp2.1, hp2.2.far (p := ⟨β k, 3, none⟩) HNE.out _⟩
        have p2 := p1.slot HM.out HP.out.2 HL.out.1 HF.out (some k) (.pointer (some ⟨β k, 0, none⟩)) rfl
        have hc := HC.out
        exact ⟨⟨A, M, β, (MB_slot m1 hp3 (j := fd2) (.pointer (some ⟨β k, 0, none⟩))).le (by omega), p2.more (by omega), (hd2.di.more H5.out).lay HP.out.2 HNO.out, by rw [set_len]; simp only [List.length_nil]; omega⟩,
          (Keeps.new b2 H.out.2.low).trans ((UT_file (hd2.dp.fp.fb k o H5.out) hgk.out).trans (UT_slot hp3 HG.out))⟩)
      clear b2 hm2 hd2 hp2
      go_wp2_with fail
      refine cP.out.mono ?_
      rintro e w3 ⟨rfl, rfl⟩
      go_wp2_with fail
      go_ret2
      exact ⟨rfl, hfin.out⟩
    · simp only [if_neg hf] at cL ⊢
      have cL := W_hid cL
      have H0 := W_hid h0
      clear h0 hm hd h1 h3 h4 h5 h6 hM hpr hl hcap hgb e hfx hf
      go_enter Tryz.func32, Tryz.ntmps32
      go_wp2_with fail
      refine cF.out.mono ?_
      rintro e w1 ⟨rfl, rfl⟩
      go_wp2_with fail
      refine cL.out.mono ?_
      rintro e w2 ⟨rfl, b2⟩
      have B2 := W_hid b2
      clear b2
      go_wp2_with fail
      go_ret2
      exact ⟨rfl, DQ.same H0.out hq B2.out⟩
end
end DC
namespace DC
open IS (I64 upd)
open IN (Keeps lt_of_some)
section
variable {K : Cn} {q : Nat} {A : Am} {S : Sm} {D : NT.Ds} {M : Int → Option Nat} {β : Nat → Nat} {P : Ps} {O : Ou} {R : Ls} {w w' : World} {n : Nat}
theorem start_end (k : Nat) (o : Of) (x : IN.Nd) (w : World) (h : DM K q A S D M β P O R w) (ho : O k = some o) (hx : S o.ino = some x) :
    Calls Tryz.prog 72 #[.pointer (some ⟨K.g, 0, none⟩), .pointer (some ⟨β k, 0, none⟩), .int .i64 2] w fun e w' => e = .returned (.tuple #[.int .i64 x.size, .int .i64 0]) ∧ Below w.heap.size w w' := by
  have hfb := (h.dp.fp.fb k o ho).blk
  have htb := h.dp.tb.blk
  have cS : Hid (∀ W, (W.cell? ⟨K.g, 0, none⟩ = some (.pointer (some ⟨K.sg, 0, none⟩)) ∧ W.cell? ⟨β k, 0, none⟩ = some (.int .i64 o.ino) ∧ Below w.heap.size w W) → Calls Tryz.prog 39 #[.pointer (some ⟨K.sg, 0, none⟩), .int .i64 o.ino] W fun e w' => e = .returned (.tuple #[.agg #[.int .i64 o.ino, .int .i64 x.kind, .int .i64 x.links, .int .i64 x.opens, .int .i64 x.size, .int .i64 (EM.cnt x.l : Int)], .int .i64 0]) ∧ (w'.cell? ⟨K.g, 0, none⟩ = some (.pointer (some ⟨K.sg, 0, none⟩)) ∧ w'.cell? ⟨β k, 0, none⟩ = some (.int .i64 o.ino) ∧ Below w.heap.size w w') ∧ Below W.heap.size W w') := W_hid fun W ⟨_, _, hW⟩ => by
    obtain ⟨M1, hps⟩ := (h.keep hW).dp.tw.ps
    have := IN.Stat_any o.ino W hps (h.ino_i64 ho)
    unfold IN.stV IN.opR IN.askR at this
    rw [hx] at this
    refine this.mono ?_
    rintro e w' ⟨rfl, hb⟩
    have hb' := hW.trans (hb.mono hW.size)
    exact ⟨rfl, ⟨(htb.keep hb').cell (j := 0) rfl, (hfb.keep hb').cell (j := 0) rfl, hb'⟩, hb⟩
  have z0 : Hid (∀ w3, Below (w.alloc (.cells #[.int .i64 0, .int .i64 0, .int .i64 0, .int .i64 0, .int .i64 0, .int .i64 0] 65)).drew.heap.size (w.alloc (.cells #[.int .i64 0, .int .i64 0, .int .i64 0, .int .i64 0, .int .i64 0, .int .i64 0] 65)).drew w3 → Blk w3 w.heap.size 65 IN.zl) := W_hid fun w3 hb => (show Blk (w.alloc (.cells #[.int .i64 0, .int .i64 0, .int .i64 0, .int .i64 0, .int .i64 0, .int .i64 0] 65)).drew w.heap.size 65 IN.zl from Blk.new w 65 IN.zl rfl).keep hb
  have t0 := htb.cell (j := 0) rfl
  have o0 := hfb.cell (j := 0) rfl
  have hg1 := htb.lt
  have hg2 := hfb.lt
  have n1 : ¬ K.g = w.heap.size := by omega
  have n2 : ¬ β k = w.heap.size := by omega
  have n3 : ¬ w.heap.size = K.g := by omega
  have n4 : ¬ w.heap.size = β k := by omega
  have hS : Hid (∀ W, Below w.heap.size w W → (W.cell? ⟨K.g, 0, none⟩ = some (.pointer (some ⟨K.sg, 0, none⟩)) ∧ W.cell? ⟨β k, 0, none⟩ = some (.int .i64 o.ino) ∧ Below w.heap.size w W)) := W_hid fun W hb' => ⟨(htb.keep hb').cell (j := 0) rfl, (hfb.keep hb').cell (j := 0) rfl, hb'⟩
  have hA : Hid (∀ W O, (W.cell? ⟨K.g, 0, none⟩ = some (.pointer (some ⟨K.sg, 0, none⟩)) ∧ W.cell? ⟨β k, 0, none⟩ = some (.int .i64 o.ino) ∧ Below w.heap.size w W) → ((W.alloc O).cell? ⟨K.g, 0, none⟩ = some (.pointer (some ⟨K.sg, 0, none⟩)) ∧ (W.alloc O).cell? ⟨β k, 0, none⟩ = some (.int .i64 o.ino) ∧ Below w.heap.size w (W.alloc O))) := W_hid fun W O hh => hS.out _ (hh.2.2.alloc hh.2.2.size _)
  have hT : Hid (∀ W (a b c d e f : Int), (W.cell? ⟨K.g, 0, none⟩ = some (.pointer (some ⟨K.sg, 0, none⟩)) ∧ W.cell? ⟨β k, 0, none⟩ = some (.int .i64 o.ino) ∧ Below w.heap.size w W) → (((((((W.setCell ⟨w.heap.size, 0, none⟩ (.int .i64 a)).setCell ⟨w.heap.size, 1, none⟩ (.int .i64 b)).setCell ⟨w.heap.size, 2, none⟩ (.int .i64 c)).setCell ⟨w.heap.size, 3, none⟩ (.int .i64 d)).setCell ⟨w.heap.size, 4, none⟩ (.int .i64 e)).setCell ⟨w.heap.size, 5, none⟩ (.int .i64 f)).cell? ⟨K.g, 0, none⟩ = some (.pointer (some ⟨K.sg, 0, none⟩)) ∧ ((((((W.setCell ⟨w.heap.size, 0, none⟩ (.int .i64 a)).setCell ⟨w.heap.size, 1, none⟩ (.int .i64 b)).setCell ⟨w.heap.size, 2, none⟩ (.int .i64 c)).setCell ⟨w.heap.size, 3, none⟩ (.int .i64 d)).setCell ⟨w.heap.size, 4, none⟩ (.int .i64 e)).setCell ⟨w.heap.size, 5, none⟩ (.int .i64 f)).cell? ⟨β k, 0, none⟩ = some (.int .i64 o.ino) ∧ Below w.heap.size w ((((((W.setCell ⟨w.heap.size, 0, none⟩ (.int .i64 a)).setCell ⟨w.heap.size, 1, none⟩ (.int .i64 b)).setCell ⟨w.heap.size, 2, none⟩ (.int .i64 c)).setCell ⟨w.heap.size, 3, none⟩ (.int .i64 d)).setCell ⟨w.heap.size, 4, none⟩ (.int .i64 e)).setCell ⟨w.heap.size, 5, none⟩ (.int .i64 f)))) := W_hid fun W a b c d e f hh => hS.out _ (IN.six_below hh.2.2 (Nat.le_refl _) a b c d e f)
  have hD : Hid (∀ W, (W.cell? ⟨K.g, 0, none⟩ = some (.pointer (some ⟨K.sg, 0, none⟩)) ∧ W.cell? ⟨β k, 0, none⟩ = some (.int .i64 o.ino) ∧ Below w.heap.size w W) → Below w.heap.size w W) := W_hid fun W hh => hh.2.2
  have sA := W_hid (hS.out _ (Below.refl w.heap.size w).drew)
  have sB := W_hid (hS.out _ ((Below.refl w.heap.size w).alloc (Nat.le_refl _) (.cells #[.int .i64 0, .int .i64 0, .int .i64 0, .int .i64 0, .int .i64 0, .int .i64 0] 65)).drew)
  clear h ho hx hfb htb hg1 hg2
  go_enter Tryz.func72, Tryz.ntmps72
  go_wp2_with fail
  go_region_held3 (fun w' => w'.cell? ⟨K.g, 0, none⟩ = some (.pointer (some ⟨K.sg, 0, none⟩)) ∧ w'.cell? ⟨β k, 0, none⟩ = some (.int .i64 o.ino) ∧ Below w.heap.size w w') (with_reducible (first | exact sA.out | exact sB.out | assumption | exact hA.out _ _ (by assumption) | exact hT.out _ _ _ _ _ _ _ (by assumption)))
    (first
      | (go_at_call 39; refine (cS.out _ (by with_reducible (first | exact sA.out | exact sB.out | assumption))).mono ?_; rintro e w3 ⟨rfl, S3, hZ⟩
         try (with_reducible (have hz := z0.out _ hZ; have r0 := hz.cell (j := 0) rfl; have r1 := hz.cell (j := 1) rfl; have r2 := hz.cell (j := 2) rfl; have r3 := hz.cell (j := 3) rfl; have r4 := hz.cell (j := 4) rfl; have r5 := hz.cell (j := 5) rfl; have fz := hz.fz))
         clear hZ))
  all_goals
    go_wp2_with fail
    go_ret2
    exact ⟨rfl, hD.out _ (by with_reducible assumption)⟩
end
end DC
namespace DC
open IS (I64 upd)
open IN (Keeps lt_of_some)
section
variable {K : Cn} {q : Nat} {A : Am} {S : Sm} {D : NT.Ds} {M : Int → Option Nat} {β : Nat → Nat} {P : Ps} {O : Ou} {R : Ls} {w w' : World} {n : Nat}
structure Op (K : Cn) (q : Nat) (S : Sm) (O : Ou) (β : Nat → Nat) (k : Nat) (o : Of) (x : IN.Nd) (w : World) : Prop where
  at_ : O k = some o
  nd : S o.ino = some x
  kind : x.kind = 1
  ino : I64 o.ino
  off : 0 ≤ o.off ∧ o.off ≤ 1048576
  fl : flg o.flags = true
  good : IN.Good K.L q x
  fb : Blk w (β k) 135 [.int .i64 o.ino, .int .i64 o.off, .int .i64 o.flags, .int .i64 o.refs]
  ge : K.base ≤ β k
theorem DM.op (h : DM K q A S D M β P O R w) {pid fd need : Int} {k : Nat} (he : fileR P O pid fd need = .ok k) : ∃ o x, Op K q S O β k o x w := by
  obtain ⟨L, o, j, h1, h2, h3, h4, h5, h6⟩ := fileR_ok he
  obtain ⟨x, hx, hk⟩ := h.di.ino k o h5
  obtain ⟨M1, hps⟩ := h.dp.tw.ps
  have hf := h.di.off k o h5
  exact ⟨o, x, h5, hx, hk, h.ino_i64 h5, ⟨hf.1, hf.2.1⟩, hf.2.2, hps.fn.good _ x hx, (h.dp.fp.fb k o h5).blk, h.dp.fp.ge.2 k (by rw [h5]; simp)⟩
theorem DW_seek (hm : MB w K.b q M) (h : DM K q A S D M β P O [] w) (hq : q < 59998) {k : Nat} {o : Of} (ho : O k = some o) {v : Int} (hv : 0 ≤ v ∧ v ≤ 1048576) : DQ K q A S D P (updO O k (some { o with off := v })) w (w.setCell ⟨β k, 1, none⟩ (.int .i64 v)) := by
  have hfb := h.dp.fp.fb k o ho
  have hc := h.cap
  exact ⟨⟨A, M, β, (MB_file hm hfb (j := 1) (.int .i64 v)).le (by omega), (h.dp.file ho 1 (.int .i64 v) (o' := { o with off := v }) rfl).more (by omega), h.di.seek ho hv, by omega⟩, UT_file hfb (h.dp.fp.ge.2 k (by rw [ho]; simp))⟩
theorem DQ.ahead {S' : Sm} {D' : NT.Ds} {P' : Ps} {O' : Ou} {w2 : World} (hb : Below w.heap.size w w') (hl : K.base ≤ w.heap.size) (h : DQ K q A S' D' P' O' w' w2) : DQ K q A S' D' P' O' w w2 := ⟨h.1, (Keeps.new hb hl).trans h.2⟩
def rdR (S : Sm) (P : Ps) (O : Ou) (pid fd n : Int) : (ByteArray × Int) × Ou := match fileR P O pid fd 1 with
  | .error c => ((ByteArray.empty, c), O)
  | .ok k => match O k with
    | none => ((ByteArray.empty, 0), O)
    | some o => match S o.ino with
      | none => ((ByteArray.empty, 0), O)
      | some x => if rdE x.l x.size o.off n = 0 then ((strOf (rdV x.l x.size o.off n), 0), updO O k (some { o with off := o.off + (strOf (rdV x.l x.size o.off n)).size })) else ((ByteArray.empty, rdE x.l x.size o.off n), O)
theorem rd_bound {l : List (Int × ByteArray)} {s f n : Int} (hs : s ≤ 1048576) (hf : 0 ≤ f ∧ f ≤ 1048576) : 0 ≤ f + ((strOf (rdV l s f n)).size : Int) ∧ f + ((strOf (rdV l s f n)).size : Int) ≤ 1048576 := by
  rw [strOf_size]
  unfold rdV
  split
  · rw [EM.rd_length]
    omega
  · simp
    omega
theorem Read_all (pid fd n : Int) (w : World) (h : DW K q A S D P O w) (hp : I64 pid) (hn : I64 n) (hq : q < 59998) :
    Calls Tryz.prog 30 #[.pointer (some ⟨K.g, 0, none⟩), .int .i64 pid, .int .i64 fd, .int .i64 n] w fun e w' => e = .returned (.tuple #[.string (rdR S P O pid fd n).1.1, .int .i64 (rdR S P O pid fd n).1.2]) ∧ DQ K q A S D P (rdR S P O pid fd n).2 w w' := by
  have h0 := h
  obtain ⟨M, β, hm, hd⟩ := h
  unfold rdR
  cases e : fileR P O pid fd 1 with
  | error c =>
    refine (Read_nay _ pid fd c n w (hd.file_err hm hp e)).mono ?_
    rintro e w' ⟨rfl, rfl⟩
    exact ⟨rfl, DQ.same h0 hq (Below.refl _ _)⟩
  | ok k =>
    have cF := W_hid (hd.file_ok hm hp e)
    obtain ⟨o, x, ho⟩ := hd.op e
    simp only [ho.at_, ho.nd]
    have htb := hd.dp.tb.blk
    have t0 := htb.cell (j := 0) rfl
    have o0 := ho.fb.cell (j := 0) rfl
    have o1 := ho.fb.cell (j := 1) rfl
    obtain ⟨M1, hps⟩ := hd.drew1.dp.tw.ps
    have cR := IN.Read_yes o.ino o.off n x w.drew hps ho.ino ⟨by have := ho.off; omega, by have := ho.off; omega⟩ hn ho.nd ho.kind
    have hbd := rd_bound (l := x.l) (n := n) (s := x.size) ho.good.size.2 ho.off
    have hno : rdE x.l x.size o.off n ≠ 0 → strOf (rdV x.l x.size o.off n) = ByteArray.empty := fun hh => by
      unfold rdV
      rw [if_neg hh]
      rfl
    have hszb : (strOf (rdV x.l x.size o.off n)).size ≤ 1048576 := by have := ho.off; omega
    generalize rdE x.l x.size o.off n = E at *
    generalize strOf (rdV x.l x.size o.off n) = s at *
    have hS : Hid (∀ W, Below w.heap.size w W → (W.cell? ⟨K.g, 0, none⟩ = some (.pointer (some ⟨K.sg, 0, none⟩)) ∧ W.cell? ⟨β k, 0, none⟩ = some (.int .i64 o.ino) ∧ W.cell? ⟨β k, 1, none⟩ = some (.int .i64 o.off) ∧ Below w.heap.size w W)) := W_hid fun W hb' => ⟨(htb.keep hb').cell (j := 0) rfl, (ho.fb.keep hb').cell (j := 0) rfl, (ho.fb.keep hb').cell (j := 1) rfl, hb'⟩
    have sA := W_hid (hS.out _ (Below.refl w.heap.size w).drew)
    have cR2 : Hid (Calls Tryz.prog 79 #[.pointer (some ⟨K.sg, 0, none⟩), .int .i64 o.ino, .int .i64 o.off, .int .i64 n] w.drew fun e w' => e = .returned (.tuple #[.string s, .int .i64 E]) ∧ (w'.cell? ⟨K.g, 0, none⟩ = some (.pointer (some ⟨K.sg, 0, none⟩)) ∧ w'.cell? ⟨β k, 0, none⟩ = some (.int .i64 o.ino) ∧ w'.cell? ⟨β k, 1, none⟩ = some (.int .i64 o.off) ∧ Below w.heap.size w w')) := W_hid (cR.mono (by
      rintro e w' ⟨rfl, hb⟩
      exact ⟨rfl, hS.out _ (bundrew hb)⟩))
    have hbel : Hid (∀ W, (W.cell? ⟨K.g, 0, none⟩ = some (.pointer (some ⟨K.sg, 0, none⟩)) ∧ W.cell? ⟨β k, 0, none⟩ = some (.int .i64 o.ino) ∧ W.cell? ⟨β k, 1, none⟩ = some (.int .i64 o.off) ∧ Below w.heap.size w W) → Below w.heap.size w W) := W_hid fun W hh => hh.2.2.2
    have hfz : Hid (∀ W, Below w.heap.size w W → ∀ i, W.frozen? ⟨β k, i, none⟩ = false) := W_hid fun W hb => (ho.fb.keep hb).fz
    have H := W_hid (And.intro hm hd)
    have HO := W_hid ho.at_
    have H0 := W_hid h0
    have hoff := ho.off
    have HB := W_hid hbd
    have hw : IntKind.i64.wrap (o.off + (s.size : Int)) = o.off + (s.size : Int) := by rw [IntKind.wrap_i64]; omega
    clear h0 hm hd ho htb hps cR hbd e
    by_cases hE : E = 0
    · subst hE
      rw [if_pos rfl]
      clear hno
      go_enter Tryz.func30, Tryz.ntmps30
      go_wp2_with fail
      refine cF.out.mono ?_
      rintro e w1 ⟨rfl, rfl⟩
      go_wp2_with fail
      go_region_held3 (fun w' => w'.cell? ⟨K.g, 0, none⟩ = some (.pointer (some ⟨K.sg, 0, none⟩)) ∧ w'.cell? ⟨β k, 0, none⟩ = some (.int .i64 o.ino) ∧ w'.cell? ⟨β k, 1, none⟩ = some (.int .i64 o.off) ∧ Below w1.heap.size w1 w') (with_reducible (first | exact sA.out | assumption))
        (first
          | (go_at_call 79; refine cR2.out.mono ?_; rintro e w3 ⟨rfl, S3⟩))
      all_goals
        have b3 := hbel.out w3 (by with_reducible assumption)
        have fz := hfz.out w3 b3
        have hfin := W_hid (DQ.ahead b3 H.out.2.low (DW_seek (H.out.1.keep b3) (H.out.2.keep b3) hq HO.out HB.out))
        clear b3
        go_wp2_with fail
        go_ret2
        exact ⟨rfl, hfin.out⟩
    · rw [if_neg hE]
      have hs := hno hE
      subst hs
      have hne : (E != 0) = true := by simpa using hE
      clear hno hE
      go_enter Tryz.func30, Tryz.ntmps30
      go_wp2_with fail
      refine cF.out.mono ?_
      rintro e w1 ⟨rfl, rfl⟩
      go_wp2_with fail
      go_region_held3 (fun w' => w'.cell? ⟨K.g, 0, none⟩ = some (.pointer (some ⟨K.sg, 0, none⟩)) ∧ w'.cell? ⟨β k, 0, none⟩ = some (.int .i64 o.ino) ∧ w'.cell? ⟨β k, 1, none⟩ = some (.int .i64 o.off) ∧ Below w1.heap.size w1 w') (with_reducible (first | exact sA.out | assumption))
        (first
          | (go_at_call 79; refine cR2.out.mono ?_; rintro e w3 ⟨rfl, S3⟩))
      all_goals
        have b3 := W_hid (hbel.out w3 (by with_reducible assumption))
        go_wp2_with fail
        go_ret2
        exact ⟨rfl, DQ.same H0.out hq b3.out⟩
end
end DC
end Go.Proofs.YtfhidjkhmjdioaaGreat

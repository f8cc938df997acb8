/- What DescStays goes through, plain. -/
import Derived.Test.YtfhidjkhmjdioaaGreatZT07
import Derived.Test.YtfhidjkhmjdioaaGreatZT04
import Derived.Test.YtfhidjkhmjdioaaGreatZT03
import Derived.Test.YtfhidjkhmjdioaaGreatZT02
import Derived.ShutString
import Derived.ChangeOld

namespace Go.Proofs.YtfhidjkhmjdioaaGreat
open Go.ChangeShapes Go.WideShapes Go.ChangeAt Go.RowKit Go.Maps
set_option linter.unusedVariables false
set_option linter.unusedSimpArgs false
set_option maxRecDepth 100000
set_option maxHeartbeats 4000000
namespace DC
open IS (I64 upd)
open IN (Keeps lt_of_some cap7)
section
variable {K : Cn} {q : Nat} {A : Am} {S : Sm} {D : NT.Ds} {M : Int → Option Nat} {β : Nat → Nat} {P : Ps} {O : Ou} {R : Ls} {w w' : World} {n : Nat}
theorem results_tmp4 {fn : Func} {t u v x : Tmp} (h : fn.results = #[.tmp t, .tmp u, .tmp v, .tmp x]) (tmps : Array Value) (P : Program) (w : World) :
    (results fn tmps).run P w = .ok (.tuple #[tmps.getD t undef, tmps.getD u undef, tmps.getD v undef, tmps.getD x undef]) w := by
  simp [results, h]
def vacP (P : Ps) (pid : Int) : Int := if pid < 1 then 2 else if lk P pid = none then 0 else 12
theorem vac_same (h : FP K.base w K.files β M P O) (pid : Int) : vacR M pid = vacP P pid := by
  unfold vacR vacP
  split
  · rfl
  · have := h.dom pid
    by_cases e : M pid = none
    · rw [if_pos e, if_pos (this.1 e)]
    · rw [if_neg e, if_neg fun e' => e (this.2 e')]
def addR (f : Nat) (P : Ps) (pid : Int) : Int × Ps := if vacP P pid = 0 then (0, insP pid (List.replicate f none) P) else (vacP P pid, P)
theorem repR (n : Nat) (k : Nat) (R : Ls) : cntL k (List.replicate n none ++ R) = cntL k R := by rw [cntL_app, cntL_rep, Nat.zero_add]
theorem Add_all (pid : Int) (w : World) (h : DW K q A S D P O w) (hp : I64 pid) (hq : q < 59998) :
    Calls Tryz.prog 17 #[.pointer (some ⟨K.g, 0, none⟩), .int .i64 pid] w fun e w' => e = .returned (.int .i64 (addR K.files P pid).1) ∧ DQ K q A S D (addR K.files P pid).2 O w w' := by
  have h0 := h
  obtain ⟨M, β, hm, hd⟩ := h
  have hv := vac_same hd.dp.fp pid
  have hcap := hd.cap
  unfold addR
  by_cases h1 : vacP P pid = 0
  · rw [if_pos h1]
    have hlk : 1 ≤ pid ∧ lk P pid = none := by
      unfold vacP at h1
      split at h1
      · cases h1
      · split at h1
        · rename_i a b; exact ⟨by omega, b⟩
        · cases h1
    refine (Add_yes pid w hd.dp.tb hm hp (hv.trans h1) (by have : (60000 : Nat) < maxLen := by decide
                                                           omega)).mono ?_
    rintro e w' ⟨rfl, g, hg, hpr, hmb, htwo⟩
    have hbl := hm.lt
    have hK : Keeps K.base (UT K A) w w' := by
      obtain ⟨es, c, ho⟩ := hm.obj
      exact ⟨htwo.os, htwo.tape, htwo.output, htwo.size, fun k hk => htwo.block k (by have := hd.low; omega) (by have := hd.dp.ge.2; omega) (by have := hd.dp.ge.2; omega), fun k o hk hT => by
        have hkb : k ≠ K.b := fun e => hT (by rw [e] at hk; rw [ho] at hk; cases hk; exact .inr (.inr (.inr (.inr ⟨e, _, _, rfl⟩))))
        exact (htwo.block k (lt_of_some hk) hkb hkb).trans hk⟩
    have hkk : ∀ {k : Nat} {o : Obj}, w.heap[k]? = some o → k ≠ K.b → w'.heap[k]? = w.heap[k]? := fun {k o} hk hne => htwo.block k (lt_of_some hk) hne hne
    have nb : ∀ {k : Nat} {c : Array Value} {ty : TypeId} {s : Nat × Nat}, w.heap[k]? = some (.cells c ty s) → k ≠ K.b := fun {k c ty s} hk e => by
      obtain ⟨es, c2, ho⟩ := hm.obj
      rw [e] at hk; rw [ho] at hk; cases hk
    have hKK : Keeps 0 (fun k o => k = K.b) w w' := ⟨htwo.os, htwo.tape, htwo.output, htwo.size, fun k hk => absurd hk (Nat.not_lt_zero _), fun k o hk hT => (hkk hk hT).trans hk⟩
    have hmbne : ∀ {c : Array Value} {s : Nat × Nat} {ty : TypeId} (k : Nat), w.heap[k]? = some (.cells c ty s) → w'.heap[k]? = some (.cells c ty s) := fun {c s ty} k hk => (hkk hk (nb hk)).trans hk
    have hfp : FP K.base w' K.files β M P O := hd.dp.fp.moved (fun p g hM => by
      obtain ⟨L, -, hp, -⟩ := hd.dp.fp.plt hM
      exact hkk hp.2 (nb hp.2)) fun k hk => by
      obtain ⟨o, ho⟩ := Option.ne_none_iff_exists'.1 hk
      exact hkk (hd.dp.fp.fb k o ho) (nb (hd.dp.fp.fb k o ho).blk)
    have htw : NT.TW K.base K.tg K.sg K.mb K.I K.L K.B q q A S D w' := by
      refine ⟨hd.dp.tw.tm.moved (hkk hd.dp.tw.tm.box (nb hd.dp.tw.tm.box)) (fun n g m hA => ?_), ?_, hd.dp.tw.ti⟩
      · obtain ⟨d, -, p, qq⟩ := hd.dp.tw.tm.hasA hA
        obtain ⟨es, c, ho⟩ := qq.obj
        exact ⟨hkk p (nb p), hkk ho (hd.dp.far.2 n g m hA)⟩
      · obtain ⟨M1, hps⟩ := hd.dp.tw.ps
        obtain ⟨es, c, ho⟩ := IN.map_obj hps.pm.mp
        refine ⟨M1, hps.pm.moved (hkk hps.pm.box (nb hps.pm.box)) (hkk ho hd.dp.far.1.symm) (fun n g hM => ?_) (fun b cur hb => hkk hb (nb hb)), hps.fn, hps.lim⟩
        cases hS : S n with
        | none => rw [(hps.pm.dom n).2 hS] at hM; cases hM
        | some d => obtain ⟨v, hb, -⟩ := hps.pm.node n g d hM hS; exact hkk hb (nb hb)
    have hdp : DP K q A S D M β P O w' := ⟨htw, hd.dp.far, hmbne _ hd.dp.tb, hfp, hd.dp.ge⟩
    have hlen : (List.replicate K.files (none : Option Nat)).length = K.files := List.length_replicate
    refine ⟨rfl, ⟨A, upd M pid (some g), β, hmb.le (by omega), (⟨hdp.tw, hdp.far, hdp.tb, hfp.newProc hlk.2 (by rw [pad_rep _ _ hcap.2.1]; exact hpr) (by have := hd.low; omega) (fun q' g' hM e => ?_), hdp.ge⟩ : DP K q A S D (upd M pid (some g)) β (insP pid (List.replicate K.files none) P) O w').more (by omega), ?_, by rw [ins_len]; omega⟩, hK⟩
    · obtain ⟨L, -, -, hlt⟩ := hd.dp.fp.plt hM
      omega
    · exact DI.ins (L := List.replicate K.files none) (hd.di.congrR fun k => repR _ k []) hlk.2 ⟨hlk.1, hp⟩ hlen
  · rw [if_neg h1]
    refine (Add_no pid (vacP P pid) w hd.dp.tb hm hp hv h1).mono ?_
    rintro e w' ⟨rfl, rfl⟩
    exact ⟨rfl, DQ.same h0 hq (Below.refl _ _)⟩
theorem DI.new {f o : Nat} (hS : ∀ n x, S n = some x → x.opens = 0) : DI f o S [] (fun _ => none) [] :=
  ⟨List.Pairwise.nil, fun _ h => (by cases h), fun _ h => (by cases h), fun _ _ h => (by cases h), fun _ _ => ⟨rfl, rfl⟩, fun _ h => absurd rfl h, fun _ _ h => (by cases h), fun n x hx => by rw [hS n x hx, opn_zero fun _ _ h => (by cases h)]; rfl, fun _ _ h => (by cases h)⟩
theorem cntO_none (n : Nat) : cntO (fun _ => none) n = 0 := by
  induction n with
  | zero => rfl
  | succ n ih => unfold cntO; rw [ih, if_pos rfl]
theorem New_dw {base tg sg mb I L B : Nat} (a1 a2 a3 a6 a7 : Int) (f o : Nat) (w : World) (h : NT.TW base tg sg mb I L B q q A S D w) (hS : ∀ n x, S n = some x → x.opens = 0) (hL : 1 ≤ L) (hf : 1 ≤ f ∧ f ≤ 64) (ho : 1 ≤ o ∧ o ≤ 1024) (hq : q < 60000) :
    Calls Tryz.prog 14 #[.pointer (some ⟨sg, 0, none⟩), .pointer (some ⟨tg, 0, none⟩), cap7 a1 a2 a3 (f : Int) (o : Int) a6 a7] w fun e w' => ∃ g b, e = .returned (.tuple #[.pointer (some ⟨g, 0, none⟩), .int .i64 0]) ∧ DW ⟨base, g, tg, sg, mb, b, I, L, B, f, o⟩ q A S D [] (fun _ => none) w' ∧ Below w.heap.size w w' := by
  obtain ⟨M1, hps⟩ := h.ps
  refine (New_both a1 a2 a3 f o a6 a7 w hps h.tm ⟨by omega, by omega, by omega, by omega⟩).mono ?_
  rintro e w' ⟨g, b, rfl, hb, hg, hgb, htb, hmb, hbel⟩
  have hmbl : mb < w.heap.size := hps.pm.mp.lt
  refine ⟨g, b, rfl, ⟨fun _ => none, fun _ => 0, hmb.le (Nat.zero_le _), ⟨h.keep hbel, ⟨by show b ≠ mb; omega, fun n x m hA => ?_⟩, ?_, ⟨fun p => ⟨fun _ => rfl, fun _ => rfl⟩, fun _ _ _ h => (by cases h), fun _ _ _ h => (by cases h), fun _ _ h => (by cases h), fun _ _ h => absurd rfl h, fun _ _ h => (by cases h), fun _ h => absurd rfl h⟩, ?_⟩, DI.new hS, ?_⟩, hbel⟩
  · obtain ⟨d, -, -, qq⟩ := h.tm.hasA hA
    obtain ⟨es, c, ho⟩ := qq.obj
    have := lt_of_some ho
    show m ≠ b
    omega
  · show TB w' g sg tg b f ((o : Int) - (cntO (fun _ => none) o : Int))
    rw [cntO_none]
    simpa using htb
  · exact ⟨Nat.le_trans h.tm.low hg, Nat.le_trans h.tm.low hb⟩
  · exact ⟨hf.1, hf.2, ho.1, ho.2, hL, Nat.zero_le _, hq, Nat.zero_le _⟩
theorem Sn_opens : ∀ n x, NT.Sn n = some x → x.opens = 0 := fun n x h => by
  obtain ⟨-, rfl⟩ := NT.Sn_at h
  rfl
set_option maxRecDepth 100000 in
set_option maxHeartbeats 8000000 in
theorem opened13 (a b c : Int) (f o : Nat) (w : World) (hr : IN.Right a b c) (hf : 1 ≤ f ∧ f ≤ 64) (ho : 1 ≤ o ∧ o ≤ 1024) : Calls Tryz.prog 15 #[cap7 a b c (f : Int) (o : Int) 0 0] w fun e w' => ∃ K A, e = .returned (.tuple #[.pointer (some ⟨K.sg, 0, none⟩), .pointer (some ⟨K.tg, 0, none⟩), .pointer (some ⟨K.g, 0, none⟩), .bool true]) ∧ w.heap.size ≤ K.base ∧ (K.I = a.toNat ∧ K.L = c.toNat ∧ K.B = b.toNat ∧ K.files = f ∧ K.opens = o) ∧ DW K 0 A NT.Sn NT.D0 [] (fun _ => none) w' ∧ Below w.heap.size w w' := by
  obtain ⟨W0, hW0⟩ : ∃ W0, w.alloc (.cells #[.int .i64 a, .int .i64 b, .int .i64 c, .int .i64 f, .int .i64 o, .int .i64 0, .int .i64 0] 25) = W0 := ⟨_, rfl⟩
  have b0 : Below w.heap.size w W0 := by rw [← hW0]; exact (Below.refl _ w).alloc (Nat.le_refl _) _
  have hC : Blk W0 w.heap.size 25 [.int .i64 a, .int .i64 b, .int .i64 c, .int .i64 f, .int .i64 o, .int .i64 0, .int .i64 0] := by rw [← hW0]; exact Blk.new w _ _ rfl
  have cN := W_hid (IN.New_yes a b c f o 0 0 W0 hr)
  have hrI : 1 ≤ a.toNat ∧ 1 ≤ c.toNat := by unfold IN.Right at hr; omega
  have q0 := hC.cell (j := 0) rfl
  have q1 := hC.cell (j := 1) rfl
  have q2 := hC.cell (j := 2) rfl
  have q3 := hC.cell (j := 3) rfl
  have q4 := hC.cell (j := 4) rfl
  have q5 := hC.cell (j := 5) rfl
  have q6 := hC.cell (j := 6) rfl
  replace hC := W_hid hC
  replace b0 := W_hid b0
  unfold cap7 at cN ⊢
  clear hr
  go_enter Tryz.func15, Tryz.ntmps15
  go_wp2_with fail
  replace hW0 := W_hid hW0
  refine cN.out.mono ?_
  rintro e w1 ⟨sg, mb, M, rfl, hP, b1⟩
  have cT := W_hid (NT.New_tw w1 hP hrI.1 hrI.2)
  have hC1 := W_hid (hC.out.keep b1)
  have B1 := W_hid (b0.out.trans (b1.mono b0.out.size))
  have hlow := W_hid b0.out.size
  clear hP b1 cN q0 q1 q2 q3 q4 q5 q6
  go_wp2_with fail
  refine cT.out.mono ?_
  rintro e w2 ⟨tg, A, rfl, hT, hK⟩
  have hlt1 := hC1.out.lt
  have hb2 : Below w1.heap.size w1 w2 ∨ True := .inr trivial
  have hC2 : Blk w2 w.heap.size 25 [.int .i64 a, .int .i64 b, .int .i64 c, .int .i64 f, .int .i64 o, .int .i64 0, .int .i64 0] := hK.block _ _ hC1.out (by simp [IN.PT])
  have q0 := hC2.cell (j := 0) rfl
  have q1 := hC2.cell (j := 1) rfl
  have q2 := hC2.cell (j := 2) rfl
  have q3 := hC2.cell (j := 3) rfl
  have q4 := hC2.cell (j := 4) rfl
  have q5 := hC2.cell (j := 5) rfl
  have q6 := hC2.cell (j := 6) rfl
  have cD := New_dw a b c 0 0 f o w2 hT Sn_opens hrI.2 hf ho (by decide)
  unfold cap7 at cD
  replace cD := W_hid cD
  have B2 := W_hid (B1.out.trans ((hK.below (Nat.le_refl _)).mono hlow.out))
  replace hlt1 := W_hid hlt1
  clear hT hK cT hC2 hb2
  go_wp2_with fail
  refine cD.out.mono ?_
  rintro e w3 ⟨g, bb, rfl, hdw, b3⟩
  have hfin := W_hid (And.intro hdw (B2.out.trans (b3.mono B2.out.size)))
  clear hdw b3 cD q0 q1 q2 q3 q4 q5 q6
  go_wp2_with fail
  exact bodyPost_ret (results_tmp4 Tryz.results15 _ _ _) rfl ⟨⟨_, g, tg, sg, mb, bb, _, _, _, f, o⟩, A, rfl, hlow.out, ⟨rfl, rfl, rfl, rfl, rfl⟩, hfin.out⟩
end
end DC
end Go.Proofs.YtfhidjkhmjdioaaGreat

namespace Go.Proofs.YtfhidjkhmjdioaaGreat
open Go.ChangeShapes Go.WideShapes Go.ChangeAt Go.RowKit Go.Maps
set_option linter.unusedVariables false
set_option linter.unusedSimpArgs false
set_option maxRecDepth 100000
namespace DC
open IS (I64 upd)
open IN (Keeps lt_of_some)
def VT (k : Nat) (o : Obj) : Prop := (∃ c ty s, o = .cells c ty s ∧ (ty = 86 ∨ ty = 155 ∨ ty = 94 ∨ ty = 135 ∨ ty = 111 ∨ ty = 101)) ∨ ∃ es c, o = .map es c
def DS (K : Cn) (q : Nat) (S : Sm) (D : NT.Ds) (P : Ps) (O : Ou) (w : World) : Prop := ∃ A, DW K q A S D P O w
def DO (K : Cn) (q : Nat) (S : Sm) (D : NT.Ds) (P : Ps) (O : Ou) (w w' : World) : Prop := DS K q S D P O w' ∧ Keeps K.base VT w w'
section
variable {K : Cn} {q : Nat} {A : Am} {S : Sm} {D : NT.Ds} {P : Ps} {O : Ou} {w w' : World} {n : Nat}
theorem VT_of (h : Keeps K.base (UT K A) w w') : Keeps K.base VT w w' := NT.keeps_wide h fun k o _ hT => by
  rcases hT with (h1 | ⟨n, g, m, -, h1 | h1⟩) | ⟨c, s, rfl⟩ | ⟨c, s, rfl⟩ | ⟨c, s, rfl⟩ | ⟨-, es, c, rfl⟩
  · rcases h1 with ⟨c, s, rfl⟩ | ⟨c, s, rfl⟩ | ⟨-, es, c, rfl⟩
    · exact .inl ⟨_, _, _, rfl, .inl rfl⟩
    · exact .inl ⟨_, _, _, rfl, .inr (.inl rfl)⟩
    · exact .inr ⟨_, _, rfl⟩
  · obtain ⟨-, c, s, rfl⟩ := h1
    exact .inl ⟨_, _, _, rfl, .inr (.inr (.inl rfl))⟩
  · obtain ⟨-, es, c, rfl⟩ := h1
    exact .inr ⟨_, _, rfl⟩
  · exact .inl ⟨_, _, _, rfl, .inr (.inr (.inr (.inl rfl)))⟩
  · exact .inl ⟨_, _, _, rfl, .inr (.inr (.inr (.inr (.inl rfl))))⟩
  · exact .inl ⟨_, _, _, rfl, .inr (.inr (.inr (.inr (.inr rfl))))⟩
  · exact .inr ⟨_, _, rfl⟩
theorem do_of {S' : Sm} {D' : NT.Ds} {P' : Ps} {O' : Ou} (h : DQ K q A S' D' P' O' w w') : DO K (q + 2) S' D' P' O' w w' := ⟨h.1, VT_of h.2⟩
theorem DS.keep (h : DS K q S D P O w) (hb : Below w.heap.size w w') : DS K q S D P O w' := by
  obtain ⟨A, h⟩ := h
  exact ⟨A, h.keep hb⟩
theorem DW.lt (h : DW K q A S D P O w) : q < 60000 := by
  obtain ⟨M, β, -, h⟩ := h
  exact h.cap.2.2.2.2.2.2.1
theorem DS.more (h : DS K q S D P O w) {q' : Nat} (hq : q ≤ q') (hq' : q' < 60000) : DS K q' S D P O w := by
  obtain ⟨A, h⟩ := h
  exact ⟨A, h.more hq hq'⟩
theorem DS.low (h : DS K q S D P O w) : K.base ≤ w.heap.size := by
  obtain ⟨A, M, β, -, h⟩ := h
  exact h.low
theorem DS.di (h : DS K q S D P O w) : DI K.files K.opens S P O [] := by
  obtain ⟨A, M, β, -, h⟩ := h
  exact h.di
theorem DS.ti (h : DS K q S D P O w) : NT.TI K.I q NT.e0 S D := by
  obtain ⟨A, M, β, -, h⟩ := h
  exact h.dp.tw.ti
theorem add_s (pid : Int) (w : World) (h : DS K q S D P O w) (hp : I64 pid) (hq : q < 59998) :
    Calls Tryz.prog 17 #[.pointer (some ⟨K.g, 0, none⟩), .int .i64 pid] w fun e w' => e = .returned (.int .i64 (addR K.files P pid).1) ∧ DO K (q + 2) S D (addR K.files P pid).2 O w w' := by
  obtain ⟨A, h⟩ := h
  exact (Add_all pid w h hp hq).mono fun e w' hh => ⟨hh.1, do_of hh.2⟩
theorem open_s (pid : Int) (p : ByteArray) (fl : Int) (w : World) (h : DS K q S D P O w) (hp : I64 pid) (hpl : p.size ≤ maxLen) (hfl : I64 fl) (hq : q < 59998) :
    Calls Tryz.prog 26 #[.pointer (some ⟨K.g, 0, none⟩), .int .i64 pid, .string p, .int .i64 fl] w fun e w' => e = .returned (.tuple #[.int .i64 (opnR K.I K.files K.opens S D P O pid p fl).1.1, .int .i64 (opnR K.I K.files K.opens S D P O pid p fl).1.2]) ∧ DO K (q + 2) (opnR K.I K.files K.opens S D P O pid p fl).2.1 (opnR K.I K.files K.opens S D P O pid p fl).2.2.1 (opnR K.I K.files K.opens S D P O pid p fl).2.2.2.1 (opnR K.I K.files K.opens S D P O pid p fl).2.2.2.2 w w' := by
  obtain ⟨A, h⟩ := h
  exact (Open_all pid p fl w h hp hpl hfl hq).mono fun e w' hh => ⟨hh.1, do_of hh.2⟩
theorem close_s (pid fd : Int) (w : World) (h : DS K q S D P O w) (hp : I64 pid) (hq : q < 59998) :
    Calls Tryz.prog 31 #[.pointer (some ⟨K.g, 0, none⟩), .int .i64 pid, .int .i64 fd] w fun e w' => e = .returned (.int .i64 (clsR S P O pid fd).1) ∧ DO K (q + 2) (clsR S P O pid fd).2.1 D (clsR S P O pid fd).2.2.1 (clsR S P O pid fd).2.2.2 w w' := by
  obtain ⟨A, h⟩ := h
  exact (Close_all pid fd w h hp hq).mono fun e w' hh => ⟨hh.1, do_of hh.2⟩
theorem dup_s (pid fd : Int) (w : World) (h : DS K q S D P O w) (hp : I64 pid) (hq : q < 59998) :
    Calls Tryz.prog 32 #[.pointer (some ⟨K.g, 0, none⟩), .int .i64 pid, .int .i64 fd] w fun e w' => e = .returned (.tuple #[.int .i64 (dupR K.files P O pid fd).1.1, .int .i64 (dupR K.files P O pid fd).1.2]) ∧ DO K (q + 2) S D (dupR K.files P O pid fd).2.1 (dupR K.files P O pid fd).2.2 w w' := by
  obtain ⟨A, h⟩ := h
  exact (Dup_all pid fd w h hp hq).mono fun e w' hh => ⟨hh.1, do_of hh.2⟩
theorem read_s (pid fd n : Int) (w : World) (h : DS K q S D P O w) (hp : I64 pid) (hn : I64 n) (hq : q < 59998) :
    Calls Tryz.prog 30 #[.pointer (some ⟨K.g, 0, none⟩), .int .i64 pid, .int .i64 fd, .int .i64 n] w fun e w' => e = .returned (.tuple #[.string (rdR S P O pid fd n).1.1, .int .i64 (rdR S P O pid fd n).1.2]) ∧ DO K (q + 2) S D P (rdR S P O pid fd n).2 w w' := by
  obtain ⟨A, h⟩ := h
  exact (Read_all pid fd n w h hp hn hq).mono fun e w' hh => ⟨hh.1, do_of hh.2⟩
theorem write_s (pid fd : Int) (s : ByteArray) (w : World) (h : DS K q S D P O w) (hp : I64 pid) (hs : s.size ≤ maxLen) (hq : q < 59998) :
    Calls Tryz.prog 27 #[.pointer (some ⟨K.g, 0, none⟩), .int .i64 pid, .int .i64 fd, .string s] w fun e w' => e = .returned (.tuple #[.int .i64 (wriR K.I K.B S P O pid fd s).1.1, .int .i64 (wriR K.I K.B S P O pid fd s).1.2]) ∧ DO K (q + 2) (wriR K.I K.B S P O pid fd s).2.1 D P (wriR K.I K.B S P O pid fd s).2.2 w w' := by
  obtain ⟨A, h⟩ := h
  exact (Write_all pid fd s w h hp hs hq).mono fun e w' hh => ⟨hh.1, do_of hh.2⟩
theorem seek_s (pid fd n wh : Int) (w : World) (h : DS K q S D P O w) (hp : I64 pid) (hn : I64 n) (hq : q < 59998) :
    Calls Tryz.prog 29 #[.pointer (some ⟨K.g, 0, none⟩), .int .i64 pid, .int .i64 fd, .int .i64 n, .int .i64 wh] w fun e w' => e = .returned (.tuple #[.int .i64 (skR S P O pid fd n wh).1.1, .int .i64 (skR S P O pid fd n wh).1.2]) ∧ DO K (q + 2) S D P (skR S P O pid fd n wh).2 w w' := by
  obtain ⟨A, h⟩ := h
  exact (Seek_all pid fd n wh w h hp hn hq).mono fun e w' hh => ⟨hh.1, do_of hh.2⟩
theorem tree_s {S' : Sm} {D' : NT.Ds} {r : Int} {e : Ending} {M : Int → Option Nat} {β : Nat → Nat} (hm : MB w K.b q M) (hd : DM K q A S D M β P O [] w) (hi : DI K.files K.opens S' P O []) (hq : q < 59998) (h : e = .returned (.int .i64 r) ∧ NT.TQ K.base K.tg K.sg K.mb K.I K.L K.B q (q + 1) A S' D' w w') : e = .returned (.int .i64 r) ∧ DO K (q + 2) S' D' P O w w' := by
  obtain ⟨rfl, ⟨A', hs, ht⟩, hk⟩ := h
  exact ⟨rfl, ⟨A', M, β, (hd.dp.mbTree hm hk).le (by omega), (hd.dp.tree hk hs (TW_q ht (q' := q + 1) (by omega)) hm.lt).more (by omega), hi, by have := hd.cap; omega⟩, VT_of (UT_tree hk)⟩
theorem unl_di (h : DI K.files K.opens S P O []) (s : ByteArray) : DI K.files K.opens (NT.unlS S D s).1 P O [] := by
  unfold NT.unlS
  split
  · exact h
  · exact h.unlink _
theorem unlink_s (s : ByteArray) (hs : s.size ≤ maxLen) (w : World) (h : DS K q S D P O w) (hq : q < 59998) :
    Calls Tryz.prog 28 #[.pointer (some ⟨K.tg, 0, none⟩), .string s] w fun e w' => e = .returned (.int .i64 (NT.er (NT.unlR D s))) ∧ DO K (q + 2) (NT.unlS S D s).1 (NT.unlS S D s).2 P O w w' := by
  obtain ⟨A, M, β, hm, hd⟩ := h
  exact (NT.Unlink_q s hs w hd.dp.tw (by omega)).mono fun e w' hh => tree_s hm hd (unl_di hd.di s) hq hh
theorem all_s (w : World) (h : DS K q S D P O w) :
    Calls Tryz.prog 22 #[.pointer (some ⟨K.sg, 0, none⟩)] w fun e w' => ∃ v, e = .returned v ∧ w'.ownsRow w.heap.size 65 6 v (IN.lst S K.I).length (IN.stcl (IN.lst S K.I)) ∧ Below w.heap.size w w' := by
  obtain ⟨A, M, β, hm, hd⟩ := h
  obtain ⟨M1, hps⟩ := hd.dp.tw.ps
  exact IN.All_any w hps
end
end DC
namespace DC
def sF : ByteArray := ⟨#[102]⟩
def O0 : Ou := fun _ => none
def P1 : Ps := [(1, [none, none, none, none])]
def P2 : Ps := [(1, [some 0, none, none, none])]
def P3 : Ps := [(1, [some 0, some 0, none, none])]
def S1 : Sm := IN.upd NT.Sn 2 (some (IN.newNd 1))
def x1 : IN.Nd := ⟨1, 1, 1, 0, []⟩
def S2 : Sm := IN.upd NT.Sn 2 (some x1)
def D1 : NT.Ds := NT.mkD NT.D0 1 ⟨#[102]⟩ 2 1
def oF (off refs : Int) : Of := ⟨2, off, 7, refs⟩
theorem pF0 : PM.perr sF = 0 := by decide
theorem pF1 : PM.pN sF = [⟨#[102]⟩] := by decide
theorem vF : NT.vacant NT.D0 1 sF = .ok 1 := by unfold NT.vacant; rw [pF1]; rfl
theorem fF : NT.findR NT.D0 sF = .error 11 := by unfold NT.findR; rw [if_pos pF0, pF1]; rfl
theorem add1 : addR 4 [] 1 = (0, P1) := by unfold addR vacP; rw [if_pos (by decide)]; rfl
theorem low2 : IN.Low NT.Sn 2 := ⟨by decide, rfl, fun m h1 h2 => by
  obtain rfl : m = 1 := by omega
  simp [NT.Sn, IN.upd]⟩
theorem mk1 : NT.mk 8 NT.Sn NT.D0 sF 1 = ((2, 0), S1, D1) := by
  unfold NT.mk
  rw [if_pos (.inl rfl), if_neg (fun e => e pF0), vF]
  have hr : IN.mkR 8 NT.Sn 1 = 0 := by
    unfold IN.mkR
    rw [if_pos (.inl rfl), if_pos (by decide)]
  simp only [hr, ne_eq, not_true_eq_false, if_false]
  rw [NT.lowN_eq low2]
  have hl : NT.last (PM.pN sF) = ⟨#[102]⟩ := by rw [pF1]; rfl
  rw [hl]
  rfl
theorem b74 : (bits .and .i64 7 4 != 0) = true := by decide
theorem rea1 : reaR 8 NT.Sn NT.D0 sF 7 = ((2, 0), S1, D1) := by
  unfold reaR
  rw [fF]
  simp only
  rw [if_pos ⟨trivial, b74⟩, mk1]
theorem op1 : IN.opS S1 2 = S2 := by
  unfold IN.opS S1
  rw [IN.upd_at]
  simp only
  rw [IN.upd_upd]
  rfl
theorem opn1 : opnR 8 4 6 NT.Sn NT.D0 P1 O0 1 sF 7 = ((0, 0), S2, D1, P2, updO O0 0 (some (oF 0 1))) := by
  unfold opnR
  have h1 : lk P1 1 = some [none, none, none, none] := by decide
  rw [h1]
  simp only
  have h2 : flg 7 = true := by decide
  rw [h2, if_neg (by simp), if_pos (by decide), if_pos (by decide), rea1]
  simp only
  rw [if_pos trivial, op1]
  rfl
theorem lk2 : lk P2 1 = some [some 0, none, none, none] := by decide
theorem lk3 : lk P3 1 = some [some 0, some 0, none, none] := by decide
theorem file1 {P : Ps} {O : Ou} {L : Ls} {fd need : Int} {k : Nat} {o : Of} (hl : lk P 1 = some L) (hg : getL L fd = some k) (ho : O k = some o) (hb : (bits .and .i64 o.flags need == need) = true) : fileR P O 1 fd need = .ok k := by
  unfold fileR
  rw [hl]
  simp only [hg, ho, hb, if_true]
theorem dup1 (O : Ou) (off r : Int) (ho : O 0 = some (oF off r)) : dupR 4 P2 O 1 0 = ((1, 0), P3, updO O 0 (some (oF off (r + 1)))) := by
  unfold dupR
  rw [file1 (k := 0) (o := oF off r) lk2 (by decide) ho (by show (bits .and .i64 7 0 == 0) = true; decide)]
  show (if fx ((lk P2 1).getD []) < 4 then _ else _) = _
  rw [lk2, ho]
  rw [if_pos (by decide)]
  rfl
def xW (data : ByteArray) : IN.Nd := IN.wNd x1 0 data
theorem tot_nil {S : Sm} (h : ∀ n x, S n = some x → x.l = []) (I : Nat) : IN.tot S I = 0 := by
  unfold IN.tot
  have : ((IN.lst S I).map fun x => EM.cnt x.2.l) = (IN.lst S I).map fun _ => 0 := List.map_congr_left fun x hx => by
    rw [h _ _ (IN.mem_lst.1 hx).2.2]; rfl
  rw [this, List.map_const', List.sum_replicate_nat, Nat.mul_zero]
theorem S2_at {n : Int} {x : IN.Nd} (h : S2 n = some x) : x.l = [] := by
  unfold S2 IN.upd at h
  split at h
  · cases h; rfl
  · obtain ⟨-, rfl⟩ := NT.Sn_at h
    rfl
theorem wr_ok (data : ByteArray) (h : data.size ≤ 1048576) : EM.ok 0 (EM.wr [] 0 data) = true ∧ ends (EM.wr [] 0 data) ≤ data.size := by
  have := IN.ends_wr (l := []) (f := 0) (d := data) (s := 0) rfl (Int.le_refl _) (by omega) (Int.le_refl _) (Int.le_refl _)
  refine ⟨this.1, ?_⟩
  have h2 := this.2
  split at h2 <;> omega
theorem wrE1 (data : ByteArray) : wrE [] 0 data = if data.size ≤ 1048576 then 0 else 28 := by
  unfold wrE
  rw [if_pos ⟨rfl, Int.le_refl _⟩]
  by_cases h : data.size ≤ 1048576
  · rw [if_pos h, if_pos (by omega)]
  · rw [if_neg h, if_neg (by omega)]
theorem cnt_wr (data : ByteArray) (h : data.size ≤ 1048576) : EM.cnt (EM.wr [] 0 data) ≤ data.size := by
  have h1 := wr_ok data h
  have := IN.cnt_ends h1.1
  omega
theorem wrErr1 (B : Nat) (data : ByteArray) (hB : data.size ≤ 1048576 → data.size ≤ B) : IN.wrErr 8 B S2 2 0 data = if data.size ≤ 1048576 then 0 else 28 := by
  have e : wrE x1.l 0 data = if data.size ≤ 1048576 then 0 else 28 := wrE1 data
  unfold IN.wrErr IN.askR S2
  rw [IN.upd_at]
  show (if x1.kind = 1 then (if wrE x1.l 0 data = 0 then (if IN.tot (IN.upd NT.Sn 2 (some x1)) 8 + EM.cnt (EM.wr [] 0 data) ≤ B + EM.cnt [] then (0 : Int) else 21) else wrE x1.l 0 data) else 14) = _
  rw [if_pos (show x1.kind = 1 from rfl)]
  by_cases h : data.size ≤ 1048576
  · rw [if_pos h] at e ⊢
    rw [if_pos e, if_pos]
    have h2 := cnt_wr data h
    have h3 := hB h
    have h4 := tot_nil (S := IN.upd NT.Sn 2 (some x1)) (fun n x hx => S2_at hx) 8
    rw [h4]
    omega
  · rw [if_neg h] at e ⊢
    rw [if_neg (by rw [e]; decide), e]
theorem wrS1 (B : Nat) (data : ByteArray) (h : data.size ≤ 1048576) (hB : data.size ≤ B) : IN.wrS 8 B S2 2 0 data = IN.upd NT.Sn 2 (some (xW data)) := by
  unfold IN.wrS S2
  rw [IN.upd_at]
  simp only
  rw [if_pos, IN.upd_upd]
  · rfl
  · refine ⟨rfl, by show wrE [] 0 data = 0; rw [wrE1, if_pos h], ?_⟩
    have h2 := cnt_wr data h
    have h4 := tot_nil (S := IN.upd NT.Sn 2 (some x1)) (fun n x hx => S2_at hx) 8
    show IN.tot (IN.upd NT.Sn 2 (some x1)) 8 + EM.cnt (EM.wr [] 0 data) ≤ B + EM.cnt []
    rw [h4]
    omega
def S3 (data : ByteArray) : Sm := IN.upd NT.Sn 2 (some (xW data))
theorem wrAt0 (off r : Int) (x : IN.Nd) : wrAt (oF off r) x = off := by
  unfold wrAt
  have : (bits .and .i64 (oF off r).flags 32 == 32) = false := by show (bits .and .i64 7 32 == 32) = false; decide
  rw [this]
  rfl
theorem S2_2 : S2 2 = some x1 := IN.upd_at _ _ _
theorem wri1 {P : Ps} {O : Ou} {L : Ls} (B : Nat) (data : ByteArray) (r : Int) (h : data.size ≤ 1048576) (hB : data.size ≤ B) (hl : lk P 1 = some L) (hg : getL L 0 = some 0) (ho : O 0 = some (oF 0 r)) : wriR 8 B S2 P O 1 0 data = (((data.size : Int), 0), S3 data, updO O 0 (some (oF data.size r))) := by
  unfold wriR
  rw [file1 hl hg ho (by show (bits .and .i64 7 2 == 2) = true; decide)]
  have e2 : (oF 0 r).ino = 2 := rfl
  simp only [ho, e2, S2_2, wrAt0]
  rw [wrErr1 B data (fun _ => hB), if_pos h, if_pos rfl, wrS1 B data h hB]
  unfold oF
  simp [S3]
theorem wri1_no {P : Ps} {O : Ou} {L : Ls} (B : Nat) (data : ByteArray) (r : Int) (h : ¬ data.size ≤ 1048576) (hl : lk P 1 = some L) (hg : getL L 0 = some 0) (ho : O 0 = some (oF 0 r)) : (wriR 8 B S2 P O 1 0 data).1 = (0, 28) := by
  unfold wriR
  rw [file1 hl hg ho (by show (bits .and .i64 7 2 == 2) = true; decide)]
  have e2 : (oF 0 r).ino = 2 := rfl
  simp only [ho, e2, S2_2, wrAt0]
  rw [wrErr1 B data (fun e => absurd e h), if_neg h, if_neg (by decide)]
theorem xW_size (data : ByteArray) : (xW data).size = data.size := by
  show (if data.size = 0 then (0 : Int) else max 0 (0 + (data.size : Int))) = data.size
  split <;> omega
theorem rd_piece (data : ByteArray) (h : data.size ≤ 1048576) (p m : Nat) (hp : p + m ≤ data.size) : EM.rd (EM.wr [] 0 data) p m = (data.data.toList.drop p).take m := by
  have h1 := EM.rd_wr (l := []) (f := 0) (d := data) rfl (Int.le_refl _) (by omega)
  obtain ⟨r, hr⟩ : ∃ r, data.size = p + (m + r) := ⟨data.size - p - m, by omega⟩
  rw [hr, EM.rd_two, EM.rd_two, Int.zero_add] at h1
  have e1 : (EM.rd (EM.wr [] 0 data) 0 p).length = p := EM.rd_length _ _ _
  have e2 : (EM.rd (EM.wr [] 0 data) p m).length = m := EM.rd_length _ _ _
  rw [← h1, List.drop_left' e1, List.take_left' e2]
def pce (data : ByteArray) (p m : Nat) : ByteArray := strOf ((data.data.toList.drop p).take m)
theorem rdE1 (data : ByteArray) (h : data.size ≤ 1048576) (p n : Nat) : rdE (xW data).l (xW data).size (p : Int) (n : Int) = 0 := by
  unfold rdE
  have := wr_ok data h
  rw [xW_size, if_pos ⟨this.1, by omega, by omega, by omega, by omega, this.2⟩]
theorem rdV1 (data : ByteArray) (h : data.size ≤ 1048576) (p n : Nat) (hp : p ≤ data.size) : strOf (rdV (xW data).l (xW data).size (p : Int) (n : Int)) = pce data p (min n (data.size - p)) := by
  unfold rdV pce
  rw [if_pos (rdE1 data h p n), xW_size]
  congr 1
  have e : (min (n : Int) ((data.size : Int) - (p : Int))).toNat = min n (data.size - p) := by omega
  rw [e]
  exact rd_piece data h p _ (by omega)
theorem pce_size (data : ByteArray) (p m : Nat) (h : p + m ≤ data.size) : (pce data p m).size = m := by
  unfold pce
  rw [strOf_size, List.length_take, List.length_drop]
  have : data.data.toList.length = data.size := Array.length_toList
  omega
theorem S3_2 (data : ByteArray) : S3 data 2 = some (xW data) := IN.upd_at _ _ _
theorem rd1 {P : Ps} {O : Ou} {L : Ls} {fd : Int} {k : Nat} {S : Sm} (data : ByteArray) (h : data.size ≤ 1048576) (p n : Nat) (o : Of) (x : IN.Nd) (hp : p ≤ data.size) (hl : lk P 1 = some L) (hg : getL L fd = some k) (ho : O k = some o) (hoff : o.off = p) (hb : (bits .and .i64 o.flags 1 == 1) = true) (hS : S o.ino = some x) (hx1 : x.l = (xW data).l) (hx2 : x.size = (xW data).size) :
    rdR S P O 1 fd (n : Int) = ((pce data p (min n (data.size - p)), 0), updO O k (some { o with off := ((p + min n (data.size - p) : Nat) : Int) })) := by
  unfold rdR
  rw [file1 hl hg ho hb]
  simp only [ho, hS, hoff, hx1, hx2]
  rw [if_pos (rdE1 data h p n), rdV1 data h p n hp, pce_size data p _ (by omega)]
  simp
theorem sk1 {P : Ps} {O : Ou} {L : Ls} {fd : Int} {k : Nat} {S : Sm} (o : Of) (x : IN.Nd) (by_ wh at_ : Int) (hl : lk P 1 = some L) (hg : getL L fd = some k) (ho : O k = some o) (hS : S o.ino = some x) (ha : skAt o x wh = some at_) (h1 : -at_ ≤ by_) (h2 : by_ ≤ 1048576 - at_) :
    skR S P O 1 fd by_ wh = ((at_ + by_, 0), updO O k (some { o with off := at_ + by_ })) := by
  unfold skR
  rw [file1 hl hg ho (by
    have : bits .and .i64 o.flags 0 = 0 := by simp [bits]; rfl
    rw [this]; rfl)]
  simp only [ho, hS, ha]
  rw [if_neg (by omega)]
end DC
end Go.Proofs.YtfhidjkhmjdioaaGreat

namespace Go.Proofs.YtfhidjkhmjdioaaGreat
open Go.ChangeShapes Go.WideShapes Go.ChangeAt Go.RowKit
open Go.ChangeMaps (open_string shut_string)
set_option linter.unusedVariables false
set_option linter.unusedSimpArgs false
namespace DC
open IS (I64)
open IN (Keeps cap7)
theorem res_caps13 {fn : Func} {r : Tmp} (hres : fn.results = #[.cell r 25]) (tmps : Array Value) (w : World) {g : Nat} {a b c d e f h : Int} (hr : tmps.getD r undef = .pointer (some ⟨g, 0, none⟩)) (hB : Blk w g 25 [.int .i64 a, .int .i64 b, .int .i64 c, .int .i64 d, .int .i64 e, .int .i64 f, .int .i64 h]) :
    (results fn tmps).run Tryz.prog w = .ok (cap7 a b c d e f h) w := by
  have h0 := hB.cell (j := 0) rfl
  have h1 := hB.cell (j := 1) rfl
  have h2 := hB.cell (j := 2) rfl
  have h3 := hB.cell (j := 3) rfl
  have h4 := hB.cell (j := 4) rfl
  have h5 := hB.cell (j := 5) rfl
  have h6 := hB.cell (j := 6) rfl
  rw [Array.getD_eq_getD_getElem?] at hr
  simp [results, hres, go_sem, hr, h0, h1, h2, h3, h4, h5, h6, cap7]
set_option maxRecDepth 100000 in
set_option maxHeartbeats 2000000 in
theorem caps13 (w : World) : Calls Tryz.prog 10 #[] w fun e w' => e = .returned (cap7 8 100 3 4 6 0 0) ∧ Below w.heap.size w w' := by
  go_enter Tryz.func10, Tryz.ntmps10
  go_wp2_with fail
  exact bodyPost_ret (res_caps13 Tryz.results10 _ _ rfl (Blk.new w _ [.int .i64 8, .int .i64 100, .int .i64 3, .int .i64 4, .int .i64 6, .int .i64 0, .int .i64 0] rfl)) rfl ⟨rfl, (Below.refl _ w).alloc (Nat.le_refl _) _⟩
structure KC (K : Cn) (B : Nat) : Prop where
  I : K.I = 8
  L : K.L = 3
  B : K.B = B
  f : K.files = 4
  o : K.opens = 6
theorem opened13c (B : Nat) (hB : B ≤ 16777216) (w : World) : Calls Tryz.prog 15 #[cap7 8 (B : Int) 3 4 6 0 0] w fun e w' => ∃ K, e = .returned (.tuple #[.pointer (some ⟨K.sg, 0, none⟩), .pointer (some ⟨K.tg, 0, none⟩), .pointer (some ⟨K.g, 0, none⟩), .bool true]) ∧ w.heap.size ≤ K.base ∧ KC K B ∧ DS K 0 NT.Sn NT.D0 [] O0 w' ∧ Below w.heap.size w w' :=
  (opened13 8 B 3 4 6 w (by unfold IN.Right; omega) (by omega) (by omega)).mono (by
    rintro e w' ⟨K, A, rfl, h1, ⟨h2, h3, h4, h5, h6⟩, h7, h8⟩
    exact ⟨K, rfl, h1, ⟨h2, h3, by rw [h4]; simp, h5, h6⟩, ⟨A, h7⟩, h8⟩)
theorem below_do {B q : Nat} {K : Cn} {S : Sm} {D : NT.Ds} {P : Ps} {O : Ou} {w0 w w' : World} (h : Below B w0 w) (hd : DO K q S D P O w w') (hB : B ≤ K.base) : Below B w0 w' := h.trans (hd.2.below hB)
def hello : ByteArray := ⟨#[104, 101, 108, 108, 111]⟩
theorem i64_one : I64 (1 : Int) := ⟨by decide, by decide⟩
theorem i64_seven : I64 (7 : Int) := ⟨by decide, by decide⟩
set_option maxRecDepth 100000 in
set_option maxHeartbeats 8000000 in
theorem shown13 (w : World) : Calls Tryz.prog 9 #[] w fun e w' => e = .returned (.bool true) ∧ Below w.heap.size w w' := by
  have cC := W_hid (caps13 w)
  have cO := fun w => W_hid (show Calls Tryz.prog 15 #[cap7 8 100 3 4 6 0 0] w _ from opened13c 100 (by decide) w)
  unfold cap7 at cC cO
  go_enter Tryz.func9, Tryz.ntmps9
  go_wp2_with fail
  refine cC.out.mono ?_
  rintro e w1 ⟨rfl, b1⟩
  have B1 := W_hid b1
  clear b1 cC
  go_wp2_with fail
  refine (cO _).out.mono ?_
  rintro e w2 ⟨K, rfl, hbase, hK, hd, b2⟩
  have B2 := W_hid (B1.out.trans (b2.mono B1.out.size))
  have hbw := W_hid (Nat.le_trans B1.out.size hbase)
  have cA := add_s 1 w2 hd i64_one (by decide)
  rw [hK.f, add1] at cA
  replace cA := W_hid cA
  replace hK := W_hid hK
  clear b2 hd B1 cO hbase
  go_wp2_with fail
  refine cA.out.mono ?_
  rintro e w3 ⟨rfl, hd⟩
  have B3 := W_hid (below_do B2.out hd hbw.out)
  have cA := open_s 1 sF 7 w3 hd.1 i64_one (by decide) i64_seven (by decide)
  rw [hK.out.I, hK.out.f, hK.out.o, opn1] at cA
  have e1 : sF = ⟨#[102]⟩ := rfl
  rw [e1] at cA
  replace cA := W_hid cA
  clear hd B2
  go_wp2_with fail
  refine cA.out.mono ?_
  rintro e w4 ⟨rfl, hd⟩
  have B4 := W_hid (below_do B3.out hd hbw.out)
  have cA := dup_s 1 0 w4 hd.1 i64_one (by decide)
  rw [hK.out.f, dup1 _ 0 1 (updO_at _ _ _)] at cA
  replace cA := W_hid cA
  clear hd B3
  go_wp2_with fail
  refine cA.out.mono ?_
  rintro e w5 ⟨rfl, hd⟩
  have B5 := W_hid (below_do B4.out hd hbw.out)
  have cA := write_s 1 0 hello w5 hd.1 i64_one (by decide) (by decide)
  rw [hK.out.I, hK.out.B, wri1 (L := [some 0, some 0, none, none]) 100 hello (1 + 1) (by decide) (by decide) lk3 (by decide) (updO_at _ _ _)] at cA
  have e2 : hello = ⟨#[104, 101, 108, 108, 111]⟩ := rfl
  rw [show ((hello.size : Nat) : Int) = 5 from rfl, e2] at cA
  replace cA := W_hid cA
  clear hd B4
  go_wp2_with fail
  refine cA.out.mono ?_
  rintro e w6 ⟨rfl, hd⟩
  have B6 := W_hid (below_do B5.out hd hbw.out)
  have cA := seek_s 1 1 (-4) 1 w6 hd.1 i64_one ⟨by decide, by decide⟩ (by decide)
  rw [sk1 (L := [some 0, some 0, none, none]) (k := 0) (oF 5 (1 + 1)) (xW (⟨#[104, 101, 108, 108, 111]⟩ : ByteArray)) (-4) 1 5 lk3 (by decide) (updO_at _ _ _) (S3_2 _) rfl (by decide) (by decide)] at cA
  replace cA := W_hid cA
  clear hd B5
  go_wp2_with fail
  refine cA.out.mono ?_
  rintro e w7 ⟨rfl, hd⟩
  have B7 := W_hid (below_do B6.out hd hbw.out)
  have cA := read_s 1 0 2 w7 hd.1 i64_one ⟨by decide, by decide⟩ (by decide)
  rw [show (2 : Int) = ((2 : Nat) : Int) from rfl, rd1 (L := [some 0, some 0, none, none]) (k := 0) (⟨#[104, 101, 108, 108, 111]⟩ : ByteArray) (by decide) 1 2 { oF 5 (1 + 1) with off := 5 + -4 } (xW (⟨#[104, 101, 108, 108, 111]⟩ : ByteArray)) (by decide) lk3 (by decide) (updO_at _ _ _) rfl (by show (bits .and .i64 7 1 == 1) = true; decide) (S3_2 _) rfl rfl] at cA
  rw [show pce (⟨#[104, 101, 108, 108, 111]⟩ : ByteArray) 1 (min 2 ((⟨#[104, 101, 108, 108, 111]⟩ : ByteArray).size - 1)) = ⟨#[101, 108]⟩ from rfl] at cA
  replace cA := W_hid cA
  clear hd B6
  go_wp2_with fail
  refine cA.out.mono ?_
  rintro e w8 ⟨rfl, hd⟩
  have B8 := W_hid (below_do B7.out hd hbw.out)
  clear hd B7 cA
  go_wp2_with fail
  go_ret
  exact ⟨rfl, B8.out⟩
end DC
end Go.Proofs.YtfhidjkhmjdioaaGreat

namespace Go.Proofs.YtfhidjkhmjdioaaGreat
open Go.ChangeShapes Go.WideShapes Go.ChangeAt Go.RowKit Go.Maps
set_option linter.unusedVariables false
set_option linter.unusedSimpArgs false
set_option maxRecDepth 100000
namespace DC
theorem ba_ext {a b : ByteArray} (h : a.data.toList = b.data.toList) : a = b := by
  cases a; cases b
  congr 1
  exact Array.toList_inj.1 h
theorem pce_all (s : ByteArray) (m : Nat) (h : s.size ≤ m) : pce s 0 m = s := by
  apply ba_ext
  unfold pce
  rw [strOf_list, List.drop_zero, List.take_of_length_le]
  have : s.data.toList.length = s.size := Array.length_toList
  omega
theorem oF_set (a r v : Int) : ({ oF a r with off := v } : Of) = oF v r := rfl
def P4 : Ps := [(1, [some 0, some 0, some 1, none])]
def xW2 (data : ByteArray) : IN.Nd := { xW data with opens := 2 }
def S4 (data : ByteArray) : Sm := IN.upd NT.Sn 2 (some (xW2 data))
theorem cnt_one (o : Of) : cntO (updO O0 0 (some o)) 6 < 6 ∧ lowO (updO O0 0 (some o)) 6 = 1 := ⟨by rw [show cntO (updO O0 0 (some o)) 6 = 1 from rfl]; decide, by rfl⟩
end DC
namespace DC
def xU (data : ByteArray) : IN.Nd := { xW data with links := 0 }
def S5 (data : ByteArray) : Sm := IN.upd NT.Sn 2 (some (xU data))
theorem S5_2 (data : ByteArray) : S5 data 2 = some (xU data) := IN.upd_at _ _ _
def D2 : NT.Ds := NT.cutD D1 1 ⟨#[102]⟩
theorem uF : NT.unlR D1 sF = .ok 1 := by unfold NT.unlR NT.cutR; rw [if_pos pF0, pF1]; rfl
theorem lastF : NT.last (PM.pN sF) = ⟨#[102]⟩ := by rw [pF1]; rfl
theorem tgF : NT.tgt D1 1 sF = 2 := by unfold NT.tgt; rw [lastF]; rfl
theorem ul5 (data : ByteArray) : IN.ulS (S3 data) 2 = S5 data := by
  unfold IN.ulS
  rw [S3_2]
  show (if (0 : Int) < 1 then _ else _) = _
  rw [if_pos (by decide)]
  unfold IN.gone
  rw [IN.upd_at]
  show (if (1 : Int) - 1 = 0 ∧ (1 : Int) = 0 then _ else _) = _
  rw [if_neg (by decide)]
  unfold S3
  rw [IN.upd_upd]
  rfl
theorem unlS5 (data : ByteArray) : NT.unlS (S3 data) D1 sF = (S5 data, D2) := by
  unfold NT.unlS
  rw [uF]
  simp only
  rw [tgF, lastF, ul5]
  rfl
theorem fF2 : NT.findR D2 sF = .error 11 := by unfold NT.findR; rw [if_pos pF0, pF1]; rfl
theorem vF2 : NT.vacant D2 1 sF = .ok 1 := by unfold NT.vacant; rw [pF1]; rfl
def S6 (data : ByteArray) : Sm := IN.upd (S5 data) 3 (some (IN.newNd 1))
def D3 : NT.Ds := NT.mkD D2 1 ⟨#[102]⟩ 3 1
theorem low3 (data : ByteArray) : IN.Low (S5 data) 3 := ⟨by decide, rfl, fun m h1 h2 => by
  rcases (show m = 1 ∨ m = 2 by omega) with rfl | rfl
  · simp [S5, IN.upd, NT.Sn]
  · simp [S5, IN.upd]⟩
theorem len5 (data : ByteArray) : (IN.lst (S5 data) 8).length = 2 := rfl
theorem mk2 (data : ByteArray) : NT.mk 8 (S5 data) D2 sF 1 = ((3, 0), S6 data, D3) := by
  unfold NT.mk
  rw [if_pos (.inl rfl), if_neg (fun e => e pF0), vF2]
  have hr : IN.mkR 8 (S5 data) 1 = 0 := by
    unfold IN.mkR
    rw [if_pos (.inl rfl), len5, if_pos (by decide)]
  simp only [hr, ne_eq, not_true_eq_false, if_false]
  rw [NT.lowN_eq (low3 data), lastF]
  rfl
theorem rea3 (data : ByteArray) : reaR 8 (S5 data) D2 sF 6 = ((3, 0), S6 data, D3) := by
  unfold reaR
  rw [fF2]
  simp only
  rw [if_pos ⟨trivial, by decide⟩, mk2]
def S7 (data : ByteArray) : Sm := IN.upd (S5 data) 3 (some x1)
theorem op3 (data : ByteArray) : IN.opS (S6 data) 3 = S7 data := by
  unfold IN.opS S6
  rw [IN.upd_at]
  simp only
  rw [IN.upd_upd]
  rfl
def P5 : Ps := [(1, [some 0, some 1, none, none])]
theorem lk5 : lk P5 1 = some [some 0, some 1, none, none] := by decide
theorem opn3 (data : ByteArray) (O : Ou) (o : Of) (hO : O = updO O0 0 (some o)) : opnR 8 4 6 (S5 data) D2 P2 O 1 sF 6 = ((1, 0), S7 data, D3, P5, updO O 1 (some ⟨3, 0, 6, 1⟩)) := by
  have h := cnt_one o
  rw [← hO] at h
  unfold opnR
  rw [lk2]
  simp only
  have h2 : flg 6 = true := by decide
  rw [h2, if_neg (by simp), if_pos (by decide), if_pos h.1, rea3]
  simp only
  rw [if_pos trivial, op3, h.2]
  rfl
theorem tot7 (data : ByteArray) (h : data.size ≤ 1048576) : IN.tot (S7 data) 8 ≤ data.size := by
  have h1 := IN.tot_upd (S5 data) 3 8 (some x1) (by decide) (by decide)
  have h2 := IN.tot_upd NT.Sn 2 8 (some (xU data)) (by decide) (by decide)
  have h3 := cnt_wr data h
  have h4 := tot_nil (S := NT.Sn) (fun n x hx => by obtain ⟨-, rfl⟩ := NT.Sn_at hx; rfl) 8
  have e1 : IN.cntOf (some x1) = 0 := rfl
  have e2 : IN.cntOf (some (xU data)) = EM.cnt (EM.wr [] 0 data) := rfl
  have e3 : (IN.upd (S5 data) ((3 : Nat) : Int) (some x1)) = S7 data := rfl
  have e4 : (IN.upd NT.Sn ((2 : Nat) : Int) (some (xU data))) = S5 data := rfl
  rw [e3, e1] at h1
  rw [e4, e2, h4] at h2
  omega
theorem wri2 (data other : ByteArray) (O : Ou) (h : data.size ≤ 1048576) (ho : O 1 = some ⟨3, 0, 6, 1⟩) : ∃ a k S8 O8, wriR 8 2097152 (S7 data) P5 O 1 1 other = ((a, k), S8, O8) ∧ (k = 0 ∨ (1048576 : Int) < other.size ∨ (2097152 : Int) < (data.size : Int) + (other.size : Int)) ∧ S8 2 = some (xU data) ∧ O8 0 = O 0 := by
  refine ⟨(wriR 8 2097152 (S7 data) P5 O 1 1 other).1.1, (wriR 8 2097152 (S7 data) P5 O 1 1 other).1.2, (wriR 8 2097152 (S7 data) P5 O 1 1 other).2.1, (wriR 8 2097152 (S7 data) P5 O 1 1 other).2.2, rfl, ?_, ?_, ?_⟩
  · unfold wriR
    rw [file1 lk5 (fd := 1) (k := 1) (by decide) ho (by decide)]
    have e1 : (S7 data) 3 = some x1 := IN.upd_at _ _ _
    have e2 : wrAt ⟨3, 0, 6, 1⟩ x1 = 0 := by unfold wrAt; rw [if_neg (by decide)]
    simp only [ho, e1, e2]
    by_cases h1 : other.size ≤ 1048576
    · by_cases h2 : data.size + other.size ≤ 2097152
      · left
        have h3 := tot7 data h
        have h4 := cnt_wr other h1
        have e3 : wrE x1.l 0 other = 0 := by rw [show wrE x1.l 0 other = wrE [] 0 other from rfl, wrE1, if_pos h1]
        have e : IN.wrErr 8 2097152 (S7 data) 3 0 other = 0 := by
          unfold IN.wrErr IN.askR
          rw [e1]
          show (if x1.kind = 1 then (if wrE x1.l 0 other = 0 then (if IN.tot (S7 data) 8 + EM.cnt (EM.wr [] 0 other) ≤ 2097152 + EM.cnt [] then (0 : Int) else 21) else wrE x1.l 0 other) else 14) = _
          rw [if_pos (show x1.kind = 1 from rfl), if_pos e3, if_pos (by omega)]
        rw [if_pos e]
      · right; right; omega
    · right; left; omega
  · unfold wriR
    rw [file1 lk5 (fd := 1) (k := 1) (by decide) ho (by decide)]
    have e1 : (S7 data) 3 = some x1 := IN.upd_at _ _ _
    have e2 : wrAt ⟨3, 0, 6, 1⟩ x1 = 0 := by unfold wrAt; rw [if_neg (by decide)]
    simp only [ho, e1, e2]
    have e : ∀ n, n ≠ 3 → IN.wrS 8 2097152 (S7 data) 3 0 other n = S7 data n := fun n hn => by
      unfold IN.wrS
      rw [e1]
      simp only
      split
      · rw [IN.upd_ne hn]
      · rfl
    have e3 : S7 data 2 = some (xU data) := by
      unfold S7
      rw [IN.upd_ne (by decide)]
      exact S5_2 data
    split
    · exact (e 2 (by decide)).trans e3
    · exact (e 2 (by decide)).trans e3
  · unfold wriR
    rw [file1 lk5 (fd := 1) (k := 1) (by decide) ho (by decide)]
    have e1 : (S7 data) 3 = some x1 := IN.upd_at _ _ _
    simp only [ho, e1]
    split
    · have hgen : ∀ x : Option Of, updO O 1 x 0 = O 0 := fun x => if_neg (by decide)
      simp only [hgen]
    · rfl
theorem cls1 (data : ByteArray) (S : Sm) (O : Ou) (off : Int) (hS : S 2 = some (xU data)) (ho : O 0 = some (oF off 1)) : clsR S P5 O 1 0 = (0, IN.upd S 2 none, setP P5 1 [none, some 1, none, none], updO O 0 none) := by
  unfold clsR
  rw [file1 lk5 (fd := 0) (k := 0) (by decide) ho (by show (bits .and .i64 7 0 == 0) = true; decide)]
  simp only [lk5, Option.getD_some]
  unfold relS relO
  rw [ho]
  simp only
  have hr : ¬ 1 < (oF off 1).refs := by show ¬ (1 : Int) < 1; decide
  rw [if_neg hr, if_neg hr]
  have e : IN.clS S (oF off 1).ino = IN.upd S 2 none := by
    show IN.clS S 2 = _
    unfold IN.clS
    rw [hS]
    show (if (0 : Int) < 1 then _ else _) = _
    rw [if_pos (by decide)]
    unfold IN.gone
    rw [IN.upd_at]
    show (if (0 : Int) = 0 ∧ (1 : Int) - 1 = 0 then _ else _) = _
    rw [if_pos (by decide), IN.upd_upd]
  rw [e]
  rfl
theorem len_less {S : Sm} {x : IN.Nd} (h : S 2 = some x) : (IN.lst (IN.upd S 2 none) 8).length + 1 = (IN.lst S 8).length := by
  have h1 := IN.lst_upd S 2 8 none (by decide) (by decide)
  have h2 := IN.split S 2 8 (by decide) (by decide)
  have e : S ((2 : Nat) : Int) = some x := h
  have e2 : IN.upd S ((2 : Nat) : Int) none = IN.upd S 2 none := rfl
  rw [e2] at h1
  rw [e] at h2
  rw [h1, h2]
  simp
  omega
end DC
end Go.Proofs.YtfhidjkhmjdioaaGreat

/- Contracts of package sched: run. -/
import Derived.Test.YtmikgkelmdgckaaSchIter
import Derived.Test.YtmikgkelmdgckaaShareDecay
namespace Go.Proofs.Ytmikgkelmdgckaa
open Go.ChangeShapes Go.WideShapes Go.ChangeAt Go.RowKit Go.Shelf
set_option linter.unusedVariables false
set_option linter.unusedSimpArgs false
set_option maxRecDepth 100000
theorem run_store_float {P : Program} {a : Addr} {w : World} {m : Mode} (k : FloatKind) (b : Nat) : (store a (.float k b) m).run P w = stored P w a (.float k b) m := run_store P w a _ m rfl
attribute [local go_sem] Oper.semAt_some run_store_float
namespace SD
open IN (Keeps lt_of_some)
open SE
open FM (one dk dk_dec dk_le)

theorem fit_wide {f : FuncId} {args : Array Value} {w : World} {R : Ending → World → Prop} (h : Calls Try.prog f args w R) : CallsIn Fence.wide 0 Try.prog f args w R := callsIn_wide.2 h
theorem wide_fit {f : FuncId} {args : Array Value} {w : World} {R : Ending → World → Prop} (h : CallsIn Fence.wide 0 Try.prog f args w R) : Calls Try.prog f args w R := callsIn_wide.1 h
theorem keeps_later {B C : Nat} {T : Nat → Obj → Prop} {w V V' : World} (h : Keeps B T w V) (k : Below C V V') (hC : w.heap.size ≤ C) (hB : B ≤ C) : Keeps B T w V' :=
  ⟨k.os.trans h.os, k.tape.trans h.tape, k.output.trans h.output, Nat.le_trans h.size k.size, fun i hi => (k.block i (by omega)).trans (h.low i hi), fun i o ho hT => (k.block i (by have := lt_of_some ho; omega)).trans (h.block i o ho hT)⟩
theorem QM.later {base C : Nat} {V V' : World} {qb nb : Nat} {vr : Value} {vl : Nat → Value} {P : List Pr} {ls : Nat → List Int} (h : QM base V qb nb vr vl P ls) (k : Below C V V') (hC : ∀ k, QX qb nb vr vl k → k < C) : QM base V' qb nb vr vl P ls :=
  h.moved fun i hi => k.block i (hC i hi)
def runTo (P : List Pr) (p : Int) (k : Nat) : List Pr := (P.take k).map (onP p) ++ P.drop k
theorem runTo_zero (P : List Pr) (p : Int) : runTo P p 0 = P := by simp [runTo]
theorem runTo_all (P : List Pr) (p : Int) : runTo P p P.length = runP P p := by simp [runTo, runP]
theorem runTo_len (P : List Pr) (p : Int) (k : Nat) : (runTo P p k).length = P.length := by simp [runTo]; omega
theorem runTo_get (P : List Pr) (p : Int) {k : Nat} (hk : k < P.length) : (runTo P p k)[k]'(by rw [runTo_len]; exact hk) = P[k] := by
  unfold runTo
  rw [List.getElem_append_right (by simp; omega)]
  simp [Nat.min_eq_left (Nat.le_of_lt hk)]
theorem runTo_set (P : List Pr) (p : Int) {k : Nat} (hk : k < P.length) : (runTo P p k).set k (onP p P[k]) = runTo P p (k + 1) := by
  unfold runTo
  have h1 : ((P.take k).map (onP p)).length = k := by simp; omega
  rw [List.set_append_right _ _ (by omega), h1, Nat.sub_self, List.drop_eq_getElem_cons hk, List.set_cons_zero, List.take_add_one, List.getElem?_eq_getElem hk]
  rw [Option.toList_some, List.map_append, List.append_assoc]
  rfl
theorem runTo_pid (P : List Pr) (p : Int) (k : Nat) : (runTo P p k).map (fun x => x.pid) = P.map (fun x => x.pid) := by
  unfold runTo
  rw [List.map_append, List.map_map, show (fun x => x.pid) ∘ onP p = fun x => x.pid from funext fun x => rfl, ← List.map_append, List.take_append_drop]
theorem decay_one (b x : Nat) (hb : b ≤ one) (hx : x ≤ one) (w : World) : Calls Try.prog 50 #[.float .f64 b, .float .f64 x, .int .i64 1] w fun e w' => e = .returned (.tuple #[.float .f64 (dk b x), .int .i64 0]) ∧ Below w.heap.size w w' := by
  have h1 : one < 18446744073709551616 := by decide
  refine (decay_yes b x 1 (by omega) (by omega) w).mono ?_
  rintro e w' ⟨r, rfl, hr, hv, hB⟩
  rw [dk_dec hb hx] at hv
  have : r = dk b x := by
    unfold val at hv
    split at hv
    · cases hv
    · exact Option.some.inj hv
  exact ⟨by rw [this], hB⟩
theorem enters_all : ∀ args w, (callFunc 65 args).run Try.prog w = .ok (.enter 65 args) w := fun args w => by
  exact enters_of Try.func65 (by kernel_rfl) rfl args w
/-- What the iterator reads, of a queue. -/
theorem QM.ai {base : Nat} {w : World} {qb nb : Nat} {vr : Value} {vl : Nat → Value} {P : List Pr} {ls : Nat → List Int} (h : QM base w qb nb vr vl P ls) {bx : Nat} (hb : Blk w bx TB [ptr nb]) {ao : Option Addr} {n cap g : Nat} (hv : vr = .slice ao n cap) (hn : P.length = n) (hg : ∀ b o s, ao = some ⟨b, o, s⟩ → b = g) {q : List Int} (hq : P.map (fun x => x.pid) = q) : AI bx nb g n cap ao q w := by
  subst hv
  refine ⟨hb.cell rfl, h.nbox.cell rfl, fun j hj => ?_⟩
  obtain ⟨g', n', cap', hv', hn', -, h1, h2, -, -, -, -, -, e0, -⟩ := h.opened (p := j) (by omega)
  simp only [Value.slice.injEq] at hv'
  obtain ⟨rfl, rfl, rfl⟩ := hv'
  obtain rfl := hg _ _ _ rfl
  refine ⟨rfl, h1, h2, ?_⟩
  rw [e0, ← hq, List.getD_eq_getElem?_getD, List.getElem?_map, List.getElem?_eq_getElem (by omega : j < P.length)]
  rfl

section
variable {base : Nat} {w : World} {qb nb : Nat} {vr : Value} {vl : Nat → Value} {P : List Pr} {ls : Nat → List Int}
set_option maxRecDepth 100000 in
set_option maxHeartbeats 8000000 in
theorem run_any (h : QM base w qb nb vr vl P ls) (hlen : P.length ≤ 60000) (hload : ∀ x ∈ P, x.load ≤ one) (p : Int) :
    Calls Try.prog 25 #[ptr qb, .int .i64 p] w fun e w' => e = .returned (.tuple #[]) ∧ QM base w' qb nb vr vl (runP P p) ls ∧ Keeps base (fun k _ => QX qb nb vr vl k) w w' := by
  refine wide_fit ?_
  obtain ⟨w1, hw1⟩ : ∃ w1, (w.alloc (.cells #[.int .i64 p] TI)).alloc (.cells #[ptr nb] TB) = w1 := ⟨_, rfl⟩
  have hb1 : Below w.heap.size w w1 := by rw [← hw1]; exact ((Below.refl _ _).alloc (Nat.le_refl _) _).alloc (by simp) _
  have hs1 : w1.heap.size = w.heap.size + 2 := by rw [← hw1]; simp
  have hP1 : Blk w1 w.heap.size TI [.int .i64 p] := by rw [← hw1]; exact (Blk.new w TI [.int .i64 p] rfl).alloc _
  have hB1 : Blk w1 (w.heap.size + 1) TB [ptr nb] := by rw [← hw1]; exact Blk.new _ TB [ptr nb] (by simp)
  have c0 := h.box.cell (j := 0) rfl
  have c0' := (h.box.alloc (.cells #[.int .i64 p] TI)).cell (j := 0) rfl
  obtain ⟨ao, cap, hv⟩ := Own.form h.row
  obtain ⟨n, hn⟩ : ∃ n, P.length = n := ⟨_, rfl⟩
  rw [hn] at hv
  obtain ⟨g, hg⟩ : ∃ g, ∀ b o s, ao = some ⟨b, o, s⟩ → b = g := by
    cases ao with
    | none => exact ⟨0, fun b o s e => by cases e⟩
    | some a => exact ⟨a.block, fun b o s e => by cases e; rfl⟩
  have hall := fun w => all_any nb w
  refine callsIn_of_wp_marks Try.func25 rfl trivial ?_ rfl
  simp only [Try.ntmps25, List.size_toArray, List.length_cons, List.length_nil, Nat.reduceAdd, Nat.reduceSub, Array.replicate_succ, Array.replicate_zero, List.push_toArray, List.append_toArray, List.nil_append, List.cons_append]
  gi_wp2
  refine ⟨trivial, rfl, ?_⟩
  refine (fit_wide (hall _)).mono ?_
  rintro e w2 ⟨rfl, rfl⟩
  have hz : (w.alloc (.cells #[.int .i64 p] TI)).heap.size = w.heap.size + 1 := by simp
  rw [hz, show (w.alloc (.cells #[.int .i64 p] TI)).alloc (.cells #[ptr nb] TB) = w1 from hw1]
  have hq1 := h.keep hb1
  have hX : ∀ k, QX qb nb vr vl k → k < w.heap.size := h.tlt
  have hbase := h.base_le
  obtain ⟨q, hq⟩ : ∃ q, P.map (fun x => x.pid) = q := ⟨_, rfl⟩
  have hG := all_gives (fun k o => vr.ownBlock = some k ∧ o.isCells = true) (w.heap.size + 1) nb g n cap ao q (by omega)
  clear hw1 c0 c0' hall hz
  gi_wp2
  refine range_givesB (gf := 65) rfl enters_all hG (fun k o h => h.2) (fun _ => rfl)
    (fun k V => k ≤ n ∧ QM base V qb nb vr vl (runTo P p k) ls ∧ Blk V w.heap.size TI [.int .i64 p] ∧ Blk V (w.heap.size + 1) TB [ptr nb] ∧ Keeps base (fun k _ => QX qb nb vr vl k) w V)
    (fun c k V => False)
    (fun k V V' h hb => ⟨h.1, h.2.1.later hb.bel (fun i hi => by have := hX i hi; omega), h.2.2.1.below hb.bel (by omega), h.2.2.2.1.below hb.bel (by omega), keeps_later h.2.2.2.2 hb.bel (by omega) (by omega)⟩)
    (fun c k V V' h hb => h)
    ⟨Nat.zero_le _, by rw [runTo_zero]; exact hq1, hP1, hB1, Keeps.new hb1 hbase⟩
    (fun k V h => h.2.1.ai h.2.2.2.1 hv (by rw [runTo_len, hn]) hg (by rw [runTo_pid, hq]))
    (fun m x a' V => a' = { tmps := #[ptr qb, .int .i64 p, undef, .pointer (some ⟨w.heap.size, 0, none⟩), .int .i64 (q.getD x 0), .pointer (some ⟨g, x * 4 + 1, none⟩), undef, ptr qb, .pointer (some ⟨qb, 0, none⟩), .pointer (some ⟨qb, 0, none⟩), ptr nb, .func (.func 65) #[] #[ptr (w.heap.size + 1)], .int .i64 (q.getD x 0), .pointer (some ⟨g, x * 4 + 1, none⟩), undef, undef, undef, undef, undef, undef, undef, undef, undef, undef, undef, undef, undef, undef, undef], defers := [] })
    (fun m x a' _ V V' row h hg hr => h)
    ?assign ?body ?done ?stop
  case assign =>
    rintro lq k x V K hsz hI hK
    have hKn := hK _ _ (BN.refl _ (Nat.le_refl _)) hI rfl
    simp only [enc] at hKn ⊢
    obtain ⟨a, ha⟩ : ∃ a, q.getD x 0 = a := ⟨_, rfl⟩
    rw [ha] at hKn ⊢
    gi_wp2
    exact hKn
  case body =>
    rintro lq k x a' m V hx hm hmV ⟨hk, hQ, hPb, hBb, hK⟩ rfl
    obtain ⟨hkn, rfl⟩ : k < n ∧ k = x := by
      obtain ⟨h1, h2⟩ := List.getElem?_eq_some_iff.1 hx
      rw [List.length_range] at h1
      rw [List.getElem_range] at h2
      exact ⟨h1, h2⟩
    have hkP : k < P.length := by omega
    have hkr : k < (runTo P p k).length := by rw [runTo_len]; exact hkP
    obtain ⟨g', n', cap', hv', hn', -, hnc, hcm, hbg, hgq, hgn, hgl, hfz, e0, e1, e2, e3⟩ := hQ.opened hkr
    rw [runTo_get P p hkP] at e3
    have hgg : g' = g := by
      rw [hv] at hv'
      simp only [Value.slice.injEq] at hv'
      exact hg _ _ _ hv'.1
    subst hgg
    have ha : q.getD k 0 = P[k].pid := by rw [← hq, List.getD_eq_getElem?_getD, List.getElem?_map, List.getElem?_eq_getElem hkP]; rfl
    have hset := W_hid (fun (V2 : World) (hb : Below V.heap.size V V2) (u : Nat) (hu : u = dk P[k].load (if P[k].pid = p then one else 0)) => by
      have hQ2 := hQ.keep hb
      rw [hv'] at hQ2
      have h1 := hQ2.set hn' (i := k) hkr 3 (.float .f64 u) (by omega) (onP p P[k]) (by rw [runTo_get P p hkP, hu]; rfl)
      rw [runTo_set P p hkP, ← hv'] at h1
      exact h1)
    have hld := hload P[k] (List.getElem_mem hkP)
    have c1 := hPb.cell (j := 0) rfl
    rw [ha]
    obtain ⟨a, ha2⟩ : ∃ a, P[k].pid = a := ⟨_, rfl⟩
    obtain ⟨ld, hld2⟩ : ∃ a, P[k].load = a := ⟨_, rfl⟩
    rw [hld2] at e3 hld hset
    rw [ha2] at hset ⊢
    have hbt : Hid (∀ (V2 : World) (u : Value), Below V.heap.size V V2 → BN m (fun k o => vr.ownBlock = some k ∧ o.isCells = true) V (V2.setCell ⟨g', k * 4 + 3, none⟩ u)) := W_hid fun V2 u hb => by
      refine ⟨hmV, by have := hb.size; simpa [World.setCell] using this, fun j o hj ho hT => ?_, hb.os, hb.tape, hb.output⟩
      have hjg : j ≠ g' := by
        rintro rfl
        refine hT ⟨by rw [hv']; rfl, ?_⟩
        obtain ⟨cur, hc⟩ := own_obj hQ.row (k := j) (by rw [hv']; rfl)
        rw [ho] at hc
        cases hc
        rfl
      rw [Below.heap_setCell V2 ⟨g', k * 4 + 3, none⟩ u j hjg, hb.block j (by omega)]
      exact ho
    have h1one : (4607182418800017408 : Nat) ≤ one := Nat.le_refl _
    have d1 := W_hid (fun w => decay_one ld one hld (Nat.le_refl _) w)
    have d0 := W_hid (fun w => decay_one ld 0 hld (Nat.zero_le _) w)
    by_cases hap : a = p
    · rw [if_pos hap] at hset
      gi_wp2
      refine ⟨trivial, rfl, ?_⟩
      refine (fit_wide (d1.out _)).mono ?_
      rintro e V2 ⟨rfl, b2⟩
      have f3 : V2.frozen? ⟨g', k * 4 + 3, none⟩ = false := by rw [World.frozen?_of_block (b2.block g' hgl)]; exact hfz _
      have x3 : V2.cell? ⟨g', k * 4 + 3, none⟩ = some (.float .f64 ld) := by rw [b2.cell (p := ⟨g', k * 4 + 3, none⟩) hgl]; exact e3
      obtain ⟨s1, s2⟩ := hset.out V2 b2 _ rfl
      have hend : Hid (BN m (fun k o => vr.ownBlock = some k ∧ o.isCells = true) V (V2.setCell ⟨g', k * 4 + 3, none⟩ (.float .f64 (dk ld 4607182418800017408))) ∧ k + 1 ≤ n ∧ QM base (V2.setCell ⟨g', k * 4 + 3, none⟩ (.float .f64 (dk ld 4607182418800017408))) qb nb vr vl (runTo P p (k + 1)) ls ∧ Blk (V2.setCell ⟨g', k * 4 + 3, none⟩ (.float .f64 (dk ld 4607182418800017408))) w.heap.size TI [.int .i64 p] ∧ Blk (V2.setCell ⟨g', k * 4 + 3, none⟩ (.float .f64 (dk ld 4607182418800017408))) (w.heap.size + 1) TB [ptr nb] ∧ Keeps base (fun k _ => QX qb nb vr vl k) w (V2.setCell ⟨g', k * 4 + 3, none⟩ (.float .f64 (dk ld 4607182418800017408)))) := W_hid
        ⟨hbt.out V2 _ b2, hkn, s1, (hPb.keep b2).far (p := ⟨g', k * 4 + 3, none⟩) (by have := hX g' (.inr (.inr (.inl (by rw [hv']; rfl)))); show w.heap.size ≠ g'; omega) _, (hBb.keep b2).far (p := ⟨g', k * 4 + 3, none⟩) (by have := hX g' (.inr (.inr (.inl (by rw [hv']; rfl)))); show w.heap.size + 1 ≠ g'; omega) _, hK.trans ((Keeps.new b2 (Nat.le_trans hbase hK.size)).trans s2)⟩
      clear hset s1 s2 hbt
      gi_wp2
      exact hend.out
    · rw [if_neg hap] at hset
      gi_wp2
      refine ⟨trivial, rfl, ?_⟩
      refine (fit_wide (d0.out _)).mono ?_
      rintro e V2 ⟨rfl, b2⟩
      have f3 : V2.frozen? ⟨g', k * 4 + 3, none⟩ = false := by rw [World.frozen?_of_block (b2.block g' hgl)]; exact hfz _
      have x3 : V2.cell? ⟨g', k * 4 + 3, none⟩ = some (.float .f64 ld) := by rw [b2.cell (p := ⟨g', k * 4 + 3, none⟩) hgl]; exact e3
      obtain ⟨s1, s2⟩ := hset.out V2 b2 _ rfl
      have hend : Hid (BN m (fun k o => vr.ownBlock = some k ∧ o.isCells = true) V (V2.setCell ⟨g', k * 4 + 3, none⟩ (.float .f64 (dk ld 0))) ∧ k + 1 ≤ n ∧ QM base (V2.setCell ⟨g', k * 4 + 3, none⟩ (.float .f64 (dk ld 0))) qb nb vr vl (runTo P p (k + 1)) ls ∧ Blk (V2.setCell ⟨g', k * 4 + 3, none⟩ (.float .f64 (dk ld 0))) w.heap.size TI [.int .i64 p] ∧ Blk (V2.setCell ⟨g', k * 4 + 3, none⟩ (.float .f64 (dk ld 0))) (w.heap.size + 1) TB [ptr nb] ∧ Keeps base (fun k _ => QX qb nb vr vl k) w (V2.setCell ⟨g', k * 4 + 3, none⟩ (.float .f64 (dk ld 0)))) := W_hid
        ⟨hbt.out V2 _ b2, hkn, s1, (hPb.keep b2).far (p := ⟨g', k * 4 + 3, none⟩) (by have := hX g' (.inr (.inr (.inl (by rw [hv']; rfl)))); show w.heap.size ≠ g'; omega) _, (hBb.keep b2).far (p := ⟨g', k * 4 + 3, none⟩) (by have := hX g' (.inr (.inr (.inl (by rw [hv']; rfl)))); show w.heap.size + 1 ≠ g'; omega) _, hK.trans ((Keeps.new b2 (Nat.le_trans hbase hK.size)).trans s2)⟩
      clear hset s1 s2 hbt
      gi_wp2
      exact hend.out
  case done =>
    rintro D V hD ⟨hk, hQ, hPb, hBb, hK⟩ hkp hKD
    gi_wp2
    refine ⟨by simp, .inl ⟨_, _, rfl, run_takeDeferred hKD, ?_⟩⟩
    have hb2 : ∀ o, Below w1.heap.size V (V.putObj D o) := fun o => below_put o hD
    rw [List.length_range] at hQ
    obtain rfl : n = P.length := hn.symm
    rw [runTo_all] at hQ
    exact ⟨_, results_none rfl _ _ _, rfl, hQ.later (hb2 _) (fun i hi => by have := hX i hi; omega), keeps_later hK (hb2 _) (by omega) (by omega)⟩
  case stop =>
    rintro D c k V hD hlt h hKD
    exact h.elim
end
end SD
end Go.Proofs.Ytmikgkelmdgckaa

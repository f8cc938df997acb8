/- The law InodeDoes of layer 11 (package haywardlaw11): for every input it returns true, and its arguments read as before. No further condition. -/
import Derived.Test.YtieneehpijilpaaIL04
import Derived.Test.YtieneehpijilpaaIL02
import Derived.ShutString
import Derived.ChangeOld
import Derived.Test.YtieneehpijilpaaIL03
import Derived.Deep.Slices

/- Contracts of the document's Write, Trunc. -/
namespace Go.Proofs.Ytieneehpijilpaa
open Go.ChangeShapes Go.WideShapes Go.ChangeAt Go.RowKit
set_option linter.unusedVariables false
set_option linter.unusedSimpArgs false
namespace IN
section
variable {base : Nat} {rg : Nat} {I B L k : Nat} {S : Int → Option Nd} {z3 z4 z5 z6 : Int} {v : Value} {q : List RE}
theorem drew1_keep (w : World) : Below w.heap.size w w.drew := ⟨rfl, rfl, rfl, Nat.le_refl _, fun _ _ => rfl⟩
theorem RM.fz {w : World} {I B L : Int} {g N cap i : Nat} (h : RM base w rg I B L z3 z4 z5 z6 (.slice (some ⟨g, 0, none⟩) N cap) q) (hi : i < q.length) : ∀ j, w.frozen? ⟨g, j, none⟩ = false := by
  obtain ⟨g', cap', e, -, -, -, -, -, h6, -⟩ := h.el hi
  simp only [Value.slice.injEq, Option.some.injEq, Addr.mk.injEq, and_true, true_and] at e
  obtain ⟨rfl, -, rfl⟩ := e
  exact h6
theorem RM.set2 {w : World} {I B L : Int} {g N cap i : Nat} {x y : RE} (h : RM base w rg I B L z3 z4 z5 z6 (.slice (some ⟨g, 0, none⟩) N cap) (q.set i x)) (hN : q.length = N) (hi : i < q.length) (m : Nat) (u : Value) (hm : m < 7) (hy : (rrow x).set m u = rrow y) :
    RM base (w.setCell ⟨g, i * 7 + m, none⟩ u) rg I B L z3 z4 z5 z6 (.slice (some ⟨g, 0, none⟩) N cap) (q.set i y) ∧ Keeps base DT w (w.setCell ⟨g, i * 7 + m, none⟩ u) := by
  have := h.set (by rw [List.length_set]; exact hN) (i := i) (by rw [List.length_set]; exact hi) m u hm y (by rw [List.getElem_set_self]; exact hy)
  rwa [List.set_set] at this
theorem RM.cset {w : World} {I B L : Int} {g N cap i : Nat} {x : RE} (h : RM base w rg I B L z3 z4 z5 z6 (.slice (some ⟨g, 0, none⟩) N cap) (q.set i x)) (hi : i < q.length) :
    w.cell? ⟨rg, 7, none⟩ = some (.slice (some ⟨g, 0, none⟩) N cap) ∧ (∀ j, w.frozen? ⟨g, j, none⟩ = false) ∧ ∀ m u, (rrow x)[m]? = some u → w.cell? ⟨g, i * 7 + m, none⟩ = some u := by
  obtain ⟨g', cap', e, -, -, -, -, -, h6, h7⟩ := h.el (i := i) (by rw [List.length_set]; exact hi)
  simp only [Value.slice.injEq, Option.some.injEq, Addr.mk.injEq, and_true, true_and] at e
  obtain ⟨rfl, -, rfl⟩ := e
  refine ⟨h.box.cell rfl, h6, fun m u hu => h7 m u ?_⟩
  rw [List.getElem_set_self]; exact hu
def psum (l : List (Nat × Nd)) (j : Nat) : Nat := ((l.take j).map fun x => EM.cnt x.2.l).sum
theorem psum_succ (l : List (Nat × Nd)) (j : Nat) (hj : j < l.length) : psum l (j + 1) = psum l j + EM.cnt l[j].2.l := by
  unfold psum
  rw [List.take_succ_eq_append_getElem hj, List.map_append, List.sum_append]
  simp
theorem psum_le (l : List (Nat × Nd)) (j : Nat) : psum l j ≤ (l.map fun x => EM.cnt x.2.l).sum := by
  unfold psum
  conv => rhs; rw [← List.take_append_drop j l, List.map_append, List.sum_append]
  omega
theorem psum_all (l : List (Nat × Nd)) (j : Nat) (h : l.length ≤ j) : psum l j = (l.map fun x => EM.cnt x.2.l).sum := by
  unfold psum; rw [List.take_of_length_le h]

set_option maxRecDepth 100000 in
set_option maxHeartbeats 8000000 in
theorem rWr_no (n f : Int) (s : ByteArray) (w : World) (hf : Fine I L B k S) (hI : I ≤ 4096) (h : RS base w rg I B L (lst S I)) (r : Int) (hr : (askR S n fun d => if d.kind = 1 then (0 : Int) else 14) = r) (hr0 : r ≠ 0) :
    Calls Try.prog 32 #[.pointer (some ⟨rg, 0, none⟩), .int .i64 n, .int .i64 f, .string s] w fun e w' => e = .returned (.int .i64 r) ∧ w = w' := by
  obtain ⟨z3, z4, z5, z6, v, q, hM, hF⟩ := h
  have cA := W_hid (rfile_no n w hf hI hM hF r hr hr0)
  have hr1 : (r != 0) = true := by simp [hr0]
  replace hr0 := W_hid hr0
  clear hM hF hr
  go_enter Try.func32, Try.ntmps32
  go_wp2_with fail
  refine cA.out.mono ?_
  rintro e w1 ⟨rfl, rfl⟩
  go_wp2_with fail
  go_ret
  exact ⟨rfl, rfl⟩

set_option maxRecDepth 100000 in
set_option maxHeartbeats 16000000 in
theorem rWr_yes (n f : Int) (s : ByteArray) (d : Nd) (w : World) (hf : Fine I L B k S) (hI : I ≤ 4096) (hB : B ≤ 16777216) (h : RS base w rg I B L (lst S I)) (hff : I64 f) (hs : s.size ≤ maxLen) (hS : S n = some d) (hk : d.kind = 1) :
    Calls Try.prog 32 #[.pointer (some ⟨rg, 0, none⟩), .int .i64 n, .int .i64 f, .string s] w (ROut base rg I B L w (wrErr I B S n f s) (lst (wrS I B S n f s) I)) := by
  obtain ⟨E, hE⟩ : ∃ E, wrE d.l f s = E := ⟨_, rfl⟩
  have hSS : ∀ x, wrErr I B S n f s = x ↔ (if E = 0 then (if tot S I + EM.cnt (EM.wr d.l f s) ≤ B + EM.cnt d.l then (0 : Int) else 21) else E) = x := fun x => by unfold wrErr askR; rw [hS]; simp [hk, hE]
  have hSt : wrS I B S n f s = if E = 0 ∧ tot S I + EM.cnt (EM.wr d.l f s) ≤ B + EM.cnt d.l then upd S n (some (wNd d f s)) else S := by unfold wrS; rw [hS]; simp [hk, hE]
  obtain ⟨z3, z4, z5, z6, v, q, hM, hF⟩ := h
  obtain ⟨p, mm, hnm, hm1, hmI, hp, hat, hbef, hset, hdel⟩ := pl_some hf hS
  have hg := hf.good _ d hS
  have hwg := W_hid (fun he => wr_good (s := s) (f := f) hg hk he)
  have hpq : p < q.length := by rw [hF.len]; exact hp
  have hEF := hF.at_ p hpq hp
  rw [hat hp] at hEF
  have cA := W_hid (rfile_yes n w hI hM hF hp (hat hp) hnm hbef hk)
  obtain ⟨g, N, cap, rfl, hN, hpN, hNc, hcm, hbg, hgr, hgl, hrl, hgf, hrf, c0, c1, c2, c7, x0, x1, x2, x3, x4, x5, x6⟩ := hM.opened hpq
  obtain ⟨ao, nn, cc, hv, hx1, -⟩ := hEF.v
  rw [hv] at x6
  have cW := Go.Proofs.Ytieneehpijilpaa.rWrite_any ao nn cc d.l f s w hx1 (ok_fit (Int.le_refl _) hg.ok) hff hs
  rw [hE] at cW
  replace cW := W_hid cW
  have h0 : (0 : Int) ≤ (p : Int) := by omega
  have hgr2 : ¬ rg = g := fun e => hgr e.symm
  have hgr1 : ¬ g = rg := hgr
  have hlow := W_hid hM.low
  have H := W_hid hM
  have HF := W_hid hF
  have HE := W_hid hEF
  have HN := W_hid hN
  have HG := W_hid hg
  have HFn := W_hid hf
  have hatp := W_hid (hat hp)
  have hHp := W_hid hp
  replace hpq := W_hid hpq
  replace hset := W_hid hset
  replace hSS := W_hid hSS
  replace hSt := W_hid hSt
  replace hE := W_hid hE
  have hll : (lst S I).length = N := by rw [← hF.len]; exact hN
  have hll' := W_hid hll
  have hN4 : N ≤ 4096 := by have := lst_len S I; omega
  have htot := hf.tot
  have hnd := ok_cnt hg.ok
  have hpN' : p < N := by omega
  clear hM hF hEF hN hg hat hbef hdel hv hx1 c0 c2 x0 x1 x2 x3 x4 x5 hnm hf hgr hll
  go_enter Try.func32, Try.ntmps32
  go_wp2_with fail
  refine cA.out.mono ?_
  rintro e w1 ⟨rfl, rfl⟩
  go_wp2_with fail
  refine cW.out.mono ?_
  rintro e w2 ⟨v2, rfl, ho2, b2⟩
  by_cases he : E = 0
  · obtain ⟨hGw, hL2, hok2, hf0, hf1⟩ := hwg.out (hE.out.trans he)
    subst he
    rw [hL2] at ho2
    have hX2 := XE.own ho2
    have hown := ok_cnt hok2
    have hX2c := hX2
    obtain ⟨ao2, nn2, cc2, hv2, hxs2, -⟩ := hX2c
    have cS := rStored_any ao2 nn2 cc2 (EM.wr d.l f s) w2 hxs2 (ok_fit (Int.le_refl _) hok2)
    have es1 : Go.Proofs.Ytieneehpijilpaa.stV (EM.wr d.l f s) = (EM.cnt (EM.wr d.l f s) : Int) := by unfold Go.Proofs.Ytieneehpijilpaa.stV; rw [if_pos hok2]
    have es2 : stE (EM.wr d.l f s) = 0 := by unfold stE; rw [if_pos hok2]
    rw [es1, es2] at cS
    replace cS := W_hid cS
    subst hv2
    have hX2 := W_hid hX2
    have b2 := W_hid b2
    have hGw := W_hid hGw
    obtain ⟨ow, how⟩ : ∃ ow : Nat, EM.cnt (EM.wr d.l f s) = ow := ⟨_, rfl⟩
    rw [how] at hown cS hSS hSt
    have how := W_hid how
    clear ho2 hxs2 hL2 hok2 es1 es2 cW cA
    go_wp2_with fail
    refine cS.out.mono ?_
    rintro e w3 ⟨rfl, b3⟩
    have b4 := W_hid (b2.out.trans (b3.mono b2.out.size))
    have H3 := W_hid (H.out.keep b4.out)
    have HF3 := W_hid (HF.out.keep b4.out)
    have HE3 := W_hid (HE.out.move fun b cur hc => b4.out.block b (lt_of_some hc))
    have hX3 := W_hid (hX2.out.keep b3)
    have d7 := cellkept b4.out c7
    have d1 := cellkept b4.out c1
    have hfz : ∀ j, w3.frozen? ⟨g, j, none⟩ = false := by
      have h' := H3.out.opened hpq.out
      obtain ⟨g', N', cap', hv', -, -, -, -, -, -, -, -, hz, -⟩ := h'
      simp only [Value.slice.injEq, Option.some.injEq, Addr.mk.injEq, and_true, true_and] at hv'
      obtain ⟨rfl, -, -⟩ := hv'
      exact hz
    clear cS c7 c1 x6 hgf hrf b3 b2
    go_wp2_with fail
    go_loopw [14, 15] (fun u i wr => ∃ (j : Nat) (t : Int), j ≤ N ∧ i = .int .i64 (j : Int) ∧ u = .int .i64 t ∧ Hid (t = (ow : Int) + (psum (lst S I) j : Int) - (if p < j then (EM.cnt d.l : Int) else 0)) ∧ w3 = wr) (fun _ i _ => N - (intOf i).toNat)
    case atStart => exact ⟨0, (ow : Int), Nat.zero_le _, rfl, rfl, W_hid (by simp [psum]), by first | trivial | rfl⟩
    case round =>
      obtain ⟨j, t, hj, rfl, rfl, ht, hwr⟩ := hrel
      subst hwr
      have hps := psum_le (lst S I) j
      have hps2 : psum (lst S I) j ≤ tot S I := hps
      by_cases hlt : j < N
      · by_cases hjp : j = p
        · subst hjp
          have hsum : Hid (t = (ow : Int) + (psum (lst S I) (j + 1) : Int) - (if j < j + 1 then (EM.cnt d.l : Int) else 0)) := W_hid (by
            rw [psum_succ _ _ hHp.out, hatp.out, if_pos (by omega)]
            have := ht.out
            rw [if_neg (by omega)] at this
            simp only
            omega)
          clear ht hps
          go_wp2_with fail
          go_roundw
          case rel => exact ⟨j + 1, t, by omega, by go_num, by first | trivial | rfl, hsum, by first | trivial | rfl⟩
          case measure => simp [intOf]; omega
        · have hjq : j < q.length := by rw [HN.out]; exact hlt
          have hjl : j < (lst S I).length := by rw [hll'.out]; exact hlt
          obtain ⟨g', N', cap', hv', hN', hpN2, -, -, -, -, -, -, -, -, -, -, -, -, y0, y1, y2, y3, y4, y5, -⟩ := H3.out.opened hjq
          simp only [Value.slice.injEq, Option.some.injEq, Addr.mk.injEq, and_true, true_and] at hv'
          obtain ⟨rfl, rfl, rfl⟩ := hv'
          have hst := (HF3.out.at_ j hjq hjl).st
          rw [hst] at y5
          obtain ⟨cj, hcj⟩ : ∃ cj : Nat, EM.cnt (lst S I)[j].2.l = cj := ⟨_, rfl⟩
          rw [hcj] at y5
          have hsuc := psum_succ (lst S I) j hjl
          have hsl : psum (lst S I) (j + 1) ≤ tot S I := psum_le (lst S I) (j + 1)
          rw [hcj] at hsuc
          have htt : -2097152 ≤ t ∧ t ≤ 33554432 := by
            have := ht.out
            split at this <;> omega
          have hw : IntKind.i64.wrap (t + (cj : Int)) = t + (cj : Int) := IntWalk.i64_in _ (by omega)
          have hsum : Hid (t + (cj : Int) = (ow : Int) + (psum (lst S I) (j + 1) : Int) - (if p < j + 1 then (EM.cnt d.l : Int) else 0)) := W_hid (by
            rw [hsuc]
            have := ht.out
            by_cases e : p < j
            · rw [if_pos e] at this; rw [if_pos (by omega)]; push_cast; omega
            · rw [if_neg e] at this; rw [if_neg (by omega)]; push_cast; omega)
          have hne : ¬ (j : Int) = (p : Int) := by omega
          have hne2 : ((j : Int) != (p : Int)) = true := by simp; omega
          replace hne := W_hid hne
          clear ht hps hN' hjq hjl hst hcj hsuc y0 y1 y2 y3 y4
          go_wp2_with fail
          go_roundw
          case rel => exact ⟨j + 1, t + (cj : Int), by omega, by go_num, by first | trivial | rfl, hsum, by first | trivial | rfl⟩
          case measure => simp [intOf]; omega
      · obtain rfl : j = N := by omega
        have htv : t = (ow : Int) + (tot S I : Int) - (EM.cnt d.l : Int) := by
          have := ht.out
          rw [if_pos hpN', psum_all _ _ (by rw [hll'.out]; exact Nat.le_refl _)] at this
          exact this
        by_cases hgood : tot S I + ow ≤ B + EM.cnt d.l
        · have hle : ¬ (B : Int) < t := by omega
          have e1 : Hid (wrErr I B S n f s = 0) := W_hid ((hSS.out _).2 (by simp [hgood]))
          have e2 : Hid (lst (wrS I B S n f s) I = (lst S I).set p (mm, wNd d f s)) := W_hid (by rw [show wrS I B S n f s = upd S n (some (wNd d f s)) from by rw [hSt.out]; simp [hgood], hset.out])
          have R1 := H3.out.set HN.out hpq.out 6 (.slice ao2 nn2 cc2) (by decide) { q[p]'hpq.out with v := .slice ao2 nn2 cc2 } rfl
          have R2 := R1.1.set2 HN.out hpq.out 5 (.int .i64 (ow : Int)) (by decide) (y := { q[p]'hpq.out with v := .slice ao2 nn2 cc2, st := (ow : Int) }) rfl
          obtain ⟨a7, az, ac⟩ := R1.1.cset hpq.out
          obtain ⟨f7, fz, fc⟩ := R2.1.cset hpq.out
          have f4 : _ = some (Value.int .i64 d.size) := (fc 4 _ rfl).trans (by rw [HE3.out.sz])
          have a5 := ac 5 _ rfl
          have d6 : w3.cell? ⟨g, p * 7 + 6, none⟩ = some (q[p]'hpq.out).v := by
            obtain ⟨g', N', cap', hv', -, -, -, -, -, -, -, -, -, -, -, -, -, -, -, -, -, -, -, -, y6⟩ := H3.out.opened hpq.out
            simp only [Value.slice.injEq, Option.some.injEq, Addr.mk.injEq, and_true, true_and] at hv'
            obtain ⟨rfl, -, -⟩ := hv'
            exact y6
          have K2 := W_hid (((Keeps.new (T := DT) b4.out hlow.out).trans R1.2).trans R2.2)
          have R2 := W_hid R2
          replace htv := W_hid htv
          replace ht := W_hid ht.out
          clear R1 ac fc hgood ht htv hps hps2
          by_cases hz : s.size = 0
          · obtain ⟨s1, s2⟩ := xempty hz
            have E3 : EF w3 { q[p]'hpq.out with v := .slice ao2 nn2 cc2, st := (ow : Int) } (mm, wNd d f s) := by
              refine ⟨HE3.out.n, HE3.out.kd, HE3.out.lk, HE3.out.op, ?_, ?_, hX3.out⟩
              · show (q[p]'hpq.out).sz = if s.size = 0 then d.size else max d.size (f + s.size)
                rw [if_pos hz]; exact HE3.out.sz
              · show (ow : Int) = (EM.cnt (EM.wr d.l f s) : Int)
                rw [how.out]
            have FF := W_hid (HF3.out.set p E3)
            have ez : s = ⟨#[]⟩ := EM.ba_inj (List.eq_nil_of_length_eq_zero (by rw [EM.list_size]; exact hz))
            replace ez := W_hid ez
            replace hz := W_hid hz
            clear E3
            go_wp2_with fail
            go_ret
            rw [e1.out, e2.out]
            have K0 : Keeps base DT w3 _ := (H3.out.set HN.out hpq.out 6 (.slice ao2 nn2 cc2) (by decide) { q[p]'hpq.out with v := .slice ao2 nn2 cc2 } rfl).2.trans R2.out.2
            exact ⟨rfl, ⟨_, _, _, _, _, _, R2.out.1, FF.out.keeps K0 (by simp [DT])⟩, K2.out⟩
          · obtain ⟨s1, s2⟩ := xfull hz
            obtain ⟨mx, hmx⟩ : ∃ mx, (if d.size < f + (s.size : Int) then f + (s.size : Int) else d.size) = mx := ⟨_, rfl⟩
            have hmax : max d.size (f + (s.size : Int)) = mx := by rw [← hmx]; split <;> omega
            have hw : IntKind.i64.wrap (f + (s.size : Int)) = f + (s.size : Int) := IntWalk.i64_in _ (by omega)
            have R3 := R2.out.1.set2 HN.out hpq.out 4 (.int .i64 mx) (by decide) (y := { q[p]'hpq.out with v := .slice ao2 nn2 cc2, st := (ow : Int), sz := mx }) rfl
            have E3 : EF w3 { q[p]'hpq.out with v := .slice ao2 nn2 cc2, st := (ow : Int), sz := mx } (mm, wNd d f s) := by
              refine ⟨HE3.out.n, HE3.out.kd, HE3.out.lk, HE3.out.op, ?_, ?_, hX3.out⟩
              · show mx = if s.size = 0 then d.size else max d.size (f + s.size)
                rw [if_neg hz]; exact hmax.symm
              · show (ow : Int) = (EM.cnt (EM.wr d.l f s) : Int)
                rw [how.out]
            have FF := W_hid (HF3.out.set p E3)
            have R3 := W_hid R3
            replace hz := W_hid hz
            clear E3 hmax
            go_wp2_with fail
            refine UpTo.region (S := (fun w' => w'.cell? ⟨rg, 7, none⟩ = some (.slice (some ⟨g, 0, none⟩) j cap) ∧ w'.cell? ⟨g, p * 7 + 4, none⟩ = some (.int .i64 d.size))) (m := 22) (by kernel_rfl) ⟨f7, f4⟩ (fun hHeld => ?_)
            refine UpTo.take (i := 0) (v := .pointer (some ⟨rg, 0, none⟩)) rfl (by kernel_rfl) (by kernel_rfl) (by kernel_rfl) (by kernel_rfl) (fun _ _ _ h => h) (Or.inl ⟨by rfl, fun w0 ⟨s1, s2⟩ => ?_⟩) hHeld ?_
            · go_simp
            try simp only [Act.put, List.setIfInBounds_toArray, List.set_cons_zero, List.set_cons_succ, List.getElem_toArray, List.getElem_cons_zero, List.getElem_cons_succ]
            refine UpTo.take (i := 1) (v := .pointer (some ⟨rg, 0, none⟩)) rfl (by kernel_rfl) (by kernel_rfl) (by kernel_rfl) (by kernel_rfl) (fun _ _ _ h => h) (Or.inl ⟨by rfl, fun w0 ⟨s1, s2⟩ => ?_⟩) hHeld ?_
            · go_simp
            try simp only [Act.put, List.setIfInBounds_toArray, List.set_cons_zero, List.set_cons_succ, List.getElem_toArray, List.getElem_cons_zero, List.getElem_cons_succ]
            refine UpTo.take (i := 2) (v := .pointer (some ⟨rg, 7, none⟩)) rfl (by kernel_rfl) (by kernel_rfl) (by kernel_rfl) (by kernel_rfl) (fun _ _ _ h => h) (Or.inl ⟨by rfl, fun w0 ⟨s1, s2⟩ => ?_⟩) hHeld ?_
            · go_simp
            try simp only [Act.put, List.setIfInBounds_toArray, List.set_cons_zero, List.set_cons_succ, List.getElem_toArray, List.getElem_cons_zero, List.getElem_cons_succ]
            refine UpTo.take (i := 3) (v := .slice (some ⟨g, 0, none⟩) j cap) rfl (by kernel_rfl) (by kernel_rfl) (by kernel_rfl) (by kernel_rfl) (fun _ _ _ h => h) (Or.inl ⟨by rfl, fun w0 ⟨s1, s2⟩ => ?_⟩) hHeld ?_
            · go_simp
            try simp only [Act.put, List.setIfInBounds_toArray, List.set_cons_zero, List.set_cons_succ, List.getElem_toArray, List.getElem_cons_zero, List.getElem_cons_succ]
            refine UpTo.take (i := 4) (v := .int .i64 (p : Int)) rfl (by kernel_rfl) (by kernel_rfl) (by kernel_rfl) (by kernel_rfl) (fun _ _ _ h => h) (Or.inl ⟨by rfl, fun w0 ⟨s1, s2⟩ => ?_⟩) hHeld ?_
            · go_simp
            try simp only [Act.put, List.setIfInBounds_toArray, List.set_cons_zero, List.set_cons_succ, List.getElem_toArray, List.getElem_cons_zero, List.getElem_cons_succ]
            refine UpTo.take (i := 5) (v := .pointer (some ⟨rg, 0, none⟩)) rfl (by kernel_rfl) (by kernel_rfl) (by kernel_rfl) (by kernel_rfl) (fun _ _ _ h => h) (Or.inl ⟨by rfl, fun w0 ⟨s1, s2⟩ => ?_⟩) hHeld ?_
            · go_simp
            try simp only [Act.put, List.setIfInBounds_toArray, List.set_cons_zero, List.set_cons_succ, List.getElem_toArray, List.getElem_cons_zero, List.getElem_cons_succ]
            refine UpTo.take (i := 6) (v := .pointer (some ⟨rg, 0, none⟩)) rfl (by kernel_rfl) (by kernel_rfl) (by kernel_rfl) (by kernel_rfl) (fun _ _ _ h => h) (Or.inl ⟨by rfl, fun w0 ⟨s1, s2⟩ => ?_⟩) hHeld ?_
            · go_simp
            try simp only [Act.put, List.setIfInBounds_toArray, List.set_cons_zero, List.set_cons_succ, List.getElem_toArray, List.getElem_cons_zero, List.getElem_cons_succ]
            refine UpTo.take (i := 7) (v := .pointer (some ⟨rg, 7, none⟩)) rfl (by kernel_rfl) (by kernel_rfl) (by kernel_rfl) (by kernel_rfl) (fun _ _ _ h => h) (Or.inl ⟨by rfl, fun w0 ⟨s1, s2⟩ => ?_⟩) hHeld ?_
            · go_simp
            try simp only [Act.put, List.setIfInBounds_toArray, List.set_cons_zero, List.set_cons_succ, List.getElem_toArray, List.getElem_cons_zero, List.getElem_cons_succ]
            refine UpTo.take (i := 8) (v := .slice (some ⟨g, 0, none⟩) j cap) rfl (by kernel_rfl) (by kernel_rfl) (by kernel_rfl) (by kernel_rfl) (fun _ _ _ h => h) (Or.inl ⟨by rfl, fun w0 ⟨s1, s2⟩ => ?_⟩) hHeld ?_
            · go_simp
            try simp only [Act.put, List.setIfInBounds_toArray, List.set_cons_zero, List.set_cons_succ, List.getElem_toArray, List.getElem_cons_zero, List.getElem_cons_succ]
            refine UpTo.take (i := 9) (v := .int .i64 (p : Int)) rfl (by kernel_rfl) (by kernel_rfl) (by kernel_rfl) (by kernel_rfl) (fun _ _ _ h => h) (Or.inl ⟨by rfl, fun w0 ⟨s1, s2⟩ => ?_⟩) hHeld ?_
            · go_simp
            try simp only [Act.put, List.setIfInBounds_toArray, List.set_cons_zero, List.set_cons_succ, List.getElem_toArray, List.getElem_cons_zero, List.getElem_cons_succ]
            refine UpTo.take (i := 10) (v := .pointer (some ⟨g, p * 7, none⟩)) rfl (by kernel_rfl) (by kernel_rfl) (by kernel_rfl) (by kernel_rfl) (fun _ _ _ h => h) (Or.inl ⟨by rfl, fun w0 ⟨s1, s2⟩ => ?_⟩) hHeld ?_
            · go_simp
            try simp only [Act.put, List.setIfInBounds_toArray, List.set_cons_zero, List.set_cons_succ, List.getElem_toArray, List.getElem_cons_zero, List.getElem_cons_succ]
            refine UpTo.take (i := 11) (v := .pointer (some ⟨g, p * 7, none⟩)) rfl (by kernel_rfl) (by kernel_rfl) (by kernel_rfl) (by kernel_rfl) (fun _ _ _ h => h) (Or.inl ⟨by rfl, fun w0 ⟨s1, s2⟩ => ?_⟩) hHeld ?_
            · go_simp
            try simp only [Act.put, List.setIfInBounds_toArray, List.set_cons_zero, List.set_cons_succ, List.getElem_toArray, List.getElem_cons_zero, List.getElem_cons_succ]
            refine UpTo.take (i := 12) (v := .pointer (some ⟨g, p * 7 + 4, none⟩)) rfl (by kernel_rfl) (by kernel_rfl) (by kernel_rfl) (by kernel_rfl) (fun _ _ _ h => h) (Or.inl ⟨by rfl, fun w0 ⟨s1, s2⟩ => ?_⟩) hHeld ?_
            · go_simp
            try simp only [Act.put, List.setIfInBounds_toArray, List.set_cons_zero, List.set_cons_succ, List.getElem_toArray, List.getElem_cons_zero, List.getElem_cons_succ]
            refine UpTo.take (i := 13) (v := .int .i64 d.size) rfl (by kernel_rfl) (by kernel_rfl) (by kernel_rfl) (by kernel_rfl) (fun _ _ _ h => h) (Or.inl ⟨by rfl, fun w0 ⟨s1, s2⟩ => ?_⟩) hHeld ?_
            · go_simp
            try simp only [Act.put, List.setIfInBounds_toArray, List.set_cons_zero, List.set_cons_succ, List.getElem_toArray, List.getElem_cons_zero, List.getElem_cons_succ]
            refine UpTo.take (i := 14) (v := .int .i64 f) rfl (by kernel_rfl) (by kernel_rfl) (by kernel_rfl) (by kernel_rfl) (fun _ _ _ h => h) (Or.inl ⟨by rfl, fun w0 ⟨s1, s2⟩ => ?_⟩) hHeld ?_
            · go_simp
            try simp only [Act.put, List.setIfInBounds_toArray, List.set_cons_zero, List.set_cons_succ, List.getElem_toArray, List.getElem_cons_zero, List.getElem_cons_succ]
            refine UpTo.take (i := 15) (v := .string s) rfl (by kernel_rfl) (by kernel_rfl) (by kernel_rfl) (by kernel_rfl) (fun _ _ _ h => h) (Or.inl ⟨by rfl, fun w0 ⟨s1, s2⟩ => ?_⟩) hHeld ?_
            · go_simp
            try simp only [Act.put, List.setIfInBounds_toArray, List.set_cons_zero, List.set_cons_succ, List.getElem_toArray, List.getElem_cons_zero, List.getElem_cons_succ]
            refine UpTo.take (i := 16) (v := .int .i64 (s.size : Int)) rfl (by kernel_rfl) (by kernel_rfl) (by kernel_rfl) (by kernel_rfl) (fun _ _ _ h => h) (Or.inl ⟨by rfl, fun w0 ⟨s1, s2⟩ => ?_⟩) hHeld ?_
            · go_simp
            try simp only [Act.put, List.setIfInBounds_toArray, List.set_cons_zero, List.set_cons_succ, List.getElem_toArray, List.getElem_cons_zero, List.getElem_cons_succ]
            refine UpTo.take (i := 17) (v := .int .i64 (f + (s.size : Int))) rfl (by kernel_rfl) (by kernel_rfl) (by kernel_rfl) (by kernel_rfl) (fun _ _ _ h => h) (Or.inl ⟨by rfl, fun w0 ⟨s1, s2⟩ => ?_⟩) hHeld ?_
            · go_simp
            try simp only [Act.put, List.setIfInBounds_toArray, List.set_cons_zero, List.set_cons_succ, List.getElem_toArray, List.getElem_cons_zero, List.getElem_cons_succ]
            refine UpTo.take (i := 18) (v := .int .i64 mx) rfl (by kernel_rfl) (by kernel_rfl) (by kernel_rfl) (by kernel_rfl) (fun _ _ _ h => h) (Or.inl ⟨by rfl, fun w0 ⟨s1, s2⟩ => ?_⟩) hHeld ?_
            · go_simp
            try simp only [Act.put, List.setIfInBounds_toArray, List.set_cons_zero, List.set_cons_succ, List.getElem_toArray, List.getElem_cons_zero, List.getElem_cons_succ]
            refine UpTo.one (i := 19) (by kernel_rfl) rfl rfl (fun K hK => ?_)
            go_simp
            refine hK.out _ _ ⟨f7, f4⟩ ?_
            clear hK K
            try simp only [Act.put, List.setIfInBounds_toArray, List.set_cons_zero, List.set_cons_succ, List.getElem_toArray, List.getElem_cons_zero, List.getElem_cons_succ]
            refine UpTo.one (i := 20) (by kernel_rfl) rfl rfl (fun K hK => ?_)
            go_simp
            refine hK.out _ _ ⟨f7, f4⟩ ?_
            clear hK K
            try simp only [Act.put, List.setIfInBounds_toArray, List.set_cons_zero, List.set_cons_succ, List.getElem_toArray, List.getElem_cons_zero, List.getElem_cons_succ]
            refine UpTo.one (i := 21) (by kernel_rfl) rfl rfl (fun K hK => ?_)
            go_simp
            refine hK.out _ _ ⟨f7, f4⟩ ?_
            clear hK K
            try simp only [Act.put, List.setIfInBounds_toArray, List.set_cons_zero, List.set_cons_succ, List.getElem_toArray, List.getElem_cons_zero, List.getElem_cons_succ]
            refine UpTo.last (by kernel_rfl) rfl rfl (by kernel_rfl) ?_
            go_simp
            go_wp2_with fail
            go_ret
            rw [e1.out, e2.out]
            have K0 : Keeps base DT w3 _ := ((H3.out.set HN.out hpq.out 6 (.slice ao2 nn2 cc2) (by decide) { q[p]'hpq.out with v := .slice ao2 nn2 cc2 } rfl).2.trans R2.out.2).trans R3.out.2
            exact ⟨rfl, ⟨_, _, _, _, _, _, R3.out.1.keep (drew1_keep _), (FF.out.keeps K0 (by simp [DT])).keep (drew1_keep _)⟩, (K2.out.trans R3.out.2).drew1⟩
        · have hle : (B : Int) < t := by omega
          have e1 : Hid (wrErr I B S n f s = 21) := W_hid ((hSS.out _).2 (by simp [hgood]))
          have e2 : Hid (wrS I B S n f s = S) := W_hid (by rw [hSt.out]; simp [hgood])
          replace htv := W_hid htv
          clear ht hgood hps hps2
          go_wp2_with fail
          go_ret
          rw [e1.out, e2.out]
          exact ⟨rfl, ⟨_, _, _, _, _, _, H3.out, HF3.out⟩, Keeps.new b4.out hlow.out⟩
  · have e1 : wrErr I B S n f s = E := (hSS.out _).2 (by rw [if_neg he])
    have e2 : wrS I B S n f s = S := by rw [hSt.out, if_neg (fun h => he h.1)]
    have e1 := W_hid e1
    have e2 := W_hid e2
    have b2' := W_hid b2
    obtain ⟨ao2, c2, rfl⟩ := Own.form ho2
    have he1 : (E != 0) = true := by simp [he]
    replace he := W_hid he
    clear ho2 b2 cA cW
    go_wp2_with fail
    go_ret
    rw [e1.out, e2.out]
    exact ⟨rfl, ⟨_, _, _, _, _, _, H.out.keep b2'.out, HF.out.keep b2'.out⟩, Keeps.new b2'.out hlow.out⟩

set_option maxRecDepth 100000 in
set_option maxHeartbeats 8000000 in
theorem rTr_no (n s : Int) (w : World) (hf : Fine I L B k S) (hI : I ≤ 4096) (h : RS base w rg I B L (lst S I)) (r : Int) (hr : (askR S n fun d => if d.kind = 1 then (0 : Int) else 14) = r) (hr0 : r ≠ 0) :
    Calls Try.prog 33 #[.pointer (some ⟨rg, 0, none⟩), .int .i64 n, .int .i64 s] w fun e w' => e = .returned (.int .i64 r) ∧ w = w' := by
  obtain ⟨z3, z4, z5, z6, v, q, hM, hF⟩ := h
  have cA := W_hid (rfile_no n w hf hI hM hF r hr hr0)
  have hr1 : (r != 0) = true := by simp [hr0]
  replace hr0 := W_hid hr0
  clear hM hF hr
  go_enter Try.func33, Try.ntmps33
  go_wp2_with fail
  refine cA.out.mono ?_
  rintro e w1 ⟨rfl, rfl⟩
  go_wp2_with fail
  go_ret
  exact ⟨rfl, rfl⟩

set_option maxRecDepth 100000 in
set_option maxHeartbeats 16000000 in
theorem rTr_yes (n s : Int) (d : Nd) (w : World) (hf : Fine I L B k S) (hI : I ≤ 4096) (h : RS base w rg I B L (lst S I)) (hs : I64 s) (hS : S n = some d) (hk : d.kind = 1) :
    Calls Try.prog 33 #[.pointer (some ⟨rg, 0, none⟩), .int .i64 n, .int .i64 s] w (ROut base rg I B L w (tErr S n s) (lst (tS S n s) I)) := by
  have hSS : tErr S n s = if s < 0 then 2 else if 1048576 < s then 28 else 0 := by unfold tErr askR; rw [hS]; simp [hk]
  have hSt : tS S n s = if 0 ≤ s ∧ s ≤ 1048576 then upd S n (some (tNd d s)) else S := by unfold tS; rw [hS]; simp [hk]
  obtain ⟨z3, z4, z5, z6, v, q, hM, hF⟩ := h
  obtain ⟨p, mm, hnm, hm1, hmI, hp, hat, hbef, hset, hdel⟩ := pl_some hf hS
  have hg := hf.good _ d hS
  have hwg := W_hid (fun h0 h1 => t_good (s := s) hg hk h0 h1)
  have hpq : p < q.length := by rw [hF.len]; exact hp
  have hEF := hF.at_ p hpq hp
  rw [hat hp] at hEF
  have cA := W_hid (rfile_yes n w hI hM hF hp (hat hp) hnm hbef hk)
  obtain ⟨g, N, cap, rfl, hN, hpN, hNc, hcm, hbg, hgr, hgl, hrl, hgf, hrf, c0, c1, c2, c7, x0, x1, x2, x3, x4, x5, x6⟩ := hM.opened hpq
  obtain ⟨ao, nn, cc, hv, hx1, -⟩ := hEF.v
  rw [hv] at x6
  have cW := rCut_any ao nn cc d.l s w.drew hx1 (ok_fit (Int.le_refl _) hg.ok) hs
  have h0 : (0 : Int) ≤ (p : Int) := by omega
  have hgr2 : ¬ rg = g := fun e => hgr e.symm
  have hgr1 : ¬ g = rg := hgr
  have hlow := W_hid hM.low
  have H := W_hid hM
  have HF := W_hid hF
  have HE := W_hid hEF
  have HN := W_hid hN
  replace hpq := W_hid hpq
  replace hset := W_hid hset
  replace hSS := W_hid hSS
  replace hSt := W_hid hSt
  have hok := W_hid hg.ok
  clear hM hF hEF hN hg hat hbef hdel hv hx1 c0 c1 c2 x0 x1 x2 x3 x4 x5 hnm hp hf hgr hgf hrf
  by_cases hs0 : s < 0
  · have e1 : Hid (tErr S n s = 2) := W_hid (by rw [hSS.out, if_pos hs0])
    have e2 : Hid (tS S n s = S) := W_hid (by rw [hSt.out, if_neg (by omega)])
    clear cW
    go_enter Try.func33, Try.ntmps33
    go_wp2_with fail
    refine cA.out.mono ?_
    rintro e w1 ⟨rfl, rfl⟩
    go_wp2_with fail
    go_ret
    rw [e1.out, e2.out]
    exact ⟨rfl, ⟨_, _, _, _, _, _, H.out, HF.out⟩, Keeps.refl _ _ _⟩
  by_cases hs1 : 1048576 < s
  · have e1 : Hid (tErr S n s = 28) := W_hid (by rw [hSS.out, if_neg hs0, if_pos hs1])
    have e2 : Hid (tS S n s = S) := W_hid (by rw [hSt.out, if_neg (by omega)])
    clear cW
    go_enter Try.func33, Try.ntmps33
    go_wp2_with fail
    refine cA.out.mono ?_
    rintro e w1 ⟨rfl, rfl⟩
    go_wp2_with fail
    go_ret
    rw [e1.out, e2.out]
    exact ⟨rfl, ⟨_, _, _, _, _, _, H.out, HF.out⟩, Keeps.refl _ _ _⟩
  have e1 : Hid (tErr S n s = 0) := W_hid (by rw [hSS.out, if_neg hs0, if_neg hs1])
  have e2 : Hid (lst (tS S n s) I = (lst S I).set p (mm, tNd d s)) := W_hid (by rw [hSt.out, if_pos ⟨by omega, by omega⟩, hset.out])
  obtain ⟨hGw, hL2, hok2⟩ := hwg.out (by omega) (by omega)
  rw [hL2] at cW
  obtain ⟨cE, hcE⟩ : ∃ cE, ctE d.l s = cE := ⟨_, rfl⟩
  rw [hcE] at cW
  replace hcE := W_hid hcE
  replace cW := W_hid cW
  have hok2 := W_hid hok2
  obtain ⟨ow, how⟩ : ∃ ow : Nat, EM.cnt (EM.part 0 s d.l) = ow := ⟨_, rfl⟩
  have how := W_hid how
  clear hL2 hGw
  go_enter Try.func33, Try.ntmps33
  go_wp2_with fail
  refine cA.out.mono ?_
  rintro e w1 ⟨rfl, rfl⟩
  go_wp2_with fail
  refine UpTil.region (S := (fun w' => w'.cell? ⟨rg, 7, none⟩ = some (.slice (some ⟨g, 0, none⟩) N cap) ∧ w'.cell? ⟨g, p * 7 + 6, none⟩ = some (.slice ao nn cc))) (m := 20) (by kernel_rfl) ⟨c7, x6⟩ (fun hHeld => ?_)
  refine UpTil.take (i := 0) (v := .pointer (some ⟨rg, 0, none⟩)) rfl (by kernel_rfl) (by kernel_rfl) (by kernel_rfl) (by kernel_rfl) (by kernel_rfl) (fun _ _ _ h => h) (Or.inl ⟨by rfl, fun w0 ⟨s1, s2⟩ => ?_⟩) hHeld ?_
  · go_simp
  try simp only [Act.put, List.setIfInBounds_toArray, List.set_cons_zero, List.set_cons_succ, List.getElem_toArray, List.getElem_cons_zero, List.getElem_cons_succ]
  refine UpTil.take (i := 1) (v := .pointer (some ⟨rg, 0, none⟩)) rfl (by kernel_rfl) (by kernel_rfl) (by kernel_rfl) (by kernel_rfl) (by kernel_rfl) (fun _ _ _ h => h) (Or.inl ⟨by rfl, fun w0 ⟨s1, s2⟩ => ?_⟩) hHeld ?_
  · go_simp
  try simp only [Act.put, List.setIfInBounds_toArray, List.set_cons_zero, List.set_cons_succ, List.getElem_toArray, List.getElem_cons_zero, List.getElem_cons_succ]
  refine UpTil.take (i := 2) (v := .pointer (some ⟨rg, 7, none⟩)) rfl (by kernel_rfl) (by kernel_rfl) (by kernel_rfl) (by kernel_rfl) (by kernel_rfl) (fun _ _ _ h => h) (Or.inl ⟨by rfl, fun w0 ⟨s1, s2⟩ => ?_⟩) hHeld ?_
  · go_simp
  try simp only [Act.put, List.setIfInBounds_toArray, List.set_cons_zero, List.set_cons_succ, List.getElem_toArray, List.getElem_cons_zero, List.getElem_cons_succ]
  refine UpTil.take (i := 3) (v := .slice (some ⟨g, 0, none⟩) N cap) rfl (by kernel_rfl) (by kernel_rfl) (by kernel_rfl) (by kernel_rfl) (by kernel_rfl) (fun _ _ _ h => h) (Or.inl ⟨by rfl, fun w0 ⟨s1, s2⟩ => ?_⟩) hHeld ?_
  · go_simp
  try simp only [Act.put, List.setIfInBounds_toArray, List.set_cons_zero, List.set_cons_succ, List.getElem_toArray, List.getElem_cons_zero, List.getElem_cons_succ]
  refine UpTil.take (i := 4) (v := .int .i64 (p : Int)) rfl (by kernel_rfl) (by kernel_rfl) (by kernel_rfl) (by kernel_rfl) (by kernel_rfl) (fun _ _ _ h => h) (Or.inl ⟨by rfl, fun w0 ⟨s1, s2⟩ => ?_⟩) hHeld ?_
  · go_simp
  try simp only [Act.put, List.setIfInBounds_toArray, List.set_cons_zero, List.set_cons_succ, List.getElem_toArray, List.getElem_cons_zero, List.getElem_cons_succ]
  refine UpTil.take (i := 5) (v := .pointer (some ⟨rg, 0, none⟩)) rfl (by kernel_rfl) (by kernel_rfl) (by kernel_rfl) (by kernel_rfl) (by kernel_rfl) (fun _ _ _ h => h) (Or.inl ⟨by rfl, fun w0 ⟨s1, s2⟩ => ?_⟩) hHeld ?_
  · go_simp
  try simp only [Act.put, List.setIfInBounds_toArray, List.set_cons_zero, List.set_cons_succ, List.getElem_toArray, List.getElem_cons_zero, List.getElem_cons_succ]
  refine UpTil.take (i := 6) (v := .pointer (some ⟨rg, 0, none⟩)) rfl (by kernel_rfl) (by kernel_rfl) (by kernel_rfl) (by kernel_rfl) (by kernel_rfl) (fun _ _ _ h => h) (Or.inl ⟨by rfl, fun w0 ⟨s1, s2⟩ => ?_⟩) hHeld ?_
  · go_simp
  try simp only [Act.put, List.setIfInBounds_toArray, List.set_cons_zero, List.set_cons_succ, List.getElem_toArray, List.getElem_cons_zero, List.getElem_cons_succ]
  refine UpTil.take (i := 7) (v := .pointer (some ⟨rg, 7, none⟩)) rfl (by kernel_rfl) (by kernel_rfl) (by kernel_rfl) (by kernel_rfl) (by kernel_rfl) (fun _ _ _ h => h) (Or.inl ⟨by rfl, fun w0 ⟨s1, s2⟩ => ?_⟩) hHeld ?_
  · go_simp
  try simp only [Act.put, List.setIfInBounds_toArray, List.set_cons_zero, List.set_cons_succ, List.getElem_toArray, List.getElem_cons_zero, List.getElem_cons_succ]
  refine UpTil.take (i := 8) (v := .slice (some ⟨g, 0, none⟩) N cap) rfl (by kernel_rfl) (by kernel_rfl) (by kernel_rfl) (by kernel_rfl) (by kernel_rfl) (fun _ _ _ h => h) (Or.inl ⟨by rfl, fun w0 ⟨s1, s2⟩ => ?_⟩) hHeld ?_
  · go_simp
  try simp only [Act.put, List.setIfInBounds_toArray, List.set_cons_zero, List.set_cons_succ, List.getElem_toArray, List.getElem_cons_zero, List.getElem_cons_succ]
  refine UpTil.take (i := 9) (v := .int .i64 (p : Int)) rfl (by kernel_rfl) (by kernel_rfl) (by kernel_rfl) (by kernel_rfl) (by kernel_rfl) (fun _ _ _ h => h) (Or.inl ⟨by rfl, fun w0 ⟨s1, s2⟩ => ?_⟩) hHeld ?_
  · go_simp
  try simp only [Act.put, List.setIfInBounds_toArray, List.set_cons_zero, List.set_cons_succ, List.getElem_toArray, List.getElem_cons_zero, List.getElem_cons_succ]
  refine UpTil.take (i := 10) (v := .pointer (some ⟨g, p * 7, none⟩)) rfl (by kernel_rfl) (by kernel_rfl) (by kernel_rfl) (by kernel_rfl) (by kernel_rfl) (fun _ _ _ h => h) (Or.inl ⟨by rfl, fun w0 ⟨s1, s2⟩ => ?_⟩) hHeld ?_
  · go_simp
  try simp only [Act.put, List.setIfInBounds_toArray, List.set_cons_zero, List.set_cons_succ, List.getElem_toArray, List.getElem_cons_zero, List.getElem_cons_succ]
  refine UpTil.take (i := 11) (v := .pointer (some ⟨g, p * 7 + 6, none⟩)) rfl (by kernel_rfl) (by kernel_rfl) (by kernel_rfl) (by kernel_rfl) (by kernel_rfl) (fun _ _ _ h => h) (Or.inl ⟨by rfl, fun w0 ⟨s1, s2⟩ => ?_⟩) hHeld ?_
  · go_simp
  try simp only [Act.put, List.setIfInBounds_toArray, List.set_cons_zero, List.set_cons_succ, List.getElem_toArray, List.getElem_cons_zero, List.getElem_cons_succ]
  refine UpTil.take (i := 12) (v := .slice ao nn cc) rfl (by kernel_rfl) (by kernel_rfl) (by kernel_rfl) (by kernel_rfl) (by kernel_rfl) (fun _ _ _ h => h) (Or.inl ⟨by rfl, fun w0 ⟨s1, s2⟩ => ?_⟩) hHeld ?_
  · go_simp
  try simp only [Act.put, List.setIfInBounds_toArray, List.set_cons_zero, List.set_cons_succ, List.getElem_toArray, List.getElem_cons_zero, List.getElem_cons_succ]
  refine UpTil.take (i := 13) (v := .int .i64 s) rfl (by kernel_rfl) (by kernel_rfl) (by kernel_rfl) (by kernel_rfl) (by kernel_rfl) (fun _ _ _ h => h) (Or.inl ⟨by rfl, fun w0 ⟨s1, s2⟩ => ?_⟩) hHeld ?_
  · go_simp
  try simp only [Act.put, List.setIfInBounds_toArray, List.set_cons_zero, List.set_cons_succ, List.getElem_toArray, List.getElem_cons_zero, List.getElem_cons_succ]
  refine UpTil.one (i := 14) (by kernel_rfl) rfl rfl (fun K hK => ?_)
  go_simp
  refine cW.out.mono ?_
  rintro e w2 ⟨v2, rfl, ho2, b2⟩
  have b2' := W_hid (Own.bundrew b2)
  have hX2 := XE.own ho2
  have hX2c := hX2
  obtain ⟨ao2, nn2, cc2, hv2, -, -⟩ := hX2c
  subst hv2
  have hX2 := W_hid hX2
  have H2 := W_hid (H.out.keep b2'.out)
  have fz2 := H2.out.fz hpq.out
  have y7 := cellkept b2'.out c7
  have y6 := cellkept b2'.out x6
  clear ho2 b2
  refine hK.out _ _ (fun _ => ⟨y7, y6⟩) ?_
  clear hK K
  try simp only [Act.put, List.setIfInBounds_toArray, List.set_cons_zero, List.set_cons_succ, List.getElem_toArray, List.getElem_cons_zero, List.getElem_cons_succ]
  refine UpTil.take (i := 15) (v := .tuple #[.slice ao2 nn2 cc2, .int .i64 cE]) rfl (by kernel_rfl) (by kernel_rfl) (by kernel_rfl) (by kernel_rfl) (by kernel_rfl) (fun _ _ _ h => h) (Or.inl ⟨by rfl, fun w0 ⟨s1, s2⟩ => ?_⟩) ⟨y7, y6⟩ ?_
  · go_simp
  try simp only [Act.put, List.setIfInBounds_toArray, List.set_cons_zero, List.set_cons_succ, List.getElem_toArray, List.getElem_cons_zero, List.getElem_cons_succ]
  refine UpTil.take (i := 16) (v := .slice ao2 nn2 cc2) rfl (by kernel_rfl) (by kernel_rfl) (by kernel_rfl) (by kernel_rfl) (by kernel_rfl) (fun _ _ _ h => h) (Or.inl ⟨by rfl, fun w0 ⟨s1, s2⟩ => ?_⟩) ⟨y7, y6⟩ ?_
  · go_simp
  try simp only [Act.put, List.setIfInBounds_toArray, List.set_cons_zero, List.set_cons_succ, List.getElem_toArray, List.getElem_cons_zero, List.getElem_cons_succ]
  refine UpTil.takePure (i := 17) (v := .int .i64 cE) rfl (by kernel_rfl) (by kernel_rfl) (by kernel_rfl) (by kernel_rfl) (fun _ _ _ h => h) (Or.inl ⟨by rfl, fun w0 _ => ?_⟩) ⟨y7, y6⟩ ?_
  · go_simp
  try simp only [Act.put, List.setIfInBounds_toArray, List.set_cons_zero, List.set_cons_succ, List.getElem_toArray, List.getElem_cons_zero, List.getElem_cons_succ]
  refine UpTil.one (i := 18) (by kernel_rfl) rfl rfl (fun K hK => ?_)
  go_simp
  refine hK.out _ _ (fun _ => ⟨y7, y6⟩) ?_
  clear hK K
  try simp only [Act.put, List.setIfInBounds_toArray, List.set_cons_zero, List.set_cons_succ, List.getElem_toArray, List.getElem_cons_zero, List.getElem_cons_succ]
  refine UpTil.one (i := 19) (by kernel_rfl) rfl rfl (fun K hK => ?_)
  go_simp
  refine hK.out _ _ (fun _ => ⟨y7, y6⟩) ?_
  clear hK K
  try simp only [Act.put, List.setIfInBounds_toArray, List.set_cons_zero, List.set_cons_succ, List.getElem_toArray, List.getElem_cons_zero, List.getElem_cons_succ]
  refine UpTil.last (by kernel_rfl) rfl rfl (by kernel_rfl) ?_
  go_simp
  have R1 := H2.out.set HN.out hpq.out 6 (.slice ao2 nn2 cc2) (by decide) { q[p]'hpq.out with v := .slice ao2 nn2 cc2 } rfl
  obtain ⟨a7, az, ac⟩ := R1.1.cset hpq.out
  have a6 := ac 6 _ rfl
  have hXa := hX2.out.keeps' R1.2
  obtain ⟨ao', nn', cc', hv', hxsa, -⟩ := hXa
  simp only [Value.slice.injEq] at hv'
  obtain ⟨rfl, rfl, rfl⟩ := hv'
  have cS := rStored_any ao2 nn2 cc2 (EM.part 0 s d.l) (w2.setCell ⟨g, p * 7 + 6, none⟩ (.slice ao2 nn2 cc2)).drew hxsa (ok_fit (Int.le_refl _) hok2.out)
  have es1 : Go.Proofs.Ytieneehpijilpaa.stV (EM.part 0 s d.l) = (ow : Int) := by unfold Go.Proofs.Ytieneehpijilpaa.stV; rw [if_pos hok2.out, how.out]
  have es2 : stE (EM.part 0 s d.l) = 0 := by unfold stE; rw [if_pos hok2.out]
  rw [es1, es2] at cS
  replace cS := W_hid cS
  have R1 := W_hid R1
  clear ac hxsa es1 es2 cW y7 y6 fz2 c7 x6
  go_wp2_with fail
  refine UpTil.region (S := (fun w' => w'.cell? ⟨rg, 7, none⟩ = some (.slice (some ⟨g, 0, none⟩) N cap) ∧ w'.cell? ⟨g, p * 7 + 6, none⟩ = some (.slice ao2 nn2 cc2))) (m := 20) (by kernel_rfl) ⟨a7, a6⟩ (fun hHeld => ?_)
  refine UpTil.take (i := 0) (v := .pointer (some ⟨rg, 0, none⟩)) rfl (by kernel_rfl) (by kernel_rfl) (by kernel_rfl) (by kernel_rfl) (by kernel_rfl) (fun _ _ _ h => h) (Or.inl ⟨by rfl, fun w0 ⟨s1, s2⟩ => ?_⟩) hHeld ?_
  · go_simp
  try simp only [Act.put, List.setIfInBounds_toArray, List.set_cons_zero, List.set_cons_succ, List.getElem_toArray, List.getElem_cons_zero, List.getElem_cons_succ]
  refine UpTil.take (i := 1) (v := .pointer (some ⟨rg, 0, none⟩)) rfl (by kernel_rfl) (by kernel_rfl) (by kernel_rfl) (by kernel_rfl) (by kernel_rfl) (fun _ _ _ h => h) (Or.inl ⟨by rfl, fun w0 ⟨s1, s2⟩ => ?_⟩) hHeld ?_
  · go_simp
  try simp only [Act.put, List.setIfInBounds_toArray, List.set_cons_zero, List.set_cons_succ, List.getElem_toArray, List.getElem_cons_zero, List.getElem_cons_succ]
  refine UpTil.take (i := 2) (v := .pointer (some ⟨rg, 7, none⟩)) rfl (by kernel_rfl) (by kernel_rfl) (by kernel_rfl) (by kernel_rfl) (by kernel_rfl) (fun _ _ _ h => h) (Or.inl ⟨by rfl, fun w0 ⟨s1, s2⟩ => ?_⟩) hHeld ?_
  · go_simp
  try simp only [Act.put, List.setIfInBounds_toArray, List.set_cons_zero, List.set_cons_succ, List.getElem_toArray, List.getElem_cons_zero, List.getElem_cons_succ]
  refine UpTil.take (i := 3) (v := .slice (some ⟨g, 0, none⟩) N cap) rfl (by kernel_rfl) (by kernel_rfl) (by kernel_rfl) (by kernel_rfl) (by kernel_rfl) (fun _ _ _ h => h) (Or.inl ⟨by rfl, fun w0 ⟨s1, s2⟩ => ?_⟩) hHeld ?_
  · go_simp
  try simp only [Act.put, List.setIfInBounds_toArray, List.set_cons_zero, List.set_cons_succ, List.getElem_toArray, List.getElem_cons_zero, List.getElem_cons_succ]
  refine UpTil.take (i := 4) (v := .int .i64 (p : Int)) rfl (by kernel_rfl) (by kernel_rfl) (by kernel_rfl) (by kernel_rfl) (by kernel_rfl) (fun _ _ _ h => h) (Or.inl ⟨by rfl, fun w0 ⟨s1, s2⟩ => ?_⟩) hHeld ?_
  · go_simp
  try simp only [Act.put, List.setIfInBounds_toArray, List.set_cons_zero, List.set_cons_succ, List.getElem_toArray, List.getElem_cons_zero, List.getElem_cons_succ]
  refine UpTil.take (i := 5) (v := .pointer (some ⟨rg, 0, none⟩)) rfl (by kernel_rfl) (by kernel_rfl) (by kernel_rfl) (by kernel_rfl) (by kernel_rfl) (fun _ _ _ h => h) (Or.inl ⟨by rfl, fun w0 ⟨s1, s2⟩ => ?_⟩) hHeld ?_
  · go_simp
  try simp only [Act.put, List.setIfInBounds_toArray, List.set_cons_zero, List.set_cons_succ, List.getElem_toArray, List.getElem_cons_zero, List.getElem_cons_succ]
  refine UpTil.take (i := 6) (v := .pointer (some ⟨rg, 0, none⟩)) rfl (by kernel_rfl) (by kernel_rfl) (by kernel_rfl) (by kernel_rfl) (by kernel_rfl) (fun _ _ _ h => h) (Or.inl ⟨by rfl, fun w0 ⟨s1, s2⟩ => ?_⟩) hHeld ?_
  · go_simp
  try simp only [Act.put, List.setIfInBounds_toArray, List.set_cons_zero, List.set_cons_succ, List.getElem_toArray, List.getElem_cons_zero, List.getElem_cons_succ]
  refine UpTil.take (i := 7) (v := .pointer (some ⟨rg, 7, none⟩)) rfl (by kernel_rfl) (by kernel_rfl) (by kernel_rfl) (by kernel_rfl) (by kernel_rfl) (fun _ _ _ h => h) (Or.inl ⟨by rfl, fun w0 ⟨s1, s2⟩ => ?_⟩) hHeld ?_
  · go_simp
  try simp only [Act.put, List.setIfInBounds_toArray, List.set_cons_zero, List.set_cons_succ, List.getElem_toArray, List.getElem_cons_zero, List.getElem_cons_succ]
  refine UpTil.take (i := 8) (v := .slice (some ⟨g, 0, none⟩) N cap) rfl (by kernel_rfl) (by kernel_rfl) (by kernel_rfl) (by kernel_rfl) (by kernel_rfl) (fun _ _ _ h => h) (Or.inl ⟨by rfl, fun w0 ⟨s1, s2⟩ => ?_⟩) hHeld ?_
  · go_simp
  try simp only [Act.put, List.setIfInBounds_toArray, List.set_cons_zero, List.set_cons_succ, List.getElem_toArray, List.getElem_cons_zero, List.getElem_cons_succ]
  refine UpTil.take (i := 9) (v := .int .i64 (p : Int)) rfl (by kernel_rfl) (by kernel_rfl) (by kernel_rfl) (by kernel_rfl) (by kernel_rfl) (fun _ _ _ h => h) (Or.inl ⟨by rfl, fun w0 ⟨s1, s2⟩ => ?_⟩) hHeld ?_
  · go_simp
  try simp only [Act.put, List.setIfInBounds_toArray, List.set_cons_zero, List.set_cons_succ, List.getElem_toArray, List.getElem_cons_zero, List.getElem_cons_succ]
  refine UpTil.take (i := 10) (v := .pointer (some ⟨g, p * 7, none⟩)) rfl (by kernel_rfl) (by kernel_rfl) (by kernel_rfl) (by kernel_rfl) (by kernel_rfl) (fun _ _ _ h => h) (Or.inl ⟨by rfl, fun w0 ⟨s1, s2⟩ => ?_⟩) hHeld ?_
  · go_simp
  try simp only [Act.put, List.setIfInBounds_toArray, List.set_cons_zero, List.set_cons_succ, List.getElem_toArray, List.getElem_cons_zero, List.getElem_cons_succ]
  refine UpTil.take (i := 11) (v := .pointer (some ⟨g, p * 7 + 6, none⟩)) rfl (by kernel_rfl) (by kernel_rfl) (by kernel_rfl) (by kernel_rfl) (by kernel_rfl) (fun _ _ _ h => h) (Or.inl ⟨by rfl, fun w0 ⟨s1, s2⟩ => ?_⟩) hHeld ?_
  · go_simp
  try simp only [Act.put, List.setIfInBounds_toArray, List.set_cons_zero, List.set_cons_succ, List.getElem_toArray, List.getElem_cons_zero, List.getElem_cons_succ]
  refine UpTil.take (i := 12) (v := .slice ao2 nn2 cc2) rfl (by kernel_rfl) (by kernel_rfl) (by kernel_rfl) (by kernel_rfl) (by kernel_rfl) (fun _ _ _ h => h) (Or.inl ⟨by rfl, fun w0 ⟨s1, s2⟩ => ?_⟩) hHeld ?_
  · go_simp
  try simp only [Act.put, List.setIfInBounds_toArray, List.set_cons_zero, List.set_cons_succ, List.getElem_toArray, List.getElem_cons_zero, List.getElem_cons_succ]
  refine UpTil.one (i := 13) (by kernel_rfl) rfl rfl (fun K hK => ?_)
  go_simp
  refine cS.out.mono ?_
  rintro e w4 ⟨rfl, b4⟩
  have b4 := W_hid (Own.bundrew b4)
  have R1k := W_hid (R1.out.1.keep b4.out)
  have u7 := cellkept b4.out a7
  have u6 := cellkept b4.out a6
  have fz4 := (R1k.out.cset hpq.out).2.1
  have u5 := (R1k.out.cset hpq.out).2.2 5 _ rfl
  refine hK.out _ _ (fun _ => ⟨u7, u6⟩) ?_
  clear hK K
  try simp only [Act.put, List.setIfInBounds_toArray, List.set_cons_zero, List.set_cons_succ, List.getElem_toArray, List.getElem_cons_zero, List.getElem_cons_succ]
  refine UpTil.take (i := 14) (v := .tuple #[.int .i64 (ow : Int), .int .i64 0]) rfl (by kernel_rfl) (by kernel_rfl) (by kernel_rfl) (by kernel_rfl) (by kernel_rfl) (fun _ _ _ h => h) (Or.inl ⟨by rfl, fun w0 ⟨s1, s2⟩ => ?_⟩) ⟨u7, u6⟩ ?_
  · go_simp
  try simp only [Act.put, List.setIfInBounds_toArray, List.set_cons_zero, List.set_cons_succ, List.getElem_toArray, List.getElem_cons_zero, List.getElem_cons_succ]
  refine UpTil.take (i := 15) (v := .int .i64 (ow : Int)) rfl (by kernel_rfl) (by kernel_rfl) (by kernel_rfl) (by kernel_rfl) (by kernel_rfl) (fun _ _ _ h => h) (Or.inl ⟨by rfl, fun w0 ⟨s1, s2⟩ => ?_⟩) ⟨u7, u6⟩ ?_
  · go_simp
  try simp only [Act.put, List.setIfInBounds_toArray, List.set_cons_zero, List.set_cons_succ, List.getElem_toArray, List.getElem_cons_zero, List.getElem_cons_succ]
  refine UpTil.takePure (i := 16) (v := .int .i64 0) rfl (by kernel_rfl) (by kernel_rfl) (by kernel_rfl) (by kernel_rfl) (fun _ _ _ h => h) (Or.inl ⟨by rfl, fun w0 _ => ?_⟩) ⟨u7, u6⟩ ?_
  · go_simp
  try simp only [Act.put, List.setIfInBounds_toArray, List.set_cons_zero, List.set_cons_succ, List.getElem_toArray, List.getElem_cons_zero, List.getElem_cons_succ]
  refine UpTil.one (i := 17) (by kernel_rfl) rfl rfl (fun K hK => ?_)
  go_simp
  refine hK.out _ _ (fun _ => ⟨u7, u6⟩) ?_
  clear hK K
  try simp only [Act.put, List.setIfInBounds_toArray, List.set_cons_zero, List.set_cons_succ, List.getElem_toArray, List.getElem_cons_zero, List.getElem_cons_succ]
  refine UpTil.one (i := 18) (by kernel_rfl) rfl rfl (fun K hK => ?_)
  go_simp
  refine hK.out _ _ (fun _ => ⟨u7, u6⟩) ?_
  clear hK K
  try simp only [Act.put, List.setIfInBounds_toArray, List.set_cons_zero, List.set_cons_succ, List.getElem_toArray, List.getElem_cons_zero, List.getElem_cons_succ]
  refine UpTil.one (i := 19) (by kernel_rfl) rfl rfl (fun K hK => ?_)
  go_simp
  refine hK.out _ _ (fun _ => ⟨u7, u6⟩) ?_
  clear hK K
  try simp only [Act.put, List.setIfInBounds_toArray, List.set_cons_zero, List.set_cons_succ, List.getElem_toArray, List.getElem_cons_zero, List.getElem_cons_succ]
  refine UpTil.last (by kernel_rfl) rfl rfl (by kernel_rfl) ?_
  go_simp
  have R3 := R1k.out.set2 HN.out hpq.out 5 (.int .i64 (ow : Int)) (by decide) (y := { q[p]'hpq.out with v := .slice ao2 nn2 cc2, st := (ow : Int) }) rfl
  obtain ⟨e7, ez, ec⟩ := R3.1.cset hpq.out
  have e4 := ec 4 _ rfl
  have R5 := R3.1.set2 HN.out hpq.out 4 (.int .i64 s) (by decide) (y := { q[p]'hpq.out with v := .slice ao2 nn2 cc2, st := (ow : Int), sz := s }) rfl
  have KK := W_hid ((((R1.out.2).trans (Keeps.new b4.out R1.out.1.low)).trans R3.2).trans R5.2)
  have R5 := W_hid R5.1
  clear R3 ec u7 u6 fz4
  go_wp2_with fail
  go_ret
  rw [e1.out, e2.out]
  have HE2 : EF w2 { q[p]'hpq.out with v := .slice ao2 nn2 cc2, st := (ow : Int), sz := s } (mm, tNd d s) :=
    ⟨HE.out.n, HE.out.kd, HE.out.lk, HE.out.op, rfl, how.out.symm ▸ rfl, hX2.out⟩
  have FF := (HF.out.keep b2'.out).set p HE2
  exact ⟨rfl, ⟨_, _, _, _, _, _, R5.out, FF.keeps KK.out (by simp [DT])⟩, (Keeps.new b2'.out hlow.out).trans KK.out⟩
end
end IN
end Go.Proofs.Ytieneehpijilpaa

/- Contracts of package inode's calls of a nil store. -/
namespace Go.Proofs.Ytieneehpijilpaa
open Go.ChangeShapes Go.WideShapes Go.ChangeAt Go.RowKit Go.Maps
set_option linter.unusedVariables false
set_option linter.unusedSimpArgs false
namespace IN

set_option maxRecDepth 100000 in
theorem nil_three (k2 k3 : Nat) (n : Int) (w : World) (e2 : ∀ w, (callFunc k2 #[.pointer none, .int .i64 n]).run Try.prog w = .ok (.enter k2 #[.pointer none, .int .i64 n]) w) (e3 : ∀ w, (callFunc k3 #[.pointer none, .int .i64 n]).run Try.prog w = .ok (.enter k3 #[.pointer none, .int .i64 n]) w) :
    Calls Try.prog 35 #[.int .i64 n, .slice (some ⟨w.heap.size, 0, none⟩) 3 3] (w.alloc (.cells #[.func (.func 36) #[.pointer none] #[], .func (.func k2) #[.pointer none] #[], .func (.func k3) #[.pointer none] #[]] 45)) fun e w' => e = .returned (.int .i64 1) ∧ Below w.heap.size w w' := by
  have hal := (Below.refl w.heap.size w).alloc (Nat.le_refl _) (.cells #[.func (.func 36) #[.pointer none] #[], .func (.func k2) #[.pointer none] #[], .func (.func k3) #[.pointer none] #[]] 45)
  refine (first_three (.pointer none) _ k2 k3 1 0 0 n w.heap.size _ (chk_blk w [.func (.func 36) #[.pointer none] #[], .func (.func k2) #[.pointer none] #[], .func (.func k3) #[.pointer none] #[]] _ rfl)
    (fun w => by kernel_rfl) e2 e3 (fun W hW => made_nil _ W) (fun W h _ => absurd h (by decide)) (fun W h _ _ => absurd h (by decide))).mono ?_
  rintro e w' ⟨rfl, hb⟩
  exact ⟨rfl, hal.trans (hb.mono hal.size)⟩
set_option maxRecDepth 100000 in
theorem nil_make (n : Int) (w : World) :
    Calls Try.prog 35 #[.int .i64 n, .slice (some ⟨w.heap.size, 0, none⟩) 3 3] (w.alloc (.cells #[.func (.func 36) #[.pointer none] #[], .func (.func 40) #[] #[], .func (.func 41) #[.pointer none] #[]] 45)) fun e w' => e = .returned (.int .i64 1) ∧ Below w.heap.size w w' := by
  have hal := (Below.refl w.heap.size w).alloc (Nat.le_refl _) (.cells #[.func (.func 36) #[.pointer none] #[], .func (.func 40) #[] #[], .func (.func 41) #[.pointer none] #[]] 45)
  refine (first_make (.pointer none) _ _ _ 1 0 0 n w.heap.size _ (chk_blk w [.func (.func 36) #[.pointer none] #[], .func (.func 40) #[] #[], .func (.func 41) #[.pointer none] #[]] _ rfl)
    (fun w => by kernel_rfl) (fun w => by kernel_rfl) (fun w => by kernel_rfl) (fun W hW => made_nil _ W) (fun W h _ => absurd h (by decide)) (fun W h _ _ => absurd h (by decide))).mono ?_
  rintro e w' ⟨rfl, hb⟩
  exact ⟨rfl, hal.trans (hb.mono hal.size)⟩
set_option maxRecDepth 100000 in
theorem nil_two (n : Int) (w : World) :
    Calls Try.prog 35 #[.int .i64 n, .slice (some ⟨w.heap.size, 0, none⟩) 2 2] (w.alloc (.cells #[.func (.func 36) #[.pointer none] #[], .func (.func 42) #[.pointer none] #[]] 45)) fun e w' => e = .returned (.int .i64 1) ∧ Below w.heap.size w w' := by
  have hal := (Below.refl w.heap.size w).alloc (Nat.le_refl _) (.cells #[.func (.func 36) #[.pointer none] #[], .func (.func 42) #[.pointer none] #[]] 45)
  refine (first_two (.pointer none) _ _ 1 0 n w.heap.size _ (chk_blk w [.func (.func 36) #[.pointer none] #[], .func (.func 42) #[.pointer none] #[]] _ rfl)
    (fun w => by kernel_rfl) (fun w => by kernel_rfl) (fun W hW => made_nil _ W) (fun W h _ => absurd h (by decide))).mono ?_
  rintro e w' ⟨rfl, hb⟩
  exact ⟨rfl, hal.trans (hb.mono hal.size)⟩
set_option maxRecDepth 100000 in
theorem nil_one (w : World) :
    Calls Try.prog 35 #[.int .i64 0, .slice (some ⟨w.heap.size, 0, none⟩) 1 1] (w.alloc (.cells #[.func (.func 36) #[.pointer none] #[]] 45)) fun e w' => e = .returned (.int .i64 1) ∧ Below w.heap.size w w' := by
  have hal := (Below.refl w.heap.size w).alloc (Nat.le_refl _) (.cells #[.func (.func 36) #[.pointer none] #[]] 45)
  refine (first_one (.pointer none) _ 1 0 w.heap.size _ (chk_blk w [.func (.func 36) #[.pointer none] #[]] _ rfl)
    (fun w => by kernel_rfl) (fun W hW => made_nil _ W)).mono ?_
  rintro e w' ⟨rfl, hb⟩
  exact ⟨rfl, hal.trans (hb.mono hal.size)⟩

set_option maxRecDepth 100000 in
set_option maxHeartbeats 2000000 in
theorem Link_nil (n : Int) (w : World) : Calls Try.prog 17 #[.pointer none, .int .i64 n] w fun e w' => e = .returned (.int .i64 1) ∧ Below w.heap.size w w' := by
  have hmf : ∀ (fn : Fn) (first cap : Array Value) (w : World), (Instr.makeFunc fn first cap).run Try.prog w = .ok (.func fn first cap) w := fun _ _ _ _ => rfl
  have cA := W_hid (nil_three 42 43 n w (fun w => by kernel_rfl) (fun w => by kernel_rfl))
  go_enter Try.func17, Try.ntmps17
  go_wp2_with fail
  refine cA.out.mono ?_
  rintro e w1 ⟨rfl, b1⟩
  go_wp2_with fail
  go_ret
  exact ⟨rfl, b1⟩

set_option maxRecDepth 100000 in
set_option maxHeartbeats 2000000 in
theorem Unlink_nil (n : Int) (w : World) : Calls Try.prog 18 #[.pointer none, .int .i64 n] w fun e w' => e = .returned (.int .i64 1) ∧ Below w.heap.size w w' := by
  have hmf : ∀ (fn : Fn) (first cap : Array Value) (w : World), (Instr.makeFunc fn first cap).run Try.prog w = .ok (.func fn first cap) w := fun _ _ _ _ => rfl
  have cA := W_hid (nil_three 42 44 n w (fun w => by kernel_rfl) (fun w => by kernel_rfl))
  go_enter Try.func18, Try.ntmps18
  go_wp2_with fail
  refine cA.out.mono ?_
  rintro e w1 ⟨rfl, b1⟩
  go_wp2_with fail
  go_ret
  exact ⟨rfl, b1⟩

set_option maxRecDepth 100000 in
set_option maxHeartbeats 2000000 in
theorem Close_nil (n : Int) (w : World) : Calls Try.prog 20 #[.pointer none, .int .i64 n] w fun e w' => e = .returned (.int .i64 1) ∧ Below w.heap.size w w' := by
  have hmf : ∀ (fn : Fn) (first cap : Array Value) (w : World), (Instr.makeFunc fn first cap).run Try.prog w = .ok (.func fn first cap) w := fun _ _ _ _ => rfl
  have cA := W_hid (nil_three 42 46 n w (fun w => by kernel_rfl) (fun w => by kernel_rfl))
  go_enter Try.func20, Try.ntmps20
  go_wp2_with fail
  refine cA.out.mono ?_
  rintro e w1 ⟨rfl, b1⟩
  go_wp2_with fail
  go_ret
  exact ⟨rfl, b1⟩

set_option maxRecDepth 100000 in
set_option maxHeartbeats 2000000 in
theorem Open_nil (n : Int) (w : World) : Calls Try.prog 19 #[.pointer none, .int .i64 n] w fun e w' => e = .returned (.int .i64 1) ∧ Below w.heap.size w w' := by
  have hmf : ∀ (fn : Fn) (first cap : Array Value) (w : World), (Instr.makeFunc fn first cap).run Try.prog w = .ok (.func fn first cap) w := fun _ _ _ _ => rfl
  have cA := W_hid (nil_two n w)
  go_enter Try.func19, Try.ntmps19
  go_wp2_with fail
  refine cA.out.mono ?_
  rintro e w1 ⟨rfl, b1⟩
  go_wp2_with fail
  go_ret
  exact ⟨rfl, b1⟩

set_option maxRecDepth 100000 in
set_option maxHeartbeats 2000000 in
theorem Make_nil (n : Int) (w : World) : Calls Try.prog 16 #[.pointer none, .int .i64 n] w fun e w' => e = .returned (.tuple #[.int .i64 0, .int .i64 1]) ∧ Below w.heap.size w w' := by
  have hmf : ∀ (fn : Fn) (first cap : Array Value) (w : World), (Instr.makeFunc fn first cap).run Try.prog w = .ok (.func fn first cap) w := fun _ _ _ _ => rfl
  have cA := W_hid (nil_make n w)
  go_enter Try.func16, Try.ntmps16
  go_wp2_with fail
  refine cA.out.mono ?_
  rintro e w1 ⟨rfl, b1⟩
  go_wp2_with fail
  go_ret2
  exact ⟨rfl, b1⟩

set_option maxRecDepth 100000 in
set_option maxHeartbeats 2000000 in
theorem Write_nil (n f : Int) (d : ByteArray) (w : World) : Calls Try.prog 22 #[.pointer none, .int .i64 n, .int .i64 f, .string d] w fun e w' => e = .returned (.int .i64 1) ∧ Below w.heap.size w w' := by
  have hmf : ∀ (fn : Fn) (first cap : Array Value) (w : World), (Instr.makeFunc fn first cap).run Try.prog w = .ok (.func fn first cap) w := fun _ _ _ _ => rfl
  have cA := W_hid (nil_three 42 47 n w (fun w => by kernel_rfl) (fun w => by kernel_rfl))
  go_enter Try.func22, Try.ntmps22
  go_wp2_with fail
  refine cA.out.mono ?_
  rintro e w1 ⟨rfl, b1⟩
  go_wp2_with fail
  go_ret
  exact ⟨rfl, b1⟩

set_option maxRecDepth 100000 in
set_option maxHeartbeats 2000000 in
theorem Trunc_nil (n f : Int) (w : World) : Calls Try.prog 23 #[.pointer none, .int .i64 n, .int .i64 f] w fun e w' => e = .returned (.int .i64 1) ∧ Below w.heap.size w w' := by
  have hmf : ∀ (fn : Fn) (first cap : Array Value) (w : World), (Instr.makeFunc fn first cap).run Try.prog w = .ok (.func fn first cap) w := fun _ _ _ _ => rfl
  have cA := W_hid (nil_three 42 47 n w (fun w => by kernel_rfl) (fun w => by kernel_rfl))
  go_enter Try.func23, Try.ntmps23
  go_wp2_with fail
  refine cA.out.mono ?_
  rintro e w1 ⟨rfl, b1⟩
  go_wp2_with fail
  go_ret
  exact ⟨rfl, b1⟩

set_option maxRecDepth 100000 in
set_option maxHeartbeats 2000000 in
theorem Read_nil (n f m : Int) (w : World) : Calls Try.prog 21 #[.pointer none, .int .i64 n, .int .i64 f, .int .i64 m] w fun e w' => e = .returned (.tuple #[.string ⟨#[]⟩, .int .i64 1]) ∧ Below w.heap.size w w' := by
  have hmf : ∀ (fn : Fn) (first cap : Array Value) (w : World), (Instr.makeFunc fn first cap).run Try.prog w = .ok (.func fn first cap) w := fun _ _ _ _ => rfl
  have cA := W_hid (nil_three 42 47 n w (fun w => by kernel_rfl) (fun w => by kernel_rfl))
  go_enter Try.func21, Try.ntmps21
  go_wp2_with fail
  refine cA.out.mono ?_
  rintro e w1 ⟨rfl, b1⟩
  go_wp2_with fail
  go_ret2
  exact ⟨rfl, b1⟩

set_option maxRecDepth 100000 in
set_option maxHeartbeats 2000000 in
theorem All_nil  (w : World) : Calls Try.prog 14 #[.pointer none] w fun e w' => e = .returned (.slice none 0 0) ∧ Below w.heap.size w w' := by
  have hmf : ∀ (fn : Fn) (first cap : Array Value) (w : World), (Instr.makeFunc fn first cap).run Try.prog w = .ok (.func fn first cap) w := fun _ _ _ _ => rfl
  have cA := W_hid (nil_one w)
  go_enter Try.func14, Try.ntmps14
  go_wp2_with fail
  refine cA.out.mono ?_
  rintro e w1 ⟨rfl, b1⟩
  go_wp2_with fail
  go_ret
  exact ⟨rfl, b1⟩

set_option maxRecDepth 100000 in
set_option maxHeartbeats 2000000 in
theorem Stat_nil (n : Int) (w : World) : Calls Try.prog 24 #[.pointer none, .int .i64 n] w fun e w' => e = .returned (.tuple #[.agg zl.toArray, .int .i64 1]) ∧ Below w.heap.size w w' := by
  have hmf : ∀ (fn : Fn) (first cap : Array Value) (w : World), (Instr.makeFunc fn first cap).run Try.prog w = .ok (.func fn first cap) w := fun _ _ _ _ => rfl
  obtain ⟨W0, hW0⟩ : ∃ W0, w.alloc (.cells #[.int .i64 0, .int .i64 0, .int .i64 0, .int .i64 0, .int .i64 0, .int .i64 0] 41) = W0 := ⟨_, rfl⟩
  have hb0 : Below w.heap.size w W0 := by rw [← hW0]; exact (Below.refl _ _).alloc (Nat.le_refl _) _
  have hr0 : Blk W0 w.heap.size 41 zl := by rw [← hW0]; exact Blk.new w _ zl rfl
  have hs0 : w.heap.size ≤ W0.heap.size := hb0.size
  have cA := W_hid (nil_two n W0)
  replace hb0 := W_hid hb0
  replace hr0 := W_hid hr0
  go_enter Try.func24, Try.ntmps24
  go_wp2_with fail
  refine cA.out.mono ?_
  rintro e w1 ⟨rfl, b1⟩
  have hr1 := hr0.out.keep b1
  have f1 := hr1.fz
  have r0 := hr1.cell (j := 0) rfl
  have r1 := hr1.cell (j := 1) rfl
  have r2 := hr1.cell (j := 2) rfl
  have r3 := hr1.cell (j := 3) rfl
  have r4 := hr1.cell (j := 4) rfl
  have r5 := hr1.cell (j := 5) rfl
  have hfin := W_hid (six_blk hr1 0 0 0 0 0 0)
  have hbl := W_hid (six_below (hb0.out.trans (b1.mono hs0)) (Nat.le_refl _) 0 0 0 0 0 0)
  clear hr1 b1
  go_wp2_with fail
  exact bodyPost_ret (res_two rfl _ _ rfl hfin.out) rfl ⟨rfl, hbl.out⟩
end IN
end Go.Proofs.Ytieneehpijilpaa

/- The laws of layer 11 (package haywardlaw11), the first part: what they share, and InodeNone: for every input it returns true, and its arguments read as before. No further condition. -/
namespace Go.Proofs.Ytieneehpijilpaa
open Go.ChangeShapes Go.WideShapes Go.ChangeAt Go.RowKit
open Go.ChangeMaps (open_string shut_string)
set_option linter.unusedVariables false
set_option linter.unusedSimpArgs false

namespace IN
theorem opR_some {S : Int → Option Nd} {n : Int} {d : Nd} (h : S n = some d) : opR S n = 0 := by simp [opR, askR, h]
theorem opR_none {S : Int → Option Nd} {n : Int} (h : S n = none) : opR S n = 11 := by simp [opR, askR, h]
theorem opS_at {S : Int → Option Nd} {n : Int} {d : Nd} (h : S n = some d) : opS S n n = some { d with opens := d.opens + 1 } := by simp [opS, h, upd_at]
theorem ulR_some {S : Int → Option Nd} {n : Int} {d : Nd} (h : S n = some d) (hl : 0 < d.links) : ulR S n = 0 := by simp [ulR, askR, h, hl]
theorem ulS_at {S : Int → Option Nd} {n : Int} {d : Nd} (h : S n = some d) (hl : 0 < d.links) : ulS S n n = if d.links = 1 ∧ d.opens = 0 then none else some { d with links := d.links - 1 } := by
  unfold ulS
  rw [h]
  simp only
  rw [if_pos hl]
  unfold gone
  rw [upd_at]
  simp only
  by_cases e : d.links = 1 ∧ d.opens = 0
  · rw [if_pos (by omega), if_pos e, upd_at]
  · rw [if_neg (by omega), if_neg e, upd_at]
theorem clR_some {S : Int → Option Nd} {n : Int} {d : Nd} (h : S n = some d) (hl : 0 < d.opens) : clR S n = 0 := by simp [clR, askR, h, hl]
theorem clS_at {S : Int → Option Nd} {n : Int} {d : Nd} (h : S n = some d) (hl : 0 < d.opens) : clS S n n = if d.links = 0 ∧ d.opens = 1 then none else some { d with opens := d.opens - 1 } := by
  unfold clS
  rw [h]
  simp only
  rw [if_pos hl]
  unfold gone
  rw [upd_at]
  simp only
  by_cases e : d.links = 0 ∧ d.opens = 1
  · rw [if_pos (by omega), if_pos e, upd_at]
  · rw [if_neg (by omega), if_neg e, upd_at]
theorem stV_some {S : Int → Option Nd} {n : Int} {d : Nd} (h : S n = some d) : stV S n = stl n d := by simp [stV, h]
theorem stV_none {S : Int → Option Nd} {n : Int} (h : S n = none) : stV S n = zl := by simp [stV, h]
theorem lst_none (I : Nat) : lst (fun _ => none) I = [] := List.eq_nil_iff_forall_not_mem.2 fun x hx => by have := (mem_lst.1 hx).2.2; cases this
theorem low_none : Low (fun _ => none) 1 := ⟨Nat.le_refl _, rfl, fun m a b => by omega⟩
theorem i64_one : IS.I64 1 := ⟨by decide, by decide⟩
theorem below_keeps {B : Nat} {T : Obj → Prop} {w w' : World} (h : Keeps B T w w') : Below B w w' := h.below (Nat.le_refl _)
theorem ret_errno {r r' : Int} {e : Ending} (h : e = .returned (.int .i64 r)) (hr : r = r') : e = .returned (.int .i64 r') := by rw [h, hr]

set_option maxRecDepth 100000 in
set_option maxHeartbeats 8000000 in
theorem shown_any (w : World) : Calls Try.prog 9 #[] w fun e w' => e = .returned (.bool true) ∧ Below w.heap.size w w' := by
  have cN := W_hid (New_yes 2 10 2 0 0 0 0 w (by unfold Right; omega))
  have cap : ∀ w, (Instr.build 23 #[(0, .int .i64 2), (1, .int .i64 10), (2, .int .i64 2)]).run Try.prog w = .ok (cap7 2 10 2 0 0 0 0) w := fun w => by kernel_rfl
  go_enter Try.func9, Try.ntmps9
  go_wp2_with fail
  refine cN.out.mono ?_
  rintro e w1 ⟨sg, mb, M, rfl, hP, b1⟩
  have cM := W_hid (Make_yes 1 1 w1 hP (by unfold mkR; rw [lst_none]; decide) low_none (by decide) (by decide))
  clear hP cN
  go_wp2_with fail
  refine cM.out.mono ?_
  rintro e w2 ⟨rfl, ⟨M2, hP2⟩, k2⟩
  have b2 := W_hid (b1.trans (below_keeps k2))
  obtain ⟨S1, hS1⟩ : ∃ S1, upd (fun _ => none) ((1 : Nat) : Int) (some (newNd 1)) = S1 := ⟨_, rfl⟩
  have s1 : S1 1 = some { kind := 1, links := 1, opens := 0, size := 0, l := [] } := by rw [← hS1]; rfl
  rw [hS1] at hP2
  have cO := Open_any 1 w2 hP2 i64_one (by decide)
  rw [opR_some s1] at cO
  have s2 := opS_at s1
  obtain ⟨S2, hS2⟩ : ∃ S2, opS S1 1 = S2 := ⟨_, rfl⟩
  rw [hS2] at cO s2
  replace cO := W_hid cO
  clear hP2 cM k2 b1 hS1 hS2
  go_wp2_with fail
  refine cO.out.mono ?_
  rintro e w3 ⟨rfl, ⟨M3, hP3⟩, k3⟩
  have b3 := W_hid (b2.out.trans (below_keeps k3))
  have cU := Unlink_any 1 w3 hP3 i64_one (by decide)
  rw [ulR_some s2 (by decide)] at cU
  have s3 := ulS_at s2 (by decide)
  rw [if_neg (by decide)] at s3
  obtain ⟨S3, hS3⟩ : ∃ S3, ulS S2 1 = S3 := ⟨_, rfl⟩
  rw [hS3] at cU s3
  replace cU := W_hid cU
  clear hP3 cO k3 b2 hS3
  go_wp2_with fail
  refine cU.out.mono ?_
  rintro e w4 ⟨rfl, ⟨M4, hP4⟩, k4⟩
  have b4 := W_hid (b3.out.trans (below_keeps k4))
  have cT := Stat_any 1 w4 hP4 i64_one
  have e0 : stV S3 1 = [.int .i64 1, .int .i64 1, .int .i64 0, .int .i64 1, .int .i64 0, .int .i64 0] := by rw [stV_some s3]; rfl
  rw [opR_some s3, e0] at cT
  replace cT := W_hid cT
  replace hP4 := W_hid hP4
  clear cU k4 b3 e0
  go_wp2_with fail
  refine cT.out.mono ?_
  rintro e w5 ⟨rfl, b5⟩
  have b6 := b5.alloc b5.size (.cells #[.int .i64 1, .int .i64 1, .int .i64 0, .int .i64 1, .int .i64 0, .int .i64 0] 41)
  have hx := Blk.new w5 41 [.int .i64 1, .int .i64 1, .int .i64 0, .int .i64 1, .int .i64 0, .int .i64 0] rfl
  have hP5 := hP4.out.keep b6
  have b7 := W_hid (b4.out.trans (b6.mono b4.out.size))
  have cC := Close_any 1 _ hP5 i64_one (by decide)
  rw [clR_some s3 (by decide)] at cC
  have s4 := clS_at s3 (by decide)
  rw [if_pos (by decide)] at s4
  obtain ⟨S4, hS4⟩ : ∃ S4, clS S3 1 = S4 := ⟨_, rfl⟩
  rw [hS4] at cC s4
  replace cC := W_hid cC
  replace hx := W_hid hx
  clear cT hP4 hP5 b6 b4 hS4
  go_wp2_with fail
  refine cC.out.mono ?_
  rintro e w6 ⟨rfl, ⟨M5, hP6⟩, k6⟩
  have b8 := W_hid (b7.out.trans ((below_keeps k6).mono (Nat.le_refl _)))
  have hx6 : Blk w6 w5.heap.size 41 [.int .i64 1, .int .i64 1, .int .i64 0, .int .i64 1, .int .i64 0, .int .i64 0] := k6.block _ _ hx.out (by simp [PT])
  have y3 := hx6.cell (j := 3) rfl
  have cT := Stat_any 1 w6 hP6 i64_one
  rw [opR_none s4, stV_none s4] at cT
  simp only [zl] at cT
  replace cT := W_hid cT
  replace hx6 := W_hid hx6
  clear cC k6 b7 hP6
  go_wp2_with fail
  refine cT.out.mono ?_
  rintro e w7 ⟨rfl, b9⟩
  have y3 := ((hx6.out.keep b9).alloc (.cells #[.int .i64 0, .int .i64 0, .int .i64 0, .int .i64 0, .int .i64 0, .int .i64 0] 41)).cell (j := 3) rfl
  have b10 := W_hid (b8.out.trans ((b9.alloc b9.size (.cells #[.int .i64 0, .int .i64 0, .int .i64 0, .int .i64 0, .int .i64 0, .int .i64 0] 41)).mono b8.out.size))
  clear cT b8 b9
  go_wp2_with fail
  go_ret
  exact ⟨rfl, b10.out⟩
end IN

set_option maxRecDepth 100000 in
set_option maxHeartbeats 8000000 in
theorem InodeNone_walk (a0 a1 : Int) (a2 : ByteArray) (w : World) (w0 : (Lit.int .i64 a0).wf = true) (w1 : (Lit.int .i64 a1).wf = true) (w2 : a2.size ≤ maxLen) :
    Calls Try.prog 7 #[.int .i64 a0, .int .i64 a1, .string a2] w fun e w' => e = .returned (.bool true) ∧ Below w.heap.size w w' := by
  have cS := W_hid (IN.shown_any w)
  go_enter Try.func7, Try.ntmps7
  go_wp2_with fail
  refine cS.out.mono ?_
  rintro e x1 ⟨rfl, b1⟩
  have b1 := W_hid b1
  go_wp2_with fail
  refine (IN.Make_nil a0 x1).mono ?_
  rintro e x2 ⟨rfl, b2⟩
  have b2 := W_hid (b1.out.trans (b2.mono b1.out.size))
  go_wp2_with fail
  refine (IN.Read_nil a0 a1 a1 x2).mono ?_
  rintro e x3 ⟨rfl, b3⟩
  have b3 := W_hid (b2.out.trans (b3.mono b2.out.size))
  have cT := IN.Stat_nil a0 x3
  simp only [IN.zl] at cT
  have cT := W_hid cT
  go_wp2_with fail
  refine cT.out.mono ?_
  rintro e x4 ⟨rfl, b4⟩
  have b4 := W_hid (b3.out.trans ((b4.alloc b4.size (.cells #[.int .i64 0, .int .i64 0, .int .i64 0, .int .i64 0, .int .i64 0, .int .i64 0] 41)).mono b3.out.size))
  go_wp2_with fail
  refine (IN.Link_nil a0 _).mono ?_
  rintro e x5 ⟨rfl, b5⟩
  have b5 := W_hid (b4.out.trans (b5.mono b4.out.size))
  go_wp2_with fail
  refine (IN.Unlink_nil a0 _).mono ?_
  rintro e x6 ⟨rfl, b6⟩
  have b6 := W_hid (b5.out.trans (b6.mono b5.out.size))
  go_wp2_with fail
  refine (IN.Open_nil a0 _).mono ?_
  rintro e x7 ⟨rfl, b7⟩
  have b7 := W_hid (b6.out.trans (b7.mono b6.out.size))
  go_wp2_with fail
  refine (IN.Close_nil a0 _).mono ?_
  rintro e x8 ⟨rfl, b8⟩
  have b8 := W_hid (b7.out.trans (b8.mono b7.out.size))
  go_wp2_with fail
  refine (IN.Write_nil a0 a1 a2 _).mono ?_
  rintro e x9 ⟨rfl, b9⟩
  have b9 := W_hid (b8.out.trans (b9.mono b8.out.size))
  go_wp2_with fail
  refine (IN.Trunc_nil a0 a1 _).mono ?_
  rintro e x10 ⟨rfl, b10⟩
  have b10 := W_hid (b9.out.trans (b10.mono b9.out.size))
  go_wp2_with fail
  refine (IN.All_nil _).mono ?_
  rintro e x11 ⟨rfl, b11⟩
  have b11 := W_hid (b10.out.trans (b11.mono b10.out.size))
  go_wp2_with fail
  go_ret
  exact ⟨rfl, b11.out⟩

set_option maxRecDepth 100000 in
theorem InodeNone_lifted (os : Os) (started : os.Started) (H : Type) (enc : TypeId × Value → H) :
    ReturnsInHanded {} Try.checked os 7 .any (Rows.inodeNoneSpec.pre6 enc Try.prog Try.f7 Rows.inodeNoneRow.domain false) (Rows.inodeNoneSpec.post enc Try.prog Try.f7 false true false false) := by
  refine returnsInHanded_of_change (C := Try.checked) (by kernel_rfl) started (by kernel_rfl) Try.func7
    (ChangeSpec.witness6 (enc := enc) (C := Try.checked) false ⟨#[], #[.int .i64 0, .int .i64 0, .string ByteArray.empty], []⟩ 8 (by kernel_rfl) (by kernel_rfl) (by kernel_rfl) (by kernel_rfl)) ?_
  intro W base args ds gs before hval0 hW hcnd _
  have hval : ∀ (j : Nat) t v, Try.f7.params[j]? = some t → args[j]? = some v → Value.okWide Try.prog W .any base t v := hval0
  have hW' := hW
  obtain ⟨p, q, hA0, hV, rfl, hfz, hnd⟩ := hW
  have hA : DataW.TrodAll enc Try.prog W 0 (fun _ => true) true Try.f7.params.toList args.toList ds p := hA0
  rw [Try.params7] at hA hval
  obtain ⟨v0, vs0, d0, ds0, p0, q0, hargs, rfl, rfl, h0, r0⟩ := trodAll_cons hA
  obtain ⟨v1, vs1, d1, ds1, p1, q1, rfl, rfl, rfl, h1, r1⟩ := trodAll_cons r0
  obtain ⟨v2, vs2, d2, ds2, p2, q2, rfl, rfl, rfl, h2, r2⟩ := trodAll_cons r1
  obtain ⟨rfl, rfl, rfl⟩ := trodAll_nil r2
  obtain rfl : args = #[v0, v1, v2] := by cases args; simp_all
  obtain ⟨rfl, rfl⟩ := trodVars_none hV
  obtain ⟨a0, rfl, rfl, rfl, w0⟩ := open_int Try.underlying3 (hval 0 3 v0 rfl rfl) h0
  obtain ⟨a1, rfl, rfl, rfl, w1⟩ := open_int Try.underlying2 (hval 1 2 v1 rfl rfl) h1
  obtain ⟨a2, rfl, rfl, rfl, w2⟩ := open_string Try.underlying9 (hval 2 9 v2 rfl rfl) h2
  clear hA0 hval0
  refine (InodeNone_walk a0 a1 a2 W w0 w1 w2).mono fun e W' ⟨he, bel⟩ => ?_
  subst he
  exact ⟨_, rfl, _, _, _, [], _, [], hW', trodAll_mk1 (shut_bool Try.underlying4 _), (trodAll_cons_mk (shut_int Try.underlying3 w0) (trodAll_cons_mk (shut_int Try.underlying2 w1) (trodAll_cons_mk (shut_string Try.underlying9 w2) trodAll_mk0))), rfl, bel.frame _, fun h => by cases h⟩

/-- The given statement of InodeNone. -/
theorem InodeNone_holds : Rows.InodeNoneSaid :=
  OpenClaim.holds_of_wide 7 Try.f7 rfl rfl rfl rfl rfl rfl rfl ⟨rfl, rfl, rfl, rfl, rfl⟩ rfl rfl rfl rfl rfl (by kernel_rfl) Try.func7 (by kernel_rfl)
    (of_decide_eq_true (by kernel_rfl)) (by unfold Func.isWrapper; first | (rw [if_pos (by decide +kernel)]; kernel_rfl) | (rw [if_neg (by decide +kernel)]; exact ⟨rfl, rfl⟩))
    (fun os started H enc _ => InodeNone_lifted os started H enc)
end Go.Proofs.Ytieneehpijilpaa

/- The law InodeCounts of layer 11 (package haywardlaw11): for every input it returns true, and its arguments read as before. No further condition. -/
namespace Go.Proofs.Ytieneehpijilpaa
open Go.ChangeShapes Go.WideShapes Go.ChangeAt Go.RowKit
open Go.ChangeMaps (open_string shut_string)
set_option linter.unusedVariables false
set_option linter.unusedSimpArgs false

namespace IN
theorem lkR_some {L : Int} {S : Int → Option Nd} {n : Int} {d : Nd} (h : S n = some d) (hl : d.links < L) : lkR L S n = 0 := by simp [lkR, askR, h, hl]
theorem lkS_at {L : Int} {S : Int → Option Nd} {n : Int} {d : Nd} (h : S n = some d) (hl : d.links < L) : lkS L S n n = some { d with links := d.links + 1 } := by simp [lkS, h, hl, upd_at]
theorem room_of {S : Int → Option Nd} {n I : Nat} (h1 : 1 ≤ n) (h2 : n ≤ I) (hS : S (n : Int) = none) : (lst S I).length < I := by
  rw [split S n I h1 h2, hS]
  have e1 : (lo S n).length ≤ n - 1 := by have := List.length_filterMap_le (ent S) (List.range (n - 1)); simpa [lo] using this
  have e2 : (hi S n I).length ≤ I - n := by have := List.length_filterMap_le (ent S) (List.range' n (I - n)); simpa [hi] using this
  simp
  omega
theorem mkR_yes {I : Nat} {S : Int → Option Nd} {kd : Int} (hk : kd = 1 ∨ kd = 2) (h : (lst S I).length < I) : mkR I S kd = 0 := by unfold mkR; rw [if_pos hk, if_pos h]
/-- An inode with so many links and opens, and nothing else. -/
def nd (l o : Int) : Nd := { kind := 1, links := l, opens := o, size := 0, l := [] }
theorem stl_nd (l o : Int) : stl 1 (nd l o) = [.int .i64 1, .int .i64 1, .int .i64 l, .int .i64 o, .int .i64 0, .int .i64 0] := rfl
theorem ulS_nd {S : Int → Option Nd} {l o : Int} (h : S 1 = some (nd l o)) (hl : 0 < l) : ulS S 1 1 = if l = 1 ∧ o = 0 then none else some (nd (l - 1) o) := ulS_at h hl
theorem clS_nd {S : Int → Option Nd} {l o : Int} (h : S 1 = some (nd l o)) (hl : 0 < o) : clS S 1 1 = if l = 0 ∧ o = 1 then none else some (nd l (o - 1)) := clS_at h hl
end IN
open IN

set_option maxRecDepth 100000 in
set_option maxHeartbeats 16000000 in
theorem InodeCounts_walk (a0 a1 : Int) (w : World) (w0 : (Lit.int .i64 a0).wf = true) (w1 : (Lit.int .i64 a1).wf = true) :
    Calls Try.prog 8 #[.int .i64 a0, .int .i64 a1] w fun e w' => e = .returned (.bool true) ∧ Below w.heap.size w w' := by
  have cS := W_hid (shown_any w)
  obtain ⟨m0, hm0⟩ : ∃ m0, (if 20 < a0 then 20 else a0) = m0 := ⟨_, rfl⟩
  obtain ⟨m1, hm1⟩ : ∃ m1, (if 20 < a1 then 20 else a1) = m1 := ⟨_, rfl⟩
  have hm0' : m0 ≤ 20 := by rw [← hm0]; split <;> omega
  have hm1' : m1 ≤ 20 := by rw [← hm1]; split <;> omega
  obtain ⟨A, hA⟩ : ∃ A : Nat, (if 0 < m0 then m0 else 0) = (A : Int) := ⟨m0.toNat, by split <;> omega⟩
  obtain ⟨C, hC⟩ : ∃ C : Nat, (if 0 < m1 then m1 else 0) = (C : Int) := ⟨m1.toNat, by split <;> omega⟩
  have hA20 : A ≤ 20 := by split at hA <;> omega
  have hC20 : C ≤ 20 := by split at hC <;> omega
  clear hm0' hm1'
  have cap : ∀ w, (Instr.build 23 #[(0, .int .i64 3), (1, .int .i64 10), (2, .int .i64 30)]).run Try.prog w = .ok (cap7 3 10 30 0 0 0 0) w := fun w => by kernel_rfl
  go_enter Try.func8, Try.ntmps8
  go_wp2_with fail
  refine cS.out.mono ?_
  rintro e x1 ⟨rfl, b1⟩
  have hbase := b1.size
  have cN := W_hid (New_yes 3 10 30 0 0 0 0 x1 (by unfold Right; omega))
  have b1 := W_hid b1
  go_wp2_with fail
  refine cN.out.mono ?_
  rintro e x2 ⟨sg, mb, M, rfl, hP, b2⟩
  have b2 := W_hid (b1.out.trans (b2.mono hbase))
  have cM := W_hid (Make_yes 1 1 x2 hP (mkR_yes (.inl rfl) (by rw [lst_none]; decide)) low_none (by decide) (by decide))
  clear hP cN
  go_wp2_with fail
  refine cM.out.mono ?_
  rintro e x3 ⟨rfl, ⟨M1, hP1⟩, k3⟩
  have b3 := W_hid (b2.out.trans ((below_keeps k3).mono hbase))
  obtain ⟨S1, hS1⟩ : ∃ S1, upd (fun _ => none) ((1 : Nat) : Int) (some (newNd 1)) = S1 := ⟨_, rfl⟩
  have s11 : S1 1 = some (nd 1 0) := by rw [← hS1]; rfl
  have s12 : S1 ((2 : Nat) : Int) = none := by rw [← hS1]; rfl
  rw [hS1] at hP1
  have cM := W_hid (Make_yes 1 2 x3 hP1 (mkR_yes (.inl rfl) (room_of (n := 2) (by decide) (by decide) s12)) ⟨by decide, s12, fun m a b => by
    have : m = 1 := by omega
    subst this
    rw [show ((1 : Nat) : Int) = 1 from rfl, s11]; simp⟩ (by decide) (by decide))
  clear hP1 k3 hS1
  go_wp2_with fail
  refine cM.out.mono ?_
  rintro e x4 ⟨rfl, ⟨M2, hP2⟩, k4⟩
  have b4 := W_hid (b3.out.trans ((below_keeps k4).mono hbase))
  obtain ⟨S2, hS2⟩ : ∃ S2, upd S1 ((2 : Nat) : Int) (some (newNd 1)) = S2 := ⟨_, rfl⟩
  have s21 : Hid (S2 1 = some (nd ((0 : Nat) + 1 : Int) 0)) := W_hid (by rw [← hS2, upd_ne (by decide), s11]; rfl)
  rw [hS2] at hP2
  replace hP2 := W_hid hP2
  clear cM k4 hS2 s11 s12
  go_wp2_with fail
  go_loopw [12] (fun v wr => ∃ (i : Nat) (S : Int → Option Nd) (M : Int → Option Nat), i ≤ A ∧ v = .int .i64 (i : Int) ∧ Hid (PS x1.heap.size wr sg mb M 3 30 10 0 S) ∧ Hid (S 1 = some (nd ((i : Int) + 1) 0)) ∧ Hid (Below w.heap.size w wr)) (fun v _ => A - (intOf v).toNat)
  case atStart => exact ⟨0, S2, M2, Nat.zero_le _, rfl, hP2, s21, b4⟩
  case round =>
    clear hP2 s21 b4
    obtain ⟨i, S, M3, hi, rfl, hP, hs, hb⟩ := hrel
    by_cases hlt : i < A
    · have hl : (nd ((i : Int) + 1) 0).links < ((30 : Nat) : Int) := by show (i : Int) + 1 < 30; omega
      have cL := Link_any 1 wr hP.out i64_one
      rw [lkR_some hs.out hl] at cL
      have s' := lkS_at hs.out hl
      obtain ⟨S', hS'⟩ : ∃ S', lkS ((30 : Nat) : Int) S 1 = S' := ⟨_, rfl⟩
      rw [hS'] at cL
      have s2 : Hid (S' 1 = some (nd ((i : Int) + 1 + 1) 0)) := W_hid (by rw [← hS']; exact s')
      replace cL := W_hid cL
      clear hS' s'
      go_wp2_with fail
      refine cL.out.mono ?_
      rintro e x5 ⟨rfl, ⟨M', hP'⟩, k5⟩
      have hb' := W_hid (hb.out.trans ((below_keeps k5).mono hbase))
      replace hP' := W_hid hP'
      clear cL k5
      go_wp2_with fail
      go_roundw
      case rel => exact ⟨i + 1, S', M', by omega, by go_num, hP', by simpa using s2, hb'⟩
      case measure => simp [intOf]; omega
    · obtain rfl : i = A := by omega
      obtain ⟨wa, rfl⟩ : ∃ wa, wa = wr := ⟨wr, rfl⟩
      go_wp2_with fail
      go_loopw [13] (fun v wr => ∃ (j : Nat) (S : Int → Option Nd) (M : Int → Option Nat), j ≤ C ∧ v = .int .i64 (j : Int) ∧ Hid (PS x1.heap.size wr sg mb M 3 30 10 j S) ∧ Hid (S 1 = some (nd ((i : Int) + 1) (j : Int))) ∧ Hid (Below w.heap.size w wr)) (fun v _ => C - (intOf v).toNat)
      case atStart => exact ⟨0, S, M3, Nat.zero_le _, rfl, hP, hs, hb⟩
      case round =>
        clear hP hs hb
        obtain ⟨j, S, M4, hj, rfl, hP, hs, hb⟩ := hrel
        by_cases hlt2 : j < C
        · have cL := Open_any 1 wr hP.out i64_one (by omega)
          rw [opR_some hs.out] at cL
          have s' := opS_at hs.out
          obtain ⟨S', hS'⟩ : ∃ S', opS S 1 = S' := ⟨_, rfl⟩
          rw [hS'] at cL
          have s2 : Hid (S' 1 = some (nd ((i : Int) + 1) ((j : Int) + 1))) := W_hid (by rw [← hS']; exact s')
          replace cL := W_hid cL
          clear hS' s'
          go_wp2_with fail
          refine cL.out.mono ?_
          rintro e x5 ⟨rfl, ⟨M', hP'⟩, k5⟩
          have hb' := W_hid (hb.out.trans ((below_keeps k5).mono hbase))
          replace hP' := W_hid hP'
          clear cL k5
          go_wp2_with fail
          go_roundw
          case rel => exact ⟨j + 1, S', M', by omega, by go_num, hP', by simpa using s2, hb'⟩
          case measure => simp [intOf]; omega
        · obtain rfl : j = C := by omega
          have cT := Stat_any 1 wr hP.out i64_one
          rw [opR_some hs.out, stV_some hs.out, stl_nd] at cT
          replace cT := W_hid cT
          go_wp2_with fail
          refine cT.out.mono ?_
          rintro e x5 ⟨rfl, b5⟩
          have b6 := b5.alloc b5.size (.cells #[.int .i64 1, .int .i64 1, .int .i64 ((i : Int) + 1), .int .i64 (j : Int), .int .i64 0, .int .i64 0] 41)
          have hx := Blk.new x5 41 [.int .i64 1, .int .i64 1, .int .i64 ((i : Int) + 1), .int .i64 (j : Int), .int .i64 0, .int .i64 0] rfl
          have hP5 := hP.out.keep b6
          have hb5 := W_hid (hb.out.trans (b6.mono hb.out.size))
          replace hx := W_hid hx
          replace hP5 := W_hid hP5
          obtain ⟨wb, rfl⟩ : ∃ wb, wb = wr := ⟨wr, rfl⟩
          clear cT b5 b6 hb hP
          go_wp2_with fail
          go_loopw [16] (fun v wr => ∃ (p : Nat) (S : Int → Option Nd) (M : Int → Option Nat), p ≤ i + 1 ∧ v = .int .i64 (p : Int) ∧ Hid (PS x1.heap.size wr sg mb M 3 30 10 j S) ∧ Hid (S 1 = if p = i + 1 ∧ j = 0 then none else some (nd ((i : Int) + 1 - p) (j : Int))) ∧ Hid (Blk wr x5.heap.size 41 [.int .i64 1, .int .i64 1, .int .i64 ((i : Int) + 1), .int .i64 (j : Int), .int .i64 0, .int .i64 0]) ∧ Hid (Below w.heap.size w wr)) (fun v _ => i + 1 - (intOf v).toNat)
          case atStart => exact ⟨0, S, M4, Nat.zero_le _, rfl, hP5, W_hid (by rw [if_neg (by omega), hs.out]; simp), hx, hb5⟩
          case round =>
            clear hP5 hs hx hb5
            obtain ⟨p, S, M5, hp, rfl, hP, hs, hx, hb⟩ := hrel
            by_cases hlt3 : p < i + 1
            · have hs1 : S 1 = some (nd ((i : Int) + 1 - p) (j : Int)) := by rw [hs.out, if_neg (by omega)]
              have cL := Unlink_any 1 wr hP.out i64_one (by omega)
              rw [ulR_some hs1 (by show 0 < (i : Int) + 1 - p; omega)] at cL
              have s' := ulS_nd hs1 (by omega)
              obtain ⟨S', hS'⟩ : ∃ S', ulS S 1 = S' := ⟨_, rfl⟩
              rw [hS'] at cL
              have s2 : Hid (S' 1 = if p + 1 = i + 1 ∧ j = 0 then none else some (nd ((i : Int) + 1 - ((p + 1 : Nat) : Int)) (j : Int))) := W_hid (by
                rw [← hS', s']
                by_cases e : p + 1 = i + 1 ∧ j = 0
                · rw [if_pos e, if_pos (by omega)]
                · rw [if_neg e, if_neg (by omega)]
                  congr 2
                  omega)
              replace cL := W_hid cL
              clear hS' s' hs1 hs
              go_wp2_with fail
              refine cL.out.mono ?_
              rintro e x6 ⟨rfl, ⟨M', hP'⟩, k6⟩
              have hb' := W_hid (hb.out.trans ((below_keeps k6).mono hbase))
              have hx' : Hid (Blk x6 x5.heap.size 41 [.int .i64 1, .int .i64 1, .int .i64 ((i : Int) + 1), .int .i64 (j : Int), .int .i64 0, .int .i64 0]) := W_hid (k6.block _ _ hx.out (by simp [PT]))
              replace hP' := W_hid hP'
              clear cL k6 hx
              go_wp2_with fail
              go_roundw
              case rel => exact ⟨p + 1, S', M', by omega, by go_num, hP', s2, hx', hb'⟩
              case measure => simp [intOf]; omega
            · obtain rfl : p = i + 1 := by omega
              obtain ⟨wc, rfl⟩ : ∃ wc, wc = wr := ⟨wr, rfl⟩
              have hs2 : Hid (S 1 = if 0 = j then none else some (nd 0 ((j : Int) - ((0 : Nat) : Int)))) := W_hid (by
                rw [hs.out]
                by_cases e : j = 0
                · rw [if_pos ⟨rfl, e⟩, if_pos e.symm]
                · rw [if_neg (by omega), if_neg (Ne.symm e)]
                  congr 2 <;> omega)
              go_wp2_with fail
              go_loopw [17] (fun v wr => ∃ (q : Nat) (S : Int → Option Nd) (M : Int → Option Nat), q ≤ j ∧ v = .int .i64 (q : Int) ∧ Hid (PS x1.heap.size wr sg mb M 3 30 10 j S) ∧ Hid (S 1 = if q = j then none else some (nd 0 ((j : Int) - (q : Int)))) ∧ Hid (Blk wr x5.heap.size 41 [.int .i64 1, .int .i64 1, .int .i64 ((i : Int) + 1), .int .i64 (j : Int), .int .i64 0, .int .i64 0]) ∧ Hid (Below w.heap.size w wr)) (fun v _ => j - (intOf v).toNat)
              case atStart => exact ⟨0, S, M5, Nat.zero_le _, rfl, hP, hs2, hx, hb⟩
              case round =>
                clear hP hs hs2 hx hb
                obtain ⟨q, S, M6, hq, rfl, hP, hs, hx, hb⟩ := hrel
                by_cases hlt4 : q < j
                · have hs1 : S 1 = some (nd 0 ((j : Int) - (q : Int))) := by rw [hs.out, if_neg (by omega)]
                  have cL := Close_any 1 wr hP.out i64_one (by omega)
                  rw [clR_some hs1 (by show 0 < (j : Int) - (q : Int); omega)] at cL
                  have s' := clS_nd hs1 (by omega)
                  obtain ⟨S', hS'⟩ : ∃ S', clS S 1 = S' := ⟨_, rfl⟩
                  rw [hS'] at cL
                  have s2 : Hid (S' 1 = if q + 1 = j then none else some (nd 0 ((j : Int) - ((q + 1 : Nat) : Int)))) := W_hid (by
                    rw [← hS', s']
                    by_cases e : q + 1 = j
                    · rw [if_pos e, if_pos (by omega)]
                    · rw [if_neg e, if_neg (by omega)]
                      congr 2
                      omega)
                  replace cL := W_hid cL
                  clear hS' s' hs1 hs
                  go_wp2_with fail
                  refine cL.out.mono ?_
                  rintro e x6 ⟨rfl, ⟨M', hP'⟩, k6⟩
                  have hb' := W_hid (hb.out.trans ((below_keeps k6).mono hbase))
                  have hx' : Hid (Blk x6 x5.heap.size 41 [.int .i64 1, .int .i64 1, .int .i64 ((i : Int) + 1), .int .i64 (j : Int), .int .i64 0, .int .i64 0]) := W_hid (k6.block _ _ hx.out (by simp [PT]))
                  replace hP' := W_hid hP'
                  clear cL k6 hx
                  go_wp2_with fail
                  go_roundw
                  case rel => exact ⟨q + 1, S', M', by omega, by go_num, hP', s2, hx', hb'⟩
                  case measure => simp [intOf]; omega
                · obtain rfl : q = j := by omega
                  have hs1 : S 1 = none := by rw [hs.out, if_pos rfl]
                  have cT := Stat_any 1 wr hP.out i64_one
                  rw [opR_none hs1, stV_none hs1] at cT
                  simp only [zl] at cT
                  replace cT := W_hid cT
                  go_wp2_with fail
                  refine cT.out.mono ?_
                  rintro e x6 ⟨rfl, b6⟩
                  have b7 := b6.alloc b6.size (.cells #[.int .i64 0, .int .i64 0, .int .i64 0, .int .i64 0, .int .i64 0, .int .i64 0] 41)
                  have hx7 := W_hid (hx.out.keep b7)
                  have hb7 := W_hid (hb.out.trans (b7.mono hb.out.size))
                  have cM := W_hid (Make_yes 2 1 _ (hP.out.keep b7) (mkR_yes (.inr rfl) (room_of (n := 1) (by decide) (by decide) hs1)) ⟨by decide, hs1, fun m a b => by omega⟩ (by decide) (by decide))
                  clear cT b6 b7 hx hb hP hs hs1
                  go_wp2_with fail
                  refine cM.out.mono ?_
                  rintro e x8 ⟨rfl, ⟨M8, hP8⟩, k8⟩
                  have hx8 : Blk x8 x5.heap.size 41 [.int .i64 1, .int .i64 1, .int .i64 ((i : Int) + 1), .int .i64 (q : Int), .int .i64 0, .int .i64 0] := k8.block _ _ hx7.out (by simp [PT])
                  have y2 := hx8.cell (j := 2) rfl
                  have y3 := hx8.cell (j := 3) rfl
                  have hb8 := W_hid (hb7.out.trans ((below_keeps k8).mono hbase))
                  clear cM hP8 k8 hx8
                  go_wp2_with fail
                  go_ret
                  exact ⟨rfl, hb8.out⟩

set_option maxRecDepth 100000 in
theorem InodeCounts_lifted (os : Os) (started : os.Started) (H : Type) (enc : TypeId × Value → H) :
    ReturnsInHanded {} Try.checked os 8 .any (Rows.inodeCountsSpec.pre6 enc Try.prog Try.f8 Rows.inodeCountsRow.domain false) (Rows.inodeCountsSpec.post enc Try.prog Try.f8 false true false false) := by
  refine returnsInHanded_of_change (C := Try.checked) (by kernel_rfl) started (by kernel_rfl) Try.func8
    (ChangeSpec.witness6 (enc := enc) (C := Try.checked) false ⟨#[], #[.int .i64 0, .int .i64 0], []⟩ 8 (by kernel_rfl) (by kernel_rfl) (by kernel_rfl) (by kernel_rfl)) ?_
  intro W base args ds gs before hval0 hW hcnd _
  have hval : ∀ (j : Nat) t v, Try.f8.params[j]? = some t → args[j]? = some v → Value.okWide Try.prog W .any base t v := hval0
  have hW' := hW
  obtain ⟨p, q, hA0, hV, rfl, hfz, hnd⟩ := hW
  have hA : DataW.TrodAll enc Try.prog W 0 (fun _ => true) true Try.f8.params.toList args.toList ds p := hA0
  rw [Try.params8] at hA hval
  obtain ⟨v0, vs0, d0, ds0, p0, q0, hargs, rfl, rfl, h0, r0⟩ := trodAll_cons hA
  obtain ⟨v1, vs1, d1, ds1, p1, q1, rfl, rfl, rfl, h1, r1⟩ := trodAll_cons r0
  obtain ⟨rfl, rfl, rfl⟩ := trodAll_nil r1
  obtain rfl : args = #[v0, v1] := by cases args; simp_all
  obtain ⟨rfl, rfl⟩ := trodVars_none hV
  obtain ⟨a0, rfl, rfl, rfl, w0⟩ := open_int Try.underlying3 (hval 0 3 v0 rfl rfl) h0
  obtain ⟨a1, rfl, rfl, rfl, w1⟩ := open_int Try.underlying3 (hval 1 3 v1 rfl rfl) h1
  clear hA0 hval0
  refine (InodeCounts_walk a0 a1 W w0 w1).mono fun e W' ⟨he, bel⟩ => ?_
  subst he
  exact ⟨_, rfl, _, _, _, [], _, [], hW', trodAll_mk1 (shut_bool Try.underlying4 _), (trodAll_cons_mk (shut_int Try.underlying3 w0) (trodAll_cons_mk (shut_int Try.underlying3 w1) trodAll_mk0)), rfl, bel.frame _, fun h => by cases h⟩

/-- The given statement of InodeCounts. -/
theorem InodeCounts_holds : Rows.InodeCountsSaid :=
  OpenClaim.holds_of_wide 8 Try.f8 rfl rfl rfl rfl rfl rfl rfl ⟨rfl, rfl, rfl, rfl, rfl⟩ rfl rfl rfl rfl rfl (by kernel_rfl) Try.func8 (by kernel_rfl)
    (of_decide_eq_true (by kernel_rfl)) (by unfold Func.isWrapper; first | (rw [if_pos (by decide +kernel)]; kernel_rfl) | (rw [if_neg (by decide +kernel)]; exact ⟨rfl, rfl⟩))
    (fun os started H enc _ => InodeCounts_lifted os started H enc)
end Go.Proofs.Ytieneehpijilpaa

/- What the laws with calls of layer 11 share: calls that came in; the document's Same, of lists that are the same. -/
namespace Go.Proofs.Ytieneehpijilpaa
open Go.ChangeShapes Go.WideShapes Go.ChangeAt Go.RowKit
open Go.ChangeMaps (open_string shut_string)
set_option linter.unusedVariables false
set_option linter.unusedSimpArgs false

/-- A call. -/
abbrev OpT11 := Int × Int × Int × Int × ByteArray
/-- What the walk is told of a slice of calls that came in. -/
def OS11 (w : World) (a : Option Addr) (len cap : Nat) (l : List OpT11) : Prop :=
  len ≤ maxLen ∧ l.length = len ∧ ∀ j (hj : j < l.length), ∃ blk off, a = some ⟨blk, off, none⟩ ∧ blk < w.heap.size ∧ w.cell? ⟨blk, off + j * 5, none⟩ = some (.int .i64 l[j].1) ∧ w.cell? ⟨blk, off + j * 5 + 1, none⟩ = some (.int .i64 l[j].2.1) ∧ w.cell? ⟨blk, off + j * 5 + 2, none⟩ = some (.int .i64 l[j].2.2.1) ∧ w.cell? ⟨blk, off + j * 5 + 3, none⟩ = some (.int .i64 l[j].2.2.2.1) ∧ w.cell? ⟨blk, off + j * 5 + 4, none⟩ = some (.string l[j].2.2.2.2) ∧ -9223372036854775808 ≤ l[j].1 ∧ l[j].1 ≤ 9223372036854775807 ∧ -9223372036854775808 ≤ l[j].2.1 ∧ l[j].2.1 ≤ 9223372036854775807 ∧ -9223372036854775808 ≤ l[j].2.2.1 ∧ l[j].2.2.1 ≤ 9223372036854775807 ∧ -9223372036854775808 ≤ l[j].2.2.2.1 ∧ l[j].2.2.2.1 ≤ 9223372036854775807 ∧ l[j].2.2.2.2.size ≤ maxLen

set_option maxRecDepth 100000 in
theorem open_ops11 {H : Type} {enc : TypeId × Value → H} {W : World} {r : Reach} {b0 : Nat} {v : Value} {d : DataW H} {p : List MemPlace} (hv : Value.okWide Try.prog W r b0 24 v)
    (h : DataW.Trod enc Try.prog W 0 (fun _ => true) true 24 v d p) :
    ∃ (ao : Option Addr) (n cap : Nat) (l : List OpT11), v = .slice ao n cap ∧ OS11 W ao n cap l := by
  obtain ⟨a, len, cap, rfl⟩ := okWide_slice Try.underlying24 hv
  obtain ⟨fuel, hf⟩ := h
  rcases Deep.open_slice Try.underlying24 hf with ⟨e1, -⟩ | ⟨x, len', cap', m, n, D, Pl, e1, hb, hl, hm, hmm, -, hx⟩
  · simp [Value.cells] at e1
    obtain ⟨rfl, rfl, rfl⟩ := e1
    exact ⟨none, 0, 0, [], rfl, Nat.zero_le _, rfl, fun j hj => by simp at hj⟩
  · simp [Value.cells] at e1
    obtain ⟨rfl, rfl, rfl⟩ := e1
    have hlm : len ≤ m := by rw [hmm]; split <;> omega
    have each : ∀ i, i < len → ∃ q : OpT11, W.cell? (x.add (i * 5)) = some (.int .i64 q.1) ∧ W.cell? (x.add (i * 5 + 1)) = some (.int .i64 q.2.1) ∧ W.cell? (x.add (i * 5 + 2)) = some (.int .i64 q.2.2.1) ∧ W.cell? (x.add (i * 5 + 3)) = some (.int .i64 q.2.2.2.1) ∧ W.cell? (x.add (i * 5 + 4)) = some (.string q.2.2.2.2) ∧ -9223372036854775808 ≤ q.1 ∧ q.1 ≤ 9223372036854775807 ∧ -9223372036854775808 ≤ q.2.1 ∧ q.2.1 ≤ 9223372036854775807 ∧ -9223372036854775808 ≤ q.2.2.1 ∧ q.2.2.1 ≤ 9223372036854775807 ∧ -9223372036854775808 ≤ q.2.2.2.1 ∧ q.2.2.2.1 ≤ 9223372036854775807 ∧ q.2.2.2.2.size ≤ maxLen := by
      intro i hi
      obtain ⟨cs', h1, h2⟩ := hx i (by omega)
      rw [show Try.prog.cellsOf 35 = 5 from by kernel_rfl] at h1
      obtain ⟨_, hlen, hcell⟩ := World.cells?_some h1
      obtain ⟨xs, k, hk, hxy, _, hxl, hff⟩ := DataW.trod_struct Try.underlying35 h2
      match xs, hxl, cs', hlen with
      | [y0, y1, y2, y3, y4], _, [v0, v1, v2, v3, v4], _ =>
        have g0 := hff 0 _ rfl
        have g1 := hff 1 _ rfl
        have g2 := hff 2 _ rfl
        have g3 := hff 3 _ rfl
        have g4 := hff 4 _ rfl
        have t0 : Try.prog.cellsOf 3 = 1 := by kernel_rfl
        have t1 : Try.prog.cellsOf 2 = 1 := by kernel_rfl
        have t2 : Try.prog.cellsOf 9 = 1 := by kernel_rfl
        simp [t0, t1, t2] at g0 g1 g2 g3 g4
        have e0 := hcell 0 (by omega)
        have e1 := hcell 1 (by omega)
        have e2 := hcell 2 (by omega)
        have e3 := hcell 3 (by omega)
        have e4 := hcell 4 (by omega)
        rw [Deep.add_add] at e0 e1 e2 e3 e4
        obtain ⟨z0, q0, -, b0⟩ := DataW.trod_int Try.underlying3 g0
        have b0' := bounds_i64 b0
        obtain ⟨z1, q1, -, b1⟩ := DataW.trod_int Try.underlying3 g1
        have b1' := bounds_i64 b1
        obtain ⟨z2, q2, -, b2⟩ := DataW.trod_int Try.underlying2 g2
        have b2' := bounds_i64 b2
        obtain ⟨z3, q3, -, b3⟩ := DataW.trod_int Try.underlying2 g3
        have b3' := bounds_i64 b3
        obtain ⟨z4, q4, -, b4⟩ := DataW.trod_string Try.underlying9 g4
        simp at q0 q1 q2 q3 q4
        subst q0 q1 q2 q3 q4
        exact ⟨(z0, z1, z2, z3, z4), by simpa using e0, by simpa using e1, by simpa using e2, by simpa using e3, by simpa using e4, b0'.1, b0'.2, b1'.1, b1'.2, b2'.1, b2'.2, b3'.1, b3'.2, b4⟩
    have key : ∀ k, k ≤ len → ∃ l : List OpT11, l.length = k ∧ ∀ j (hj : j < l.length), W.cell? (x.add (j * 5)) = some (.int .i64 l[j].1) ∧ W.cell? (x.add (j * 5 + 1)) = some (.int .i64 l[j].2.1) ∧ W.cell? (x.add (j * 5 + 2)) = some (.int .i64 l[j].2.2.1) ∧ W.cell? (x.add (j * 5 + 3)) = some (.int .i64 l[j].2.2.2.1) ∧ W.cell? (x.add (j * 5 + 4)) = some (.string l[j].2.2.2.2) ∧ -9223372036854775808 ≤ l[j].1 ∧ l[j].1 ≤ 9223372036854775807 ∧ -9223372036854775808 ≤ l[j].2.1 ∧ l[j].2.1 ≤ 9223372036854775807 ∧ -9223372036854775808 ≤ l[j].2.2.1 ∧ l[j].2.2.1 ≤ 9223372036854775807 ∧ -9223372036854775808 ≤ l[j].2.2.2.1 ∧ l[j].2.2.2.1 ≤ 9223372036854775807 ∧ l[j].2.2.2.2.size ≤ maxLen := by
      intro k
      induction k with
      | zero => exact fun _ => ⟨[], rfl, fun j hj => by simp at hj⟩
      | succ k ih =>
        intro hk
        obtain ⟨l, h1, h2⟩ := ih (by omega)
        obtain ⟨q, hq⟩ := each k (by omega)
        refine ⟨l ++ [q], by simp [h1], fun j hj => ?_⟩
        by_cases hjl : j < l.length
        · rw [List.getElem_append_left hjl]; exact h2 j hjl
        · have : j = k := by simp at hj; omega
          subst this
          rw [List.getElem_append_right (by omega)]
          simpa [h1] using hq
    obtain ⟨l, h1, h2⟩ := key len (Nat.le_refl _)
    refine ⟨some x, len, cap, l, rfl, Nat.le_trans hl hm, h1, fun j hj => ?_⟩
    obtain ⟨c0, c1, c2, c3, c4, hbn⟩ := h2 j hj
    obtain ⟨b, off, spot⟩ := x
    have h0 := (h2 0 (by omega)).1
    have hs : spot = none := by simpa [Addr.add] using World.cell?_spot h0
    subst hs
    rw [Addr.add_lit] at c0 c1 c2 c3 c4
    exact ⟨b, off, rfl, cell_lt c0, c0, by rw [← Nat.add_assoc] at c1; exact c1, by rw [← Nat.add_assoc] at c2; exact c2, by rw [← Nat.add_assoc] at c3; exact c3, by rw [← Nat.add_assoc] at c4; exact c4, hbn⟩


namespace IN
theorem stat_neq (a b c d e f : Int) (w : World) : (binOp .neq 41 (.agg #[.int .i64 a, .int .i64 b, .int .i64 c, .int .i64 d, .int .i64 e, .int .i64 f]) (.agg #[.int .i64 a, .int .i64 b, .int .i64 c, .int .i64 d, .int .i64 e, .int .i64 f])).run Try.prog w = .ok (.bool false) w := by
  simp [go_sem]
/-- Rows of inodes, by cells. -/
theorem stcl_get : ∀ (l : List (Nat × Nd)) (i : Nat) (hi : i < l.length) (m : Nat), m < 6 → (stcl l)[i * 6 + m]? = (stl (l[i].1 : Int) l[i].2)[m]?
  | [], i, hi, _, _ => by simp at hi
  | x :: r, 0, _, m, hm => by
    simp only [stcl, List.flatMap_cons]
    rw [List.getElem?_append_left (by simp [stl]; omega)]
    simp
  | x :: r, i + 1, hi, m, hm => by
    have ih := stcl_get r i (by simpa using hi) m hm
    simp only [stcl, List.flatMap_cons] at ih ⊢
    rw [List.getElem?_append_right (by simp [stl]; omega)]
    rw [show (i + 1) * 6 + m - (stl (x.1 : Int) x.2).length = i * 6 + m by simp [stl]; omega, ih]
    rfl
theorem own_at {w : World} {base : Nat} {v : Value} {l : List (Nat × Nd)} (h : w.ownsRow base 41 6 v l.length (stcl l)) : ∃ ao cap, v = .slice ao l.length cap ∧ ∀ i (hi : i < l.length), ∃ blk, ao = some ⟨blk, 0, none⟩ ∧ blk < w.heap.size ∧ ∀ m u, (stl (l[i].1 : Int) l[i].2)[m]? = some u → w.cell? ⟨blk, i * 6 + m, none⟩ = some u := by
  rcases h.2 with ⟨rfl, h0⟩ | ⟨g, cap, cur, rfl, hb, hg, h1, h2, h3, h4⟩
  · have hl : l.length = 0 := by have := stcl_len l; rw [h0] at this; simp at this; omega
    skip
    exact ⟨none, 0, by rw [hl], fun i hi => by omega⟩
  · refine ⟨_, cap, rfl, fun i hi => ⟨g, rfl, lt_of_some hg, fun m u hu => ?_⟩⟩
    have hm : m < 6 := by
      rcases Nat.lt_or_ge m 6 with hlt | hge
      · exact hlt
      · rw [List.getElem?_eq_none (by simp [stl]; omega)] at hu; cases hu
    have := h.cells (g := g) rfl (i * 6 + m) u (by rw [stcl_get l i hi m hm]; exact hu)
    rw [Addr.add_lit, Nat.zero_add] at this
    exact this

set_option maxRecDepth 100000 in
set_option maxHeartbeats 4000000 in
theorem Same_yes (v1 v2 : Value) (B1 B2 : Nat) (L : List (Nat × Nd)) (w : World) (hl : L.length ≤ 100000) (h1 : w.ownsRow B1 41 6 v1 L.length (stcl L)) (h2 : w.ownsRow B2 41 6 v2 L.length (stcl L)) :
    Calls Try.prog 13 #[v1, v2] w fun e w' => e = .returned (.bool true) ∧ Below w.heap.size w w' := by
  have hm1 : L.length ≤ maxLen := by unfold maxLen; omega
  obtain ⟨x1, c1, rfl, H1⟩ := own_at h1
  obtain ⟨x2, c2, rfl, H2⟩ := own_at h2
  have H1 := W_hid H1
  have H2 := W_hid H2
  obtain ⟨N, hN⟩ : ∃ N, L.length = N := ⟨_, rfl⟩
  rw [hN] at hl ⊢
  replace hN := W_hid hN
  have he : ((N : Int) != (N : Int)) = false := by simp
  clear h1 h2 hm1
  go_enter Try.func13, Try.ntmps13
  go_wp2
  go_loopw [5] (fun i wr => ∃ k : Nat, k ≤ N ∧ i = .int .i64 k ∧ Below w.heap.size w wr) (fun i _ => N - (intOf i).toNat)
  case atStart => exact ⟨0, Nat.zero_le _, rfl, Below.refl _ _⟩
  case round =>
    obtain ⟨k, hk, rfl, bel⟩ := hrel
    by_cases hlt : k < N
    · have hkl : k < L.length := by rw [hN.out]; exact hlt
      obtain ⟨b1, rfl, hb1, g⟩ := H1.out k hkl
      obtain ⟨b2, rfl, hb2, g'⟩ := H2.out k hkl
      obtain ⟨⟨nj, dj⟩, hx⟩ : ∃ x, L[k] = x := ⟨_, rfl⟩
      rw [hx] at g g'
      have kk : ∀ {b m : Nat} {u : Value}, b < w.heap.size → w.cell? ⟨b, m, none⟩ = some u → wr.cell? ⟨b, m, none⟩ = some u := fun {b m u} hb hc => by rw [bel.cell (p := ⟨b, m, none⟩) hb]; exact hc
      have i0 := kk hb1 (g 0 _ rfl)
      have i1 := kk hb1 (g 1 _ rfl)
      have i2 := kk hb1 (g 2 _ rfl)
      have i3 := kk hb1 (g 3 _ rfl)
      have i4 := kk hb1 (g 4 _ rfl)
      have i5 := kk hb1 (g 5 _ rfl)
      have j0 := kk hb2 (g' 0 _ rfl)
      have j1 := kk hb2 (g' 1 _ rfl)
      have j2 := kk hb2 (g' 2 _ rfl)
      have j3 := kk hb2 (g' 3 _ rfl)
      have j4 := kk hb2 (g' 4 _ rfl)
      have j5 := kk hb2 (g' 5 _ rfl)
      rw [Nat.add_zero] at i0 j0
      have hq := stat_neq (nj : Int) dj.kind dj.links dj.opens dj.size (EM.cnt dj.l : Int)
      clear g g' kk hkl hx
      go_wp2
      go_quiet (fail)
      go_wp2
      go_roundw
      case rel => exact ⟨k + 1, by omega, by go_num, below_drewN bel _⟩
      case measure => simp [intOf]; omega
    · obtain rfl : k = N := by omega
      go_wp2
      go_ret
      exact ⟨rfl, bel⟩
end IN
end Go.Proofs.Ytieneehpijilpaa

/- What any call of a store leaves. -/
namespace Go.Proofs.Ytieneehpijilpaa
open Go.ChangeShapes Go.WideShapes Go.ChangeAt Go.RowKit
open Go.ChangeMaps (open_string shut_string)
set_option linter.unusedVariables false
set_option linter.unusedSimpArgs false

namespace IN
theorem kind9 (k : Int) : ((((k.tmod 9) + 9).tmod 9) = 0 ∨ (((k.tmod 9) + 9).tmod 9) = 1 ∨ (((k.tmod 9) + 9).tmod 9) = 2 ∨ (((k.tmod 9) + 9).tmod 9) = 3 ∨ (((k.tmod 9) + 9).tmod 9) = 4 ∨ (((k.tmod 9) + 9).tmod 9) = 5 ∨ (((k.tmod 9) + 9).tmod 9) = 6 ∨ (((k.tmod 9) + 9).tmod 9) = 7 ∨ (((k.tmod 9) + 9).tmod 9) = 8) ∧ -8 ≤ k.tmod 9 ∧ k.tmod 9 ≤ 8 := by
  have h1 := Int.tmod_lt_of_pos k (show (0 : Int) < 9 by decide)
  have h2 : -9 < k.tmod 9 := by
    have := Int.lt_tmod_of_pos k (show (0 : Int) < 9 by decide)
    omega
  obtain ⟨t, ht⟩ : ∃ t, k.tmod 9 = t := ⟨_, rfl⟩
  rw [ht] at h1 h2 ⊢
  have : t = -8 ∨ t = -7 ∨ t = -6 ∨ t = -5 ∨ t = -4 ∨ t = -3 ∨ t = -2 ∨ t = -1 ∨ t = 0 ∨ t = 1 ∨ t = 2 ∨ t = 3 ∨ t = 4 ∨ t = 5 ∨ t = 6 ∨ t = 7 ∨ t = 8 := by omega
  rcases this with rfl | rfl | rfl | rfl | rfl | rfl | rfl | rfl | rfl | rfl | rfl | rfl | rfl | rfl | rfl | rfl | rfl <;> decide
theorem own_keeps {w w' : World} {base n : Nat} {v : Value} {xs : List Value} {B : Nat} (h : w.ownsRow base 41 6 v n xs) (hK : Keeps B PT w w') : w'.ownsRow base 41 6 v n xs := by
  rcases h.2 with h0 | ⟨g, cap, cur, h1, h2, h3, h4⟩
  · exact ⟨h.1, .inl h0⟩
  · exact ⟨h.1, .inr ⟨g, cap, cur, h1, h2, hK.block _ _ h3 (by simp [PT]), h4⟩⟩

/-- What any call leaves: an answer r, the store; it has turned only if r is 0. -/
def Left (base sg mb I L B k : Nat) (S : Int → Option Nd) (w : World) (r : Int) (w' : World) : Prop := ∃ S' M', PS base w' sg mb M' I L B k S' ∧ Keeps base PT w w' ∧ (r ≠ 0 → S' = S)
section
variable {base sg mb I L B k : Nat} {M : Int → Option Nat} {S : Int → Option Nd} {w : World}
theorem left_out {k' : Nat} {r : Int} {S' : Int → Option Nd} (hk : k ≤ k') (hr : r ≠ 0 → S' = S) {e : Ending} {w' : World} (h : Out base sg mb I L B k w r S' e w') : e = .returned (.int .i64 r) ∧ Left base sg mb I L B k' S w r w' := by
  obtain ⟨h1, ⟨M', h2⟩, h3⟩ := h
  exact ⟨h1, S', M', h2.more hk, h3, hr⟩
theorem left_same {k' : Nat} (h : PS base w sg mb M I L B k S) (hk : k ≤ k') (r : Int) {w' : World} (hb : Below w.heap.size w w') : Left base sg mb I L B k' S w r w' := ⟨S, M, (h.keep hb).more hk, Keeps.new hb h.low, fun _ => rfl⟩
theorem ask_ne {S S' : Int → Option Nd} {n : Int} {f : Nd → Int} (h0 : S n = none → S' = S) (h1 : ∀ d, S n = some d → f d ≠ 0 → S' = S) : askR S n f ≠ 0 → S' = S := by
  unfold askR
  cases hS : S n with
  | none => exact fun _ => h0 hS
  | some d => exact h1 d hS
theorem lk_ne (L n : Int) : lkR L S n ≠ 0 → lkS L S n = S := ask_ne (fun h => by simp [lkS, h]) (fun d h hr => by
  have : ¬ d.links < L := fun e => hr (if_pos e)
  simp [lkS, h, this])
theorem ul_ne (n : Int) : ulR S n ≠ 0 → ulS S n = S := ask_ne (fun h => by simp [ulS, h]) (fun d h hr => by
  have : ¬ 0 < d.links := fun e => hr (if_pos e)
  simp [ulS, h, this])
theorem op_ne (n : Int) : opR S n ≠ 0 → opS S n = S := ask_ne (fun h => by simp [opS, h]) (fun d h hr => absurd rfl hr)
theorem cl_ne (n : Int) : clR S n ≠ 0 → clS S n = S := ask_ne (fun h => by simp [clS, h]) (fun d h hr => by
  have : ¬ 0 < d.opens := fun e => hr (if_pos e)
  simp [clS, h, this])
theorem wr_ne (I B : Nat) (n f : Int) (s : ByteArray) : wrErr I B S n f s ≠ 0 → wrS I B S n f s = S := ask_ne (fun h => by simp [wrS, h]) (fun d h hr => by
  unfold wrS
  rw [h]
  simp only
  rw [if_neg]
  rintro ⟨q0, q1, q2⟩
  exact hr (by rw [if_pos q0, if_pos q1, if_pos q2]))
theorem t_ne (n s : Int) : tErr S n s ≠ 0 → tS S n s = S := ask_ne (fun h => by simp [tS, h]) (fun d h hr => by
  unfold tS
  rw [h]
  simp only
  rw [if_neg]
  rintro ⟨q0, q1, q2⟩
  exact hr (by rw [if_pos q0, if_neg (by omega), if_neg (by omega)]))

/-- Any call that answers an error alone. -/
def LeftE (base sg mb I L B k : Nat) (S : Int → Option Nd) (w : World) (e : Ending) (w' : World) : Prop := ∃ r, e = .returned (.int .i64 r) ∧ Left base sg mb I L B k S w r w'
/-- Any call that answers something, and an error. -/
def LeftV (base sg mb I L B k : Nat) (S : Int → Option Nd) (w : World) (e : Ending) (w' : World) : Prop := ∃ v r, e = .returned (.tuple #[v, .int .i64 r]) ∧ Left base sg mb I L B k S w r w'
theorem Link_left (n : Int) (h : PS base w sg mb M I L B k S) (hn : IS.I64 n) : Calls Try.prog 17 #[.pointer (some ⟨sg, 0, none⟩), .int .i64 n] w (LeftE base sg mb I L B (k + 1) S w) :=
  (Link_any n w h hn).mono fun e w' h' => ⟨_, left_out (Nat.le_succ _) (lk_ne _ n) h'⟩
theorem Unlink_left (n : Int) (h : PS base w sg mb M I L B k S) (hn : IS.I64 n) (hk : k < 1000000) : Calls Try.prog 18 #[.pointer (some ⟨sg, 0, none⟩), .int .i64 n] w (LeftE base sg mb I L B (k + 1) S w) :=
  (Unlink_any n w h hn hk).mono fun e w' h' => ⟨_, left_out (Nat.le_succ _) (ul_ne n) h'⟩
theorem Open_left (n : Int) (h : PS base w sg mb M I L B k S) (hn : IS.I64 n) (hk : k < 1000000) : Calls Try.prog 19 #[.pointer (some ⟨sg, 0, none⟩), .int .i64 n] w (LeftE base sg mb I L B (k + 1) S w) :=
  (Open_any n w h hn hk).mono fun e w' h' => ⟨_, left_out (Nat.le_refl _) (op_ne n) h'⟩
theorem Close_left (n : Int) (h : PS base w sg mb M I L B k S) (hn : IS.I64 n) (hk : k < 1000000) : Calls Try.prog 20 #[.pointer (some ⟨sg, 0, none⟩), .int .i64 n] w (LeftE base sg mb I L B (k + 1) S w) :=
  (Close_any n w h hn hk).mono fun e w' h' => ⟨_, left_out (Nat.le_succ _) (cl_ne n) h'⟩
theorem Write_left (n f : Int) (s : ByteArray) (h : PS base w sg mb M I L B k S) (hn : IS.I64 n) (hf : I64 f) (hs : s.size ≤ maxLen) : Calls Try.prog 22 #[.pointer (some ⟨sg, 0, none⟩), .int .i64 n, .int .i64 f, .string s] w (LeftE base sg mb I L B (k + 1) S w) :=
  (IN.Write_any n f s w h hn hf hs).mono fun e w' h' => ⟨_, left_out (Nat.le_succ _) (wr_ne _ _ n f s) h'⟩
theorem Trunc_left (n s : Int) (h : PS base w sg mb M I L B k S) (hn : IS.I64 n) (hs : I64 s) : Calls Try.prog 23 #[.pointer (some ⟨sg, 0, none⟩), .int .i64 n, .int .i64 s] w (LeftE base sg mb I L B (k + 1) S w) :=
  (Trunc_any n s w h hn hs).mono fun e w' h' => ⟨_, left_out (Nat.le_succ _) (t_ne n s) h'⟩
theorem Make_left (kd : Int) (h : PS base w sg mb M I L B k S) (hL : 1 ≤ L) : Calls Try.prog 16 #[.pointer (some ⟨sg, 0, none⟩), .int .i64 kd] w (LeftV base sg mb I L B (k + 1) S w) := by
  by_cases hr : mkR I S kd = 0
  · have hl : (lst S I).length < I := by
      unfold mkR at hr
      by_cases e : kd = 1 ∨ kd = 2
      · rw [if_pos e] at hr
        by_cases e2 : (lst S I).length < I
        · exact e2
        · rw [if_neg e2] at hr; cases hr
      · rw [if_neg e] at hr; cases hr
    obtain ⟨n, hn, hlow⟩ := low_of hl
    exact (Make_yes kd n w h hr hlow hn hL).mono fun e w' h' => by
      obtain ⟨h1, ⟨M', h2⟩, h3⟩ := h'
      exact ⟨_, _, h1, _, M', h2.more (Nat.le_succ _), h3, fun h => absurd rfl h⟩
  · exact (Make_no kd w h _ rfl hr).mono fun e w' h' => ⟨_, _, h'.1, left_same h (Nat.le_succ _) _ h'.2⟩
theorem Read_left (n f m : Int) (h : PS base w sg mb M I L B k S) (hn : IS.I64 n) (hf : I64 f) (hm : I64 m) : Calls Try.prog 21 #[.pointer (some ⟨sg, 0, none⟩), .int .i64 n, .int .i64 f, .int .i64 m] w (LeftV base sg mb I L B (k + 1) S w) := by
  by_cases hno : ∃ d, S n = some d ∧ d.kind = 1
  · obtain ⟨d, hS, hk⟩ := hno
    exact (Read_yes n f m d w h hn hf hm hS hk).mono fun e w' h' => ⟨_, _, h'.1, left_same h (Nat.le_succ _) _ h'.2⟩
  · have hr : (askR S n fun d => if d.kind = 1 then (0 : Int) else 14) ≠ 0 := by
      cases hS : S n with
      | none => simp [askR, hS]
      | some d =>
        have hk : ¬ d.kind = 1 := fun e => hno ⟨d, hS, e⟩
        simp [askR, hS, hk]
    exact (Read_no n f m w _ h hn rfl hr).mono fun e w' h' => ⟨_, _, h'.1, left_same h (Nat.le_succ _) _ h'.2⟩
theorem Stat_left (n : Int) (h : PS base w sg mb M I L B k S) (hn : IS.I64 n) : Calls Try.prog 24 #[.pointer (some ⟨sg, 0, none⟩), .int .i64 n] w (LeftV base sg mb I L B (k + 1) S w) :=
  (Stat_any n w h hn).mono fun e w' h' => ⟨_, _, h'.1, left_same h (Nat.le_succ _) _ h'.2⟩
end
end IN
end Go.Proofs.Ytieneehpijilpaa

/- Both stores of inodes side by side: each call is answered alike. -/
namespace Go.Proofs.Ytieneehpijilpaa
open Go.ChangeShapes Go.WideShapes Go.ChangeAt Go.RowKit
set_option linter.unusedVariables false
set_option linter.unusedSimpArgs false
namespace IN

structure D2 (b1 b2 sg mb rg I L B xg : Nat) (xl : List Value) (B0 : Nat) (w0 : World) (K : Nat) (S1 S2 : Int → Option Nd) (w : World) : Prop where
  p : ∃ M, PS b1 w sg mb M I L B K S1
  r : RS b2 w rg (I : Int) (B : Int) (L : Int) (lst S2 I)
  x : Blk w xg 35 xl
  b : Below B0 w0 w
section
variable {b1 b2 sg mb rg I L B xg : Nat} {xl : List Value} {B0 : Nat} {w0 : World} {K k : Nat} {S S1 S2 S' : Int → Option Nd} {w w' : World}
theorem D2.prog (h : D2 b1 b2 sg mb rg I L B xg xl B0 w0 k S1 S2 w) (hB : B0 ≤ b1) (hk : k ≤ K) (hp : ∃ M, PS b1 w' sg mb M I L B k S') (hK : Keeps b1 PT w w') : D2 b1 b2 sg mb rg I L B xg xl B0 w0 K S' S2 w' := by
  obtain ⟨M, hp⟩ := hp
  exact ⟨⟨M, hp.more hk⟩, h.r.other hK, hK.block _ _ h.x (by simp [PT]), h.b.trans ((below_keeps hK).mono hB)⟩
theorem D2.doc (h : D2 b1 b2 sg mb rg I L B xg xl B0 w0 K S1 S2 w) (hB : B0 ≤ b2) (hr : RS b2 w' rg (I : Int) (B : Int) (L : Int) (lst S' I)) (hK : Keeps b2 DT w w') : D2 b1 b2 sg mb rg I L B xg xl B0 w0 K S1 S' w' := by
  obtain ⟨M, hp⟩ := h.p
  exact ⟨⟨M, hp.other hK⟩, hr, hK.block _ _ h.x (by simp [DT]), h.b.trans ((below_keeps hK).mono hB)⟩
theorem D2.keep (h : D2 b1 b2 sg mb rg I L B xg xl B0 w0 K S1 S2 w) (hB : B0 ≤ b2) (hb : Below w.heap.size w w') : D2 b1 b2 sg mb rg I L B xg xl B0 w0 K S1 S2 w' :=
  h.doc hB (h.r.keep hb) (Keeps.new hb h.r.low)
theorem D2.more (h : D2 b1 b2 sg mb rg I L B xg xl B0 w0 k S1 S2 w) (hk : k ≤ K) : D2 b1 b2 sg mb rg I L B xg xl B0 w0 K S1 S2 w := by
  obtain ⟨M, hp⟩ := h.p
  exact ⟨⟨M, hp.more hk⟩, h.r, h.x, h.b⟩
theorem D2.drew (h : D2 b1 b2 sg mb rg I L B xg xl B0 w0 K S1 S2 w) (hB : B0 ≤ b2) : D2 b1 b2 sg mb rg I L B xg xl B0 w0 K S1 S2 w.drew := h.keep hB (drew1_keep _)

/-- What a call that answers an error alone leaves, of either store. -/
abbrev OneE (b1 b2 sg mb rg I L B xg : Nat) (xl : List Value) (B0 : Nat) (w0 : World) (K : Nat) (S1 S2 : Int → Option Nd) (v : Value) (e : Ending) (w' : World) : Prop := e = .returned v ∧ D2 b1 b2 sg mb rg I L B xg xl B0 w0 K S1 S2 w'
section
variable (hB1 : B0 ≤ b1) (hB2 : B0 ≤ b2) (hf : Fine I L B k S) (hI : I ≤ 4096) (hL : L ≤ 32768) (hBB : B ≤ 16777216) (hk : k < 1000000)
include hB1 in
theorem p_out {r : Int} {e : Ending} (h : D2 b1 b2 sg mb rg I L B xg xl B0 w0 K S1 S2 w) {K1 : Nat} (hk1 : K1 ≤ k + 1) (ho : Out b1 sg mb I L B K1 w r S' e w') : OneE b1 b2 sg mb rg I L B xg xl B0 w0 (k + 1) S' S2 (.int .i64 r) e w' := by
  obtain ⟨h1, ⟨M', h2⟩, h3⟩ := ho
  exact ⟨h1, (⟨⟨M', h2.more hk1⟩, h.r.other h3, h3.block _ _ h.x (by simp [PT]), h.b.trans ((below_keeps h3).mono hB1)⟩)⟩
include hB2 in
theorem r_out {r : Int} {e : Ending} (h : D2 b1 b2 sg mb rg I L B xg xl B0 w0 K S1 S2 w) (ho : ROut b2 rg I B L w r (lst S' I) e w') : OneE b1 b2 sg mb rg I L B xg xl B0 w0 K S1 S' (.int .i64 r) e w' :=
  ⟨ho.1, h.doc hB2 ho.2.1 ho.2.2⟩

include hB1 hB2 hf hI hL in
theorem both_link (n : Int) (hn : IS.I64 n) : ∃ (r : Int) (S' : Int → Option Nd),
    (∀ S2 W, D2 b1 b2 sg mb rg I L B xg xl B0 w0 k S S2 W → Calls Try.prog 17 #[.pointer (some ⟨sg, 0, none⟩), .int .i64 n] W (OneE b1 b2 sg mb rg I L B xg xl B0 w0 (k + 1) S' S2 (.int .i64 r))) ∧
    (∀ K S1 W, D2 b1 b2 sg mb rg I L B xg xl B0 w0 K S1 S W → Calls Try.prog 27 #[.pointer (some ⟨rg, 0, none⟩), .int .i64 n] W (OneE b1 b2 sg mb rg I L B xg xl B0 w0 K S1 S' (.int .i64 r))) := by
  refine ⟨lkR L S n, lkS L S n, fun S2 W h => ?_, fun K S1 W h => ?_⟩
  · obtain ⟨M, hp⟩ := h.p
    exact (Link_any n W hp hn).mono fun e w' ho => p_out hB1 h (Nat.le_succ _) ho
  · exact (rLink_any n W hf hI hL h.r).mono fun e w' ho => r_out hB2 h ho

include hB1 hB2 hf hI hL hk in
theorem both_unlink (n : Int) (hn : IS.I64 n) : ∃ (r : Int) (S' : Int → Option Nd),
    (∀ S2 W, D2 b1 b2 sg mb rg I L B xg xl B0 w0 k S S2 W → Calls Try.prog 18 #[.pointer (some ⟨sg, 0, none⟩), .int .i64 n] W (OneE b1 b2 sg mb rg I L B xg xl B0 w0 (k + 1) S' S2 (.int .i64 r))) ∧
    (∀ K S1 W, D2 b1 b2 sg mb rg I L B xg xl B0 w0 K S1 S W → Calls Try.prog 28 #[.pointer (some ⟨rg, 0, none⟩), .int .i64 n] W (OneE b1 b2 sg mb rg I L B xg xl B0 w0 K S1 S' (.int .i64 r))) := by
  refine ⟨ulR S n, ulS S n, fun S2 W h => ?_, fun K S1 W h => ?_⟩
  · obtain ⟨M, hp⟩ := h.p
    exact (Unlink_any n W hp hn hk).mono fun e w' ho => p_out hB1 h (Nat.le_succ _) ho
  · exact (rUnlink_any n W hf hI hL hk h.r).mono fun e w' ho => r_out hB2 h ho

include hB1 hB2 hf hI hk in
theorem both_open (n : Int) (hn : IS.I64 n) : ∃ (r : Int) (S' : Int → Option Nd),
    (∀ S2 W, D2 b1 b2 sg mb rg I L B xg xl B0 w0 k S S2 W → Calls Try.prog 19 #[.pointer (some ⟨sg, 0, none⟩), .int .i64 n] W (OneE b1 b2 sg mb rg I L B xg xl B0 w0 (k + 1) S' S2 (.int .i64 r))) ∧
    (∀ K S1 W, D2 b1 b2 sg mb rg I L B xg xl B0 w0 K S1 S W → Calls Try.prog 29 #[.pointer (some ⟨rg, 0, none⟩), .int .i64 n] W (OneE b1 b2 sg mb rg I L B xg xl B0 w0 K S1 S' (.int .i64 r))) := by
  refine ⟨opR S n, opS S n, fun S2 W h => ?_, fun K S1 W h => ?_⟩
  · obtain ⟨M, hp⟩ := h.p
    exact (Open_any n W hp hn hk).mono fun e w' ho => p_out hB1 h (Nat.le_refl _) ho
  · exact (rOpen_any n W hf hI hk h.r).mono fun e w' ho => r_out hB2 h ho

include hB1 hB2 hf hI hL hk in
theorem both_close (n : Int) (hn : IS.I64 n) : ∃ (r : Int) (S' : Int → Option Nd),
    (∀ S2 W, D2 b1 b2 sg mb rg I L B xg xl B0 w0 k S S2 W → Calls Try.prog 20 #[.pointer (some ⟨sg, 0, none⟩), .int .i64 n] W (OneE b1 b2 sg mb rg I L B xg xl B0 w0 (k + 1) S' S2 (.int .i64 r))) ∧
    (∀ K S1 W, D2 b1 b2 sg mb rg I L B xg xl B0 w0 K S1 S W → Calls Try.prog 30 #[.pointer (some ⟨rg, 0, none⟩), .int .i64 n] W (OneE b1 b2 sg mb rg I L B xg xl B0 w0 K S1 S' (.int .i64 r))) := by
  refine ⟨clR S n, clS S n, fun S2 W h => ?_, fun K S1 W h => ?_⟩
  · obtain ⟨M, hp⟩ := h.p
    exact (Close_any n W hp hn hk).mono fun e w' ho => p_out hB1 h (Nat.le_succ _) ho
  · exact (rClose_any n W hf hI hL hk h.r).mono fun e w' ho => r_out hB2 h ho

theorem noFile {n : Int} (hno : ¬ ∃ d, S n = some d ∧ d.kind = 1) : ∃ r : Int, r ≠ 0 ∧ (askR S n fun d => if d.kind = 1 then (0 : Int) else 14) = r ∧ (∀ I B f s, wrErr I B S n f s = r ∧ wrS I B S n f s = S) ∧ (∀ s, tErr S n s = r ∧ tS S n s = S) := by
  cases hS : S n with
  | none => exact ⟨11, by decide, by simp [askR, hS], fun I B f s => ⟨by simp [wrErr, askR, hS], by simp [wrS, hS]⟩, fun s => ⟨by simp [tErr, askR, hS], by simp [tS, hS]⟩⟩
  | some d =>
    have hk : ¬ d.kind = 1 := fun e => hno ⟨d, hS, e⟩
    exact ⟨14, by decide, by simp [askR, hS, hk], fun I B f s => ⟨by simp [wrErr, askR, hS, hk], by simp [wrS, hS, hk]⟩, fun s => ⟨by simp [tErr, askR, hS, hk], by simp [tS, hS, hk]⟩⟩
theorem rWr_any (n f : Int) (s : ByteArray) (w : World) {base : Nat} (hf : Fine I L B k S) (hI : I ≤ 4096) (hBB : B ≤ 16777216) (h : RS base w rg (I : Int) (B : Int) (L : Int) (lst S I)) (hff : I64 f) (hs : s.size ≤ maxLen) :
    Calls Try.prog 32 #[.pointer (some ⟨rg, 0, none⟩), .int .i64 n, .int .i64 f, .string s] w (ROut base rg I B L w (wrErr I B S n f s) (lst (wrS I B S n f s) I)) := by
  by_cases hno : ∃ d, S n = some d ∧ d.kind = 1
  · obtain ⟨d, hS, hk⟩ := hno
    exact rWr_yes n f s d w hf hI hBB h hff hs hS hk
  · obtain ⟨r, r0, r1, r2, r3⟩ := noFile hno
    rw [(r2 I B f s).1, (r2 I B f s).2]
    exact (rWr_no n f s w hf hI h r r1 r0).mono fun e w' ho => by obtain ⟨rfl, rfl⟩ := ho; exact ⟨rfl, h, Keeps.refl _ _ _⟩
theorem rTr_any (n s : Int) (w : World) {base : Nat} (hf : Fine I L B k S) (hI : I ≤ 4096) (h : RS base w rg (I : Int) (B : Int) (L : Int) (lst S I)) (hs : I64 s) :
    Calls Try.prog 33 #[.pointer (some ⟨rg, 0, none⟩), .int .i64 n, .int .i64 s] w (ROut base rg I B L w (tErr S n s) (lst (tS S n s) I)) := by
  by_cases hno : ∃ d, S n = some d ∧ d.kind = 1
  · obtain ⟨d, hS, hk⟩ := hno
    exact rTr_yes n s d w hf hI h hs hS hk
  · obtain ⟨r, r0, r1, r2, r3⟩ := noFile hno
    rw [(r3 s).1, (r3 s).2]
    exact (rTr_no n s w hf hI h r r1 r0).mono fun e w' ho => by obtain ⟨rfl, rfl⟩ := ho; exact ⟨rfl, h, Keeps.refl _ _ _⟩

include hB1 hB2 hf hI hBB in
theorem both_write (n f : Int) (s : ByteArray) (hn : IS.I64 n) (hff : I64 f) (hs : s.size ≤ maxLen) : ∃ (r : Int) (S' : Int → Option Nd),
    (∀ S2 W, D2 b1 b2 sg mb rg I L B xg xl B0 w0 k S S2 W → Calls Try.prog 22 #[.pointer (some ⟨sg, 0, none⟩), .int .i64 n, .int .i64 f, .string s] W (OneE b1 b2 sg mb rg I L B xg xl B0 w0 (k + 1) S' S2 (.int .i64 r))) ∧
    (∀ K S1 W, D2 b1 b2 sg mb rg I L B xg xl B0 w0 K S1 S W → Calls Try.prog 32 #[.pointer (some ⟨rg, 0, none⟩), .int .i64 n, .int .i64 f, .string s] W (OneE b1 b2 sg mb rg I L B xg xl B0 w0 K S1 S' (.int .i64 r))) := by
  refine ⟨wrErr I B S n f s, wrS I B S n f s, fun S2 W h => ?_, fun K S1 W h => ?_⟩
  · obtain ⟨M, hp⟩ := h.p
    exact (IN.Write_any n f s W hp hn hff hs).mono fun e w' ho => p_out hB1 h (Nat.le_succ _) ho
  · exact (rWr_any n f s W hf hI hBB h.r hff hs).mono fun e w' ho => r_out hB2 h ho

include hB1 hB2 hf hI in
theorem both_trunc (n f : Int) (hn : IS.I64 n) (hff : I64 f) : ∃ (r : Int) (S' : Int → Option Nd),
    (∀ S2 W, D2 b1 b2 sg mb rg I L B xg xl B0 w0 k S S2 W → Calls Try.prog 23 #[.pointer (some ⟨sg, 0, none⟩), .int .i64 n, .int .i64 f] W (OneE b1 b2 sg mb rg I L B xg xl B0 w0 (k + 1) S' S2 (.int .i64 r))) ∧
    (∀ K S1 W, D2 b1 b2 sg mb rg I L B xg xl B0 w0 K S1 S W → Calls Try.prog 33 #[.pointer (some ⟨rg, 0, none⟩), .int .i64 n, .int .i64 f] W (OneE b1 b2 sg mb rg I L B xg xl B0 w0 K S1 S' (.int .i64 r))) := by
  refine ⟨tErr S n f, tS S n f, fun S2 W h => ?_, fun K S1 W h => ?_⟩
  · obtain ⟨M, hp⟩ := h.p
    exact (Trunc_any n f W hp hn hff).mono fun e w' ho => p_out hB1 h (Nat.le_succ _) ho
  · exact (rTr_any n f W hf hI h.r hff).mono fun e w' ho => r_out hB2 h ho

include hB1 hB2 hI in
theorem both_make (kd : Int) (hL1 : 1 ≤ L) : ∃ (a r : Int) (S' : Int → Option Nd),
    (∀ S2 W, D2 b1 b2 sg mb rg I L B xg xl B0 w0 k S S2 W → Calls Try.prog 16 #[.pointer (some ⟨sg, 0, none⟩), .int .i64 kd] W (OneE b1 b2 sg mb rg I L B xg xl B0 w0 (k + 1) S' S2 (.tuple #[.int .i64 a, .int .i64 r]))) ∧
    (∀ K S1 W, D2 b1 b2 sg mb rg I L B xg xl B0 w0 K S1 S W → Calls Try.prog 26 #[.pointer (some ⟨rg, 0, none⟩), .int .i64 kd] W (OneE b1 b2 sg mb rg I L B xg xl B0 w0 K S1 S' (.tuple #[.int .i64 a, .int .i64 r]))) := by
  by_cases hr : mkR I S kd = 0
  · have hl : (lst S I).length < I := by
      unfold mkR at hr
      by_cases e : kd = 1 ∨ kd = 2
      · rw [if_pos e] at hr
        by_cases e2 : (lst S I).length < I
        · exact e2
        · rw [if_neg e2] at hr; cases hr
      · rw [if_neg e] at hr; cases hr
    obtain ⟨n, hn, hlow⟩ := low_of hl
    refine ⟨(n : Int), 0, upd S (n : Int) (some (newNd kd)), fun S2 W h => ?_, fun K S1 W h => ?_⟩
    · obtain ⟨M, hp⟩ := h.p
      exact (Make_yes kd n W hp hr hlow hn hL1).mono fun e w' ho => by
        obtain ⟨h1, ⟨M', h2⟩, h3⟩ := ho
        exact ⟨h1, h.prog hB1 (Nat.le_succ _) ⟨M', h2⟩ h3⟩
    · exact (rMake_yes kd n W hI h.r hr hlow hn).mono fun e w' ho => ⟨ho.1, h.doc hB2 ho.2.1 ho.2.2⟩
  · refine ⟨0, mkR I S kd, S, fun S2 W h => ?_, fun K S1 W h => ?_⟩
    · obtain ⟨M, hp⟩ := h.p
      exact (Make_no kd W hp _ rfl hr).mono fun e w' ho => ⟨ho.1, (h.keep hB2 ho.2).more (Nat.le_succ _)⟩
    · exact (rMake_no kd W hI h.r _ rfl hr).mono fun e w' ho => ⟨ho.1, h.keep hB2 ho.2⟩
include hB2 hf hI in
theorem both_read (n f m : Int) (hn : IS.I64 n) (hff : I64 f) (hm : I64 m) : ∃ (a : ByteArray) (r : Int),
    (∀ S2 W, D2 b1 b2 sg mb rg I L B xg xl B0 w0 k S S2 W → Calls Try.prog 21 #[.pointer (some ⟨sg, 0, none⟩), .int .i64 n, .int .i64 f, .int .i64 m] W (OneE b1 b2 sg mb rg I L B xg xl B0 w0 (k + 1) S S2 (.tuple #[.string a, .int .i64 r]))) ∧
    (∀ K S1 W, D2 b1 b2 sg mb rg I L B xg xl B0 w0 K S1 S W → Calls Try.prog 31 #[.pointer (some ⟨rg, 0, none⟩), .int .i64 n, .int .i64 f, .int .i64 m] W (OneE b1 b2 sg mb rg I L B xg xl B0 w0 K S1 S (.tuple #[.string a, .int .i64 r]))) := by
  by_cases hno : ∃ d, S n = some d ∧ d.kind = 1
  · obtain ⟨d, hS, hkd⟩ := hno
    refine ⟨strOf (rdV d.l d.size f m), rdE d.l d.size f m, fun S2 W h => ?_, fun K S1 W h => ?_⟩
    · obtain ⟨M, hp⟩ := h.p
      exact (Read_yes n f m d W hp hn hff hm hS hkd).mono fun e w' ho => ⟨ho.1, (h.keep hB2 ho.2).more (Nat.le_succ _)⟩
    · exact (rRead_yes n f m d W hf hI h.r hff hm hS hkd).mono fun e w' ho => ⟨ho.1, h.keep hB2 ho.2⟩
  · obtain ⟨r, r0, r1, r2, r3⟩ := noFile hno
    refine ⟨⟨#[]⟩, r, fun S2 W h => ?_, fun K S1 W h => ?_⟩
    · obtain ⟨M, hp⟩ := h.p
      exact (Read_no n f m W r hp hn r1 r0).mono fun e w' ho => ⟨ho.1, (h.keep hB2 ho.2).more (Nat.le_succ _)⟩
    · exact (rRead_no n f m W hf hI h.r r r1 r0).mono fun e w' ho => ⟨ho.1, h.keep hB2 ho.2⟩
theorem stV_six (S : Int → Option Nd) (n : Int) : ∃ a b c d e f : Int, stV S n = six a b c d e f := by
  unfold stV
  cases S n with
  | none => exact ⟨0, 0, 0, 0, 0, 0, rfl⟩
  | some d => exact ⟨n, d.kind, d.links, d.opens, d.size, EM.cnt d.l, rfl⟩
include hB2 hf hI in
theorem both_stat (n : Int) (hn : IS.I64 n) : ∃ (a b c d e f : Int) (r : Int),
    (∀ S2 W, D2 b1 b2 sg mb rg I L B xg xl B0 w0 k S S2 W → Calls Try.prog 24 #[.pointer (some ⟨sg, 0, none⟩), .int .i64 n] W (OneE b1 b2 sg mb rg I L B xg xl B0 w0 (k + 1) S S2 (.tuple #[.agg #[.int .i64 a, .int .i64 b, .int .i64 c, .int .i64 d, .int .i64 e, .int .i64 f], .int .i64 r]))) ∧
    (∀ K S1 W, D2 b1 b2 sg mb rg I L B xg xl B0 w0 K S1 S W → Calls Try.prog 34 #[.pointer (some ⟨rg, 0, none⟩), .int .i64 n] W (fun e' w' => OneE b1 b2 sg mb rg I L B xg xl B0 w0 K S1 S (.tuple #[.agg #[.int .i64 a, .int .i64 b, .int .i64 c, .int .i64 d, .int .i64 e, .int .i64 f], .int .i64 r]) e' w' ∧ Below W.heap.size W w')) := by
  obtain ⟨a, b, c, d, e, f, he⟩ := stV_six S n
  refine ⟨a, b, c, d, e, f, opR S n, fun S2 W h => ?_, fun K S1 W h => ?_⟩
  · obtain ⟨M, hp⟩ := h.p
    refine (Stat_any n W hp hn).mono fun e' w' ho => ⟨?_, (h.keep hB2 ho.2).more (Nat.le_succ _)⟩
    rw [ho.1, he]; rfl
  · refine (rStat_any n W hf hI h.r).mono fun e' w' ho => ⟨⟨?_, h.keep hB2 ho.2⟩, ho.2⟩
    rw [ho.1, he]; rfl
end

theorem stat_eql (a b c d e f : Int) (w : World) : (binOp .eql 41 (.agg #[.int .i64 a, .int .i64 b, .int .i64 c, .int .i64 d, .int .i64 e, .int .i64 f]) (.agg #[.int .i64 a, .int .i64 b, .int .i64 c, .int .i64 d, .int .i64 e, .int .i64 f])).run Try.prog w = .ok (.bool true) w := by
  simp [go_sem]
set_option maxRecDepth 100000 in
set_option maxHeartbeats 32000000 in
theorem does_any (kd n f m : Int) (s : ByteArray) (w : World) {M : Int → Option Nat} (h1 : PS b1 w sg mb M I L B k S) (h2 : RS b2 w rg (I : Int) (B : Int) (L : Int) (lst S I)) (hk : k < 1000000) (hL1 : 1 ≤ L) (hn : IS.I64 n) (hff : I64 f) (hm : I64 m) (hs : s.size ≤ maxLen) (hB1 : B0 ≤ b1) (hB2 : B0 ≤ b2) (hB0 : B0 ≤ w.heap.size) :
    Calls Try.prog 12 #[.pointer (some ⟨sg, 0, none⟩), .pointer (some ⟨rg, 0, none⟩), .agg #[.int .i64 kd, .int .i64 n, .int .i64 f, .int .i64 m, .string s]] w fun e w' => e = .returned (.bool true) ∧ ∃ S', (∃ M', PS b1 w' sg mb M' I L B (k + 1) S') ∧ RS b2 w' rg (I : Int) (B : Int) (L : Int) (lst S' I) ∧ Below B0 w w' := by
  have hf := h1.fn
  obtain ⟨hI, hL, hBB⟩ := h1.lim
  obtain ⟨W0, hW0⟩ : ∃ W0, w.alloc (.cells #[.int .i64 kd, .int .i64 n, .int .i64 f, .int .i64 m, .string s] 35) = W0 := ⟨_, rfl⟩
  have hD : Hid (D2 b1 b2 sg mb rg I L B w.heap.size [.int .i64 kd, .int .i64 n, .int .i64 f, .int .i64 m, .string s] B0 w k S S W0) := W_hid (by
    rw [← hW0]
    have hb := (Below.refl w.heap.size w).alloc (Nat.le_refl _) (.cells #[.int .i64 kd, .int .i64 n, .int .i64 f, .int .i64 m, .string s] 35)
    exact ⟨⟨M, h1.keep hb⟩, h2.keep hb, Blk.new w 35 [.int .i64 kd, .int .i64 n, .int .i64 f, .int .i64 m, .string s] rfl, hb.mono hB0⟩)
  obtain ⟨hcs, hk1, hk2⟩ := kind9 kd
  have y0 := hD.out.x.cell (j := 0) rfl
  have y1 := hD.out.x.cell (j := 1) rfl
  have y2 := hD.out.x.cell (j := 2) rfl
  have y3 := hD.out.x.cell (j := 3) rfl
  have y4 := hD.out.x.cell (j := 4) rfl
  clear h1 h2
  obtain ⟨tm, htm⟩ : ∃ tm, kd.tmod 9 = tm := ⟨_, rfl⟩
  rw [htm] at hcs hk1 hk2
  rcases hcs with e0 | e0 | e0 | e0 | e0 | e0 | e0 | e0 | e0
  · obtain ⟨a, r, S', cP, cR⟩ := both_make hB1 hB2 hI n hL1
    replace cP := W_hid cP
    replace cR := W_hid cR
    go_enter Try.func12, Try.ntmps12
    go_wp2_with fail
    refine (cP.out _ _ hD.out).mono ?_
    rintro e w1 ⟨rfl, hD1⟩
    replace hD1 := W_hid hD1
    have q1 := hD1.out.x.cell (j := 1) rfl
    have q2 := hD1.out.x.cell (j := 2) rfl
    have q3 := hD1.out.x.cell (j := 3) rfl
    go_wp2_with fail
    refine (cR.out _ _ _ hD1.out).mono ?_
    rintro e w2 ⟨rfl, hD2⟩
    replace hD2 := W_hid hD2
    go_wp2_with fail
    go_ret
    exact ⟨rfl, S', hD2.out.p, hD2.out.r, hD2.out.b⟩
  · obtain ⟨r, S', cP, cR⟩ := both_link hB1 hB2 hf hI hL n hn
    replace cP := W_hid cP
    replace cR := W_hid cR
    go_enter Try.func12, Try.ntmps12
    go_wp2_with fail
    refine wp_region_held_drew (S := (fun w' => Blk w' w.heap.size 35 [.int .i64 kd, .int .i64 n, .int .i64 f, .int .i64 m, .string s])) (by kernel_rfl) hD.out.x (fun hHeld => ?_)
    refine wpAnyH_take (i := 0) (v := .pointer (some ⟨sg, 0, none⟩)) rfl (by kernel_rfl) (by kernel_rfl) (by kernel_rfl) (fun _ _ _ h => h) (Or.inl ⟨by rfl, fun w0 s1 => ?_⟩) hHeld ?_
    · go_simp
    try simp only [Act.put, List.setIfInBounds_toArray, List.set_cons_zero, List.set_cons_succ, List.getElem_toArray, List.getElem_cons_zero, List.getElem_cons_succ]
    refine wpAnyH_take (i := 1) (v := .pointer (some ⟨w.heap.size, 1, none⟩)) rfl (by kernel_rfl) (by kernel_rfl) (by kernel_rfl) (fun _ _ _ h => h) (Or.inl ⟨by rfl, fun w0 s1 => ?_⟩) hHeld ?_
    · go_simp
    try simp only [Act.put, List.setIfInBounds_toArray, List.set_cons_zero, List.set_cons_succ, List.getElem_toArray, List.getElem_cons_zero, List.getElem_cons_succ]
    refine wpAnyH_take (i := 2) (v := .int .i64 n) rfl (by kernel_rfl) (by kernel_rfl) (by kernel_rfl) (fun _ _ _ h => h) (Or.inl ⟨by rfl, fun w0 s1 => ?_⟩) hHeld ?_
    · (have q := Blk.cell (j := 1) s1 rfl; go_simp)
    try simp only [Act.put, List.setIfInBounds_toArray, List.set_cons_zero, List.set_cons_succ, List.getElem_toArray, List.getElem_cons_zero, List.getElem_cons_succ]
    refine wpAnyH_take (i := 4) (v := .pointer (some ⟨rg, 0, none⟩)) rfl (by kernel_rfl) (by kernel_rfl) (by kernel_rfl) (fun _ _ _ h => h) (Or.inl ⟨by rfl, fun w0 s1 => ?_⟩) hHeld ?_
    · go_simp
    try simp only [Act.put, List.setIfInBounds_toArray, List.set_cons_zero, List.set_cons_succ, List.getElem_toArray, List.getElem_cons_zero, List.getElem_cons_succ]
    refine wpAnyH_take (i := 5) (v := .pointer (some ⟨w.heap.size, 1, none⟩)) rfl (by kernel_rfl) (by kernel_rfl) (by kernel_rfl) (fun _ _ _ h => h) (Or.inl ⟨by rfl, fun w0 s1 => ?_⟩) hHeld ?_
    · go_simp
    try simp only [Act.put, List.setIfInBounds_toArray, List.set_cons_zero, List.set_cons_succ, List.getElem_toArray, List.getElem_cons_zero, List.getElem_cons_succ]
    refine wpAnyH_take (i := 6) (v := .int .i64 n) rfl (by kernel_rfl) (by kernel_rfl) (by kernel_rfl) (fun _ _ _ h => h) (Or.inl ⟨by rfl, fun w0 s1 => ?_⟩) hHeld ?_
    · (have q := Blk.cell (j := 1) s1 rfl; go_simp)
    try simp only [Act.put, List.setIfInBounds_toArray, List.set_cons_zero, List.set_cons_succ, List.getElem_toArray, List.getElem_cons_zero, List.getElem_cons_succ]
    refine wpAnyH_ready (rs := [3]) (by kernel_rfl) (by simp) ?_
    refine AllReadyH.cons rfl (fun K hK => ?_) AllReadyH.nil
    go_simp
    refine (cP.out _ _ (hD.out.drew hB2)).mono ?_
    rintro e w1 ⟨rfl, hD1⟩
    replace hD1 := W_hid hD1
    refine hK.out _ _ hD1.out.x (fun hHeld1 => ?_)
    clear hK K
    try simp only [Act.put, List.setIfInBounds_toArray, List.set_cons_zero, List.set_cons_succ, List.getElem_toArray, List.getElem_cons_zero, List.getElem_cons_succ]
    refine wpAnyH_ready (rs := [7]) (by kernel_rfl) (by simp) ?_
    refine AllReadyH.cons rfl (fun K hK => ?_) AllReadyH.nil
    go_simp
    refine (cR.out _ _ _ hD1.out).mono ?_
    rintro e w2 ⟨rfl, hD2⟩
    replace hD2 := W_hid hD2
    refine hK.out _ _ hD2.out.x (fun hHeld2 => ?_)
    clear hK K
    try simp only [Act.put, List.setIfInBounds_toArray, List.set_cons_zero, List.set_cons_succ, List.getElem_toArray, List.getElem_cons_zero, List.getElem_cons_succ]
    refine wpAnyH_take (i := 8) (v := .bool true) rfl (by kernel_rfl) (by kernel_rfl) (by kernel_rfl) (fun _ _ _ h => h) (Or.inl ⟨by rfl, fun w0 s1 => ?_⟩) hHeld2 ?_
    · go_simp
    try simp only [Act.put, List.setIfInBounds_toArray, List.set_cons_zero, List.set_cons_succ, List.getElem_toArray, List.getElem_cons_zero, List.getElem_cons_succ]
    refine wpAnyH_take (i := 9) (v := .bool true) rfl (by kernel_rfl) (by kernel_rfl) (by kernel_rfl) (fun _ _ _ h => h) (Or.inl ⟨by rfl, fun w0 s1 => ?_⟩) hHeld2 ?_
    · go_simp
    try simp only [Act.put, List.setIfInBounds_toArray, List.set_cons_zero, List.set_cons_succ, List.getElem_toArray, List.getElem_cons_zero, List.getElem_cons_succ]
    refine wpAnyH_done (by kernel_rfl) ?_ _
    go_wp2_with fail
    go_ret
    exact ⟨rfl, S', hD2.out.p, hD2.out.r, hD2.out.b⟩
  · obtain ⟨r, S', cP, cR⟩ := both_unlink hB1 hB2 hf hI hL hk n hn
    replace cP := W_hid cP
    replace cR := W_hid cR
    go_enter Try.func12, Try.ntmps12
    go_wp2_with fail
    refine wp_region_held_drew (S := (fun w' => Blk w' w.heap.size 35 [.int .i64 kd, .int .i64 n, .int .i64 f, .int .i64 m, .string s])) (by kernel_rfl) hD.out.x (fun hHeld => ?_)
    refine wpAnyH_take (i := 0) (v := .pointer (some ⟨sg, 0, none⟩)) rfl (by kernel_rfl) (by kernel_rfl) (by kernel_rfl) (fun _ _ _ h => h) (Or.inl ⟨by rfl, fun w0 s1 => ?_⟩) hHeld ?_
    · go_simp
    try simp only [Act.put, List.setIfInBounds_toArray, List.set_cons_zero, List.set_cons_succ, List.getElem_toArray, List.getElem_cons_zero, List.getElem_cons_succ]
    refine wpAnyH_take (i := 1) (v := .pointer (some ⟨w.heap.size, 1, none⟩)) rfl (by kernel_rfl) (by kernel_rfl) (by kernel_rfl) (fun _ _ _ h => h) (Or.inl ⟨by rfl, fun w0 s1 => ?_⟩) hHeld ?_
    · go_simp
    try simp only [Act.put, List.setIfInBounds_toArray, List.set_cons_zero, List.set_cons_succ, List.getElem_toArray, List.getElem_cons_zero, List.getElem_cons_succ]
    refine wpAnyH_take (i := 2) (v := .int .i64 n) rfl (by kernel_rfl) (by kernel_rfl) (by kernel_rfl) (fun _ _ _ h => h) (Or.inl ⟨by rfl, fun w0 s1 => ?_⟩) hHeld ?_
    · (have q := Blk.cell (j := 1) s1 rfl; go_simp)
    try simp only [Act.put, List.setIfInBounds_toArray, List.set_cons_zero, List.set_cons_succ, List.getElem_toArray, List.getElem_cons_zero, List.getElem_cons_succ]
    refine wpAnyH_take (i := 4) (v := .pointer (some ⟨rg, 0, none⟩)) rfl (by kernel_rfl) (by kernel_rfl) (by kernel_rfl) (fun _ _ _ h => h) (Or.inl ⟨by rfl, fun w0 s1 => ?_⟩) hHeld ?_
    · go_simp
    try simp only [Act.put, List.setIfInBounds_toArray, List.set_cons_zero, List.set_cons_succ, List.getElem_toArray, List.getElem_cons_zero, List.getElem_cons_succ]
    refine wpAnyH_take (i := 5) (v := .pointer (some ⟨w.heap.size, 1, none⟩)) rfl (by kernel_rfl) (by kernel_rfl) (by kernel_rfl) (fun _ _ _ h => h) (Or.inl ⟨by rfl, fun w0 s1 => ?_⟩) hHeld ?_
    · go_simp
    try simp only [Act.put, List.setIfInBounds_toArray, List.set_cons_zero, List.set_cons_succ, List.getElem_toArray, List.getElem_cons_zero, List.getElem_cons_succ]
    refine wpAnyH_take (i := 6) (v := .int .i64 n) rfl (by kernel_rfl) (by kernel_rfl) (by kernel_rfl) (fun _ _ _ h => h) (Or.inl ⟨by rfl, fun w0 s1 => ?_⟩) hHeld ?_
    · (have q := Blk.cell (j := 1) s1 rfl; go_simp)
    try simp only [Act.put, List.setIfInBounds_toArray, List.set_cons_zero, List.set_cons_succ, List.getElem_toArray, List.getElem_cons_zero, List.getElem_cons_succ]
    refine wpAnyH_ready (rs := [3]) (by kernel_rfl) (by simp) ?_
    refine AllReadyH.cons rfl (fun K hK => ?_) AllReadyH.nil
    go_simp
    refine (cP.out _ _ (hD.out.drew hB2)).mono ?_
    rintro e w1 ⟨rfl, hD1⟩
    replace hD1 := W_hid hD1
    refine hK.out _ _ hD1.out.x (fun hHeld1 => ?_)
    clear hK K
    try simp only [Act.put, List.setIfInBounds_toArray, List.set_cons_zero, List.set_cons_succ, List.getElem_toArray, List.getElem_cons_zero, List.getElem_cons_succ]
    refine wpAnyH_ready (rs := [7]) (by kernel_rfl) (by simp) ?_
    refine AllReadyH.cons rfl (fun K hK => ?_) AllReadyH.nil
    go_simp
    refine (cR.out _ _ _ hD1.out).mono ?_
    rintro e w2 ⟨rfl, hD2⟩
    replace hD2 := W_hid hD2
    refine hK.out _ _ hD2.out.x (fun hHeld2 => ?_)
    clear hK K
    try simp only [Act.put, List.setIfInBounds_toArray, List.set_cons_zero, List.set_cons_succ, List.getElem_toArray, List.getElem_cons_zero, List.getElem_cons_succ]
    refine wpAnyH_take (i := 8) (v := .bool true) rfl (by kernel_rfl) (by kernel_rfl) (by kernel_rfl) (fun _ _ _ h => h) (Or.inl ⟨by rfl, fun w0 s1 => ?_⟩) hHeld2 ?_
    · go_simp
    try simp only [Act.put, List.setIfInBounds_toArray, List.set_cons_zero, List.set_cons_succ, List.getElem_toArray, List.getElem_cons_zero, List.getElem_cons_succ]
    refine wpAnyH_take (i := 9) (v := .bool true) rfl (by kernel_rfl) (by kernel_rfl) (by kernel_rfl) (fun _ _ _ h => h) (Or.inl ⟨by rfl, fun w0 s1 => ?_⟩) hHeld2 ?_
    · go_simp
    try simp only [Act.put, List.setIfInBounds_toArray, List.set_cons_zero, List.set_cons_succ, List.getElem_toArray, List.getElem_cons_zero, List.getElem_cons_succ]
    refine wpAnyH_done (by kernel_rfl) ?_ _
    go_wp2_with fail
    go_ret
    exact ⟨rfl, S', hD2.out.p, hD2.out.r, hD2.out.b⟩
  · obtain ⟨r, S', cP, cR⟩ := both_open hB1 hB2 hf hI hk n hn
    replace cP := W_hid cP
    replace cR := W_hid cR
    go_enter Try.func12, Try.ntmps12
    go_wp2_with fail
    refine wp_region_held_drew (S := (fun w' => Blk w' w.heap.size 35 [.int .i64 kd, .int .i64 n, .int .i64 f, .int .i64 m, .string s])) (by kernel_rfl) hD.out.x (fun hHeld => ?_)
    refine wpAnyH_take (i := 0) (v := .pointer (some ⟨sg, 0, none⟩)) rfl (by kernel_rfl) (by kernel_rfl) (by kernel_rfl) (fun _ _ _ h => h) (Or.inl ⟨by rfl, fun w0 s1 => ?_⟩) hHeld ?_
    · go_simp
    try simp only [Act.put, List.setIfInBounds_toArray, List.set_cons_zero, List.set_cons_succ, List.getElem_toArray, List.getElem_cons_zero, List.getElem_cons_succ]
    refine wpAnyH_take (i := 1) (v := .pointer (some ⟨w.heap.size, 1, none⟩)) rfl (by kernel_rfl) (by kernel_rfl) (by kernel_rfl) (fun _ _ _ h => h) (Or.inl ⟨by rfl, fun w0 s1 => ?_⟩) hHeld ?_
    · go_simp
    try simp only [Act.put, List.setIfInBounds_toArray, List.set_cons_zero, List.set_cons_succ, List.getElem_toArray, List.getElem_cons_zero, List.getElem_cons_succ]
    refine wpAnyH_take (i := 2) (v := .int .i64 n) rfl (by kernel_rfl) (by kernel_rfl) (by kernel_rfl) (fun _ _ _ h => h) (Or.inl ⟨by rfl, fun w0 s1 => ?_⟩) hHeld ?_
    · (have q := Blk.cell (j := 1) s1 rfl; go_simp)
    try simp only [Act.put, List.setIfInBounds_toArray, List.set_cons_zero, List.set_cons_succ, List.getElem_toArray, List.getElem_cons_zero, List.getElem_cons_succ]
    refine wpAnyH_take (i := 4) (v := .pointer (some ⟨rg, 0, none⟩)) rfl (by kernel_rfl) (by kernel_rfl) (by kernel_rfl) (fun _ _ _ h => h) (Or.inl ⟨by rfl, fun w0 s1 => ?_⟩) hHeld ?_
    · go_simp
    try simp only [Act.put, List.setIfInBounds_toArray, List.set_cons_zero, List.set_cons_succ, List.getElem_toArray, List.getElem_cons_zero, List.getElem_cons_succ]
    refine wpAnyH_take (i := 5) (v := .pointer (some ⟨w.heap.size, 1, none⟩)) rfl (by kernel_rfl) (by kernel_rfl) (by kernel_rfl) (fun _ _ _ h => h) (Or.inl ⟨by rfl, fun w0 s1 => ?_⟩) hHeld ?_
    · go_simp
    try simp only [Act.put, List.setIfInBounds_toArray, List.set_cons_zero, List.set_cons_succ, List.getElem_toArray, List.getElem_cons_zero, List.getElem_cons_succ]
    refine wpAnyH_take (i := 6) (v := .int .i64 n) rfl (by kernel_rfl) (by kernel_rfl) (by kernel_rfl) (fun _ _ _ h => h) (Or.inl ⟨by rfl, fun w0 s1 => ?_⟩) hHeld ?_
    · (have q := Blk.cell (j := 1) s1 rfl; go_simp)
    try simp only [Act.put, List.setIfInBounds_toArray, List.set_cons_zero, List.set_cons_succ, List.getElem_toArray, List.getElem_cons_zero, List.getElem_cons_succ]
    refine wpAnyH_ready (rs := [3]) (by kernel_rfl) (by simp) ?_
    refine AllReadyH.cons rfl (fun K hK => ?_) AllReadyH.nil
    go_simp
    refine (cP.out _ _ (hD.out.drew hB2)).mono ?_
    rintro e w1 ⟨rfl, hD1⟩
    replace hD1 := W_hid hD1
    refine hK.out _ _ hD1.out.x (fun hHeld1 => ?_)
    clear hK K
    try simp only [Act.put, List.setIfInBounds_toArray, List.set_cons_zero, List.set_cons_succ, List.getElem_toArray, List.getElem_cons_zero, List.getElem_cons_succ]
    refine wpAnyH_ready (rs := [7]) (by kernel_rfl) (by simp) ?_
    refine AllReadyH.cons rfl (fun K hK => ?_) AllReadyH.nil
    go_simp
    refine (cR.out _ _ _ hD1.out).mono ?_
    rintro e w2 ⟨rfl, hD2⟩
    replace hD2 := W_hid hD2
    refine hK.out _ _ hD2.out.x (fun hHeld2 => ?_)
    clear hK K
    try simp only [Act.put, List.setIfInBounds_toArray, List.set_cons_zero, List.set_cons_succ, List.getElem_toArray, List.getElem_cons_zero, List.getElem_cons_succ]
    refine wpAnyH_take (i := 8) (v := .bool true) rfl (by kernel_rfl) (by kernel_rfl) (by kernel_rfl) (fun _ _ _ h => h) (Or.inl ⟨by rfl, fun w0 s1 => ?_⟩) hHeld2 ?_
    · go_simp
    try simp only [Act.put, List.setIfInBounds_toArray, List.set_cons_zero, List.set_cons_succ, List.getElem_toArray, List.getElem_cons_zero, List.getElem_cons_succ]
    refine wpAnyH_take (i := 9) (v := .bool true) rfl (by kernel_rfl) (by kernel_rfl) (by kernel_rfl) (fun _ _ _ h => h) (Or.inl ⟨by rfl, fun w0 s1 => ?_⟩) hHeld2 ?_
    · go_simp
    try simp only [Act.put, List.setIfInBounds_toArray, List.set_cons_zero, List.set_cons_succ, List.getElem_toArray, List.getElem_cons_zero, List.getElem_cons_succ]
    refine wpAnyH_done (by kernel_rfl) ?_ _
    go_wp2_with fail
    go_ret
    exact ⟨rfl, S', hD2.out.p, hD2.out.r, hD2.out.b⟩
  · obtain ⟨r, S', cP, cR⟩ := both_close hB1 hB2 hf hI hL hk n hn
    replace cP := W_hid cP
    replace cR := W_hid cR
    go_enter Try.func12, Try.ntmps12
    go_wp2_with fail
    refine wp_region_held_drew (S := (fun w' => Blk w' w.heap.size 35 [.int .i64 kd, .int .i64 n, .int .i64 f, .int .i64 m, .string s])) (by kernel_rfl) hD.out.x (fun hHeld => ?_)
    refine wpAnyH_take (i := 0) (v := .pointer (some ⟨sg, 0, none⟩)) rfl (by kernel_rfl) (by kernel_rfl) (by kernel_rfl) (fun _ _ _ h => h) (Or.inl ⟨by rfl, fun w0 s1 => ?_⟩) hHeld ?_
    · go_simp
    try simp only [Act.put, List.setIfInBounds_toArray, List.set_cons_zero, List.set_cons_succ, List.getElem_toArray, List.getElem_cons_zero, List.getElem_cons_succ]
    refine wpAnyH_take (i := 1) (v := .pointer (some ⟨w.heap.size, 1, none⟩)) rfl (by kernel_rfl) (by kernel_rfl) (by kernel_rfl) (fun _ _ _ h => h) (Or.inl ⟨by rfl, fun w0 s1 => ?_⟩) hHeld ?_
    · go_simp
    try simp only [Act.put, List.setIfInBounds_toArray, List.set_cons_zero, List.set_cons_succ, List.getElem_toArray, List.getElem_cons_zero, List.getElem_cons_succ]
    refine wpAnyH_take (i := 2) (v := .int .i64 n) rfl (by kernel_rfl) (by kernel_rfl) (by kernel_rfl) (fun _ _ _ h => h) (Or.inl ⟨by rfl, fun w0 s1 => ?_⟩) hHeld ?_
    · (have q := Blk.cell (j := 1) s1 rfl; go_simp)
    try simp only [Act.put, List.setIfInBounds_toArray, List.set_cons_zero, List.set_cons_succ, List.getElem_toArray, List.getElem_cons_zero, List.getElem_cons_succ]
    refine wpAnyH_take (i := 4) (v := .pointer (some ⟨rg, 0, none⟩)) rfl (by kernel_rfl) (by kernel_rfl) (by kernel_rfl) (fun _ _ _ h => h) (Or.inl ⟨by rfl, fun w0 s1 => ?_⟩) hHeld ?_
    · go_simp
    try simp only [Act.put, List.setIfInBounds_toArray, List.set_cons_zero, List.set_cons_succ, List.getElem_toArray, List.getElem_cons_zero, List.getElem_cons_succ]
    refine wpAnyH_take (i := 5) (v := .pointer (some ⟨w.heap.size, 1, none⟩)) rfl (by kernel_rfl) (by kernel_rfl) (by kernel_rfl) (fun _ _ _ h => h) (Or.inl ⟨by rfl, fun w0 s1 => ?_⟩) hHeld ?_
    · go_simp
    try simp only [Act.put, List.setIfInBounds_toArray, List.set_cons_zero, List.set_cons_succ, List.getElem_toArray, List.getElem_cons_zero, List.getElem_cons_succ]
    refine wpAnyH_take (i := 6) (v := .int .i64 n) rfl (by kernel_rfl) (by kernel_rfl) (by kernel_rfl) (fun _ _ _ h => h) (Or.inl ⟨by rfl, fun w0 s1 => ?_⟩) hHeld ?_
    · (have q := Blk.cell (j := 1) s1 rfl; go_simp)
    try simp only [Act.put, List.setIfInBounds_toArray, List.set_cons_zero, List.set_cons_succ, List.getElem_toArray, List.getElem_cons_zero, List.getElem_cons_succ]
    refine wpAnyH_ready (rs := [3]) (by kernel_rfl) (by simp) ?_
    refine AllReadyH.cons rfl (fun K hK => ?_) AllReadyH.nil
    go_simp
    refine (cP.out _ _ (hD.out.drew hB2)).mono ?_
    rintro e w1 ⟨rfl, hD1⟩
    replace hD1 := W_hid hD1
    refine hK.out _ _ hD1.out.x (fun hHeld1 => ?_)
    clear hK K
    try simp only [Act.put, List.setIfInBounds_toArray, List.set_cons_zero, List.set_cons_succ, List.getElem_toArray, List.getElem_cons_zero, List.getElem_cons_succ]
    refine wpAnyH_ready (rs := [7]) (by kernel_rfl) (by simp) ?_
    refine AllReadyH.cons rfl (fun K hK => ?_) AllReadyH.nil
    go_simp
    refine (cR.out _ _ _ hD1.out).mono ?_
    rintro e w2 ⟨rfl, hD2⟩
    replace hD2 := W_hid hD2
    refine hK.out _ _ hD2.out.x (fun hHeld2 => ?_)
    clear hK K
    try simp only [Act.put, List.setIfInBounds_toArray, List.set_cons_zero, List.set_cons_succ, List.getElem_toArray, List.getElem_cons_zero, List.getElem_cons_succ]
    refine wpAnyH_take (i := 8) (v := .bool true) rfl (by kernel_rfl) (by kernel_rfl) (by kernel_rfl) (fun _ _ _ h => h) (Or.inl ⟨by rfl, fun w0 s1 => ?_⟩) hHeld2 ?_
    · go_simp
    try simp only [Act.put, List.setIfInBounds_toArray, List.set_cons_zero, List.set_cons_succ, List.getElem_toArray, List.getElem_cons_zero, List.getElem_cons_succ]
    refine wpAnyH_take (i := 9) (v := .bool true) rfl (by kernel_rfl) (by kernel_rfl) (by kernel_rfl) (fun _ _ _ h => h) (Or.inl ⟨by rfl, fun w0 s1 => ?_⟩) hHeld2 ?_
    · go_simp
    try simp only [Act.put, List.setIfInBounds_toArray, List.set_cons_zero, List.set_cons_succ, List.getElem_toArray, List.getElem_cons_zero, List.getElem_cons_succ]
    refine wpAnyH_done (by kernel_rfl) ?_ _
    go_wp2_with fail
    go_ret
    exact ⟨rfl, S', hD2.out.p, hD2.out.r, hD2.out.b⟩
  · obtain ⟨a, r, cP, cR⟩ := both_read hB2 hf hI n f m hn hff hm
    replace cP := W_hid cP
    replace cR := W_hid cR
    go_enter Try.func12, Try.ntmps12
    go_wp2_with fail
    refine (cP.out _ _ hD.out).mono ?_
    rintro e w1 ⟨rfl, hD1⟩
    replace hD1 := W_hid hD1
    have q1 := hD1.out.x.cell (j := 1) rfl
    have q2 := hD1.out.x.cell (j := 2) rfl
    have q3 := hD1.out.x.cell (j := 3) rfl
    go_wp2_with fail
    refine (cR.out _ _ _ hD1.out).mono ?_
    rintro e w2 ⟨rfl, hD2⟩
    replace hD2 := W_hid hD2
    go_wp2_with fail
    go_ret
    exact ⟨rfl, S, hD2.out.p, hD2.out.r, hD2.out.b⟩
  · obtain ⟨r, S', cP, cR⟩ := both_write hB1 hB2 hf hI hBB n f s hn hff hs
    replace cP := W_hid cP
    replace cR := W_hid cR
    go_enter Try.func12, Try.ntmps12
    go_wp2_with fail
    refine wp_region_held_drew (S := (fun w' => Blk w' w.heap.size 35 [.int .i64 kd, .int .i64 n, .int .i64 f, .int .i64 m, .string s])) (by kernel_rfl) hD.out.x (fun hHeld => ?_)
    refine wpAnyH_take (i := 0) (v := .pointer (some ⟨sg, 0, none⟩)) rfl (by kernel_rfl) (by kernel_rfl) (by kernel_rfl) (fun _ _ _ h => h) (Or.inl ⟨by rfl, fun w0 s1 => ?_⟩) hHeld ?_
    · go_simp
    try simp only [Act.put, List.setIfInBounds_toArray, List.set_cons_zero, List.set_cons_succ, List.getElem_toArray, List.getElem_cons_zero, List.getElem_cons_succ]
    refine wpAnyH_take (i := 1) (v := .pointer (some ⟨w.heap.size, 1, none⟩)) rfl (by kernel_rfl) (by kernel_rfl) (by kernel_rfl) (fun _ _ _ h => h) (Or.inl ⟨by rfl, fun w0 s1 => ?_⟩) hHeld ?_
    · go_simp
    try simp only [Act.put, List.setIfInBounds_toArray, List.set_cons_zero, List.set_cons_succ, List.getElem_toArray, List.getElem_cons_zero, List.getElem_cons_succ]
    refine wpAnyH_take (i := 2) (v := .int .i64 n) rfl (by kernel_rfl) (by kernel_rfl) (by kernel_rfl) (fun _ _ _ h => h) (Or.inl ⟨by rfl, fun w0 s1 => ?_⟩) hHeld ?_
    · (have q := Blk.cell (j := 1) s1 rfl; go_simp)
    try simp only [Act.put, List.setIfInBounds_toArray, List.set_cons_zero, List.set_cons_succ, List.getElem_toArray, List.getElem_cons_zero, List.getElem_cons_succ]
    refine wpAnyH_take (i := 3) (v := .pointer (some ⟨w.heap.size, 2, none⟩)) rfl (by kernel_rfl) (by kernel_rfl) (by kernel_rfl) (fun _ _ _ h => h) (Or.inl ⟨by rfl, fun w0 s1 => ?_⟩) hHeld ?_
    · go_simp
    try simp only [Act.put, List.setIfInBounds_toArray, List.set_cons_zero, List.set_cons_succ, List.getElem_toArray, List.getElem_cons_zero, List.getElem_cons_succ]
    refine wpAnyH_take (i := 4) (v := .int .i64 f) rfl (by kernel_rfl) (by kernel_rfl) (by kernel_rfl) (fun _ _ _ h => h) (Or.inl ⟨by rfl, fun w0 s1 => ?_⟩) hHeld ?_
    · (have q := Blk.cell (j := 2) s1 rfl; go_simp)
    try simp only [Act.put, List.setIfInBounds_toArray, List.set_cons_zero, List.set_cons_succ, List.getElem_toArray, List.getElem_cons_zero, List.getElem_cons_succ]
    refine wpAnyH_take (i := 5) (v := .pointer (some ⟨w.heap.size, 4, none⟩)) rfl (by kernel_rfl) (by kernel_rfl) (by kernel_rfl) (fun _ _ _ h => h) (Or.inl ⟨by rfl, fun w0 s1 => ?_⟩) hHeld ?_
    · go_simp
    try simp only [Act.put, List.setIfInBounds_toArray, List.set_cons_zero, List.set_cons_succ, List.getElem_toArray, List.getElem_cons_zero, List.getElem_cons_succ]
    refine wpAnyH_take (i := 6) (v := .string s) rfl (by kernel_rfl) (by kernel_rfl) (by kernel_rfl) (fun _ _ _ h => h) (Or.inl ⟨by rfl, fun w0 s1 => ?_⟩) hHeld ?_
    · (have q := Blk.cell (j := 4) s1 rfl; go_simp)
    try simp only [Act.put, List.setIfInBounds_toArray, List.set_cons_zero, List.set_cons_succ, List.getElem_toArray, List.getElem_cons_zero, List.getElem_cons_succ]
    refine wpAnyH_take (i := 8) (v := .pointer (some ⟨rg, 0, none⟩)) rfl (by kernel_rfl) (by kernel_rfl) (by kernel_rfl) (fun _ _ _ h => h) (Or.inl ⟨by rfl, fun w0 s1 => ?_⟩) hHeld ?_
    · go_simp
    try simp only [Act.put, List.setIfInBounds_toArray, List.set_cons_zero, List.set_cons_succ, List.getElem_toArray, List.getElem_cons_zero, List.getElem_cons_succ]
    refine wpAnyH_take (i := 9) (v := .pointer (some ⟨w.heap.size, 1, none⟩)) rfl (by kernel_rfl) (by kernel_rfl) (by kernel_rfl) (fun _ _ _ h => h) (Or.inl ⟨by rfl, fun w0 s1 => ?_⟩) hHeld ?_
    · go_simp
    try simp only [Act.put, List.setIfInBounds_toArray, List.set_cons_zero, List.set_cons_succ, List.getElem_toArray, List.getElem_cons_zero, List.getElem_cons_succ]
    refine wpAnyH_take (i := 10) (v := .int .i64 n) rfl (by kernel_rfl) (by kernel_rfl) (by kernel_rfl) (fun _ _ _ h => h) (Or.inl ⟨by rfl, fun w0 s1 => ?_⟩) hHeld ?_
    · (have q := Blk.cell (j := 1) s1 rfl; go_simp)
    try simp only [Act.put, List.setIfInBounds_toArray, List.set_cons_zero, List.set_cons_succ, List.getElem_toArray, List.getElem_cons_zero, List.getElem_cons_succ]
    refine wpAnyH_take (i := 11) (v := .pointer (some ⟨w.heap.size, 2, none⟩)) rfl (by kernel_rfl) (by kernel_rfl) (by kernel_rfl) (fun _ _ _ h => h) (Or.inl ⟨by rfl, fun w0 s1 => ?_⟩) hHeld ?_
    · go_simp
    try simp only [Act.put, List.setIfInBounds_toArray, List.set_cons_zero, List.set_cons_succ, List.getElem_toArray, List.getElem_cons_zero, List.getElem_cons_succ]
    refine wpAnyH_take (i := 12) (v := .int .i64 f) rfl (by kernel_rfl) (by kernel_rfl) (by kernel_rfl) (fun _ _ _ h => h) (Or.inl ⟨by rfl, fun w0 s1 => ?_⟩) hHeld ?_
    · (have q := Blk.cell (j := 2) s1 rfl; go_simp)
    try simp only [Act.put, List.setIfInBounds_toArray, List.set_cons_zero, List.set_cons_succ, List.getElem_toArray, List.getElem_cons_zero, List.getElem_cons_succ]
    refine wpAnyH_take (i := 13) (v := .pointer (some ⟨w.heap.size, 4, none⟩)) rfl (by kernel_rfl) (by kernel_rfl) (by kernel_rfl) (fun _ _ _ h => h) (Or.inl ⟨by rfl, fun w0 s1 => ?_⟩) hHeld ?_
    · go_simp
    try simp only [Act.put, List.setIfInBounds_toArray, List.set_cons_zero, List.set_cons_succ, List.getElem_toArray, List.getElem_cons_zero, List.getElem_cons_succ]
    refine wpAnyH_take (i := 14) (v := .string s) rfl (by kernel_rfl) (by kernel_rfl) (by kernel_rfl) (fun _ _ _ h => h) (Or.inl ⟨by rfl, fun w0 s1 => ?_⟩) hHeld ?_
    · (have q := Blk.cell (j := 4) s1 rfl; go_simp)
    try simp only [Act.put, List.setIfInBounds_toArray, List.set_cons_zero, List.set_cons_succ, List.getElem_toArray, List.getElem_cons_zero, List.getElem_cons_succ]
    refine wpAnyH_ready (rs := [7]) (by kernel_rfl) (by simp) ?_
    refine AllReadyH.cons rfl (fun K hK => ?_) AllReadyH.nil
    go_simp
    refine (cP.out _ _ (hD.out.drew hB2)).mono ?_
    rintro e w1 ⟨rfl, hD1⟩
    replace hD1 := W_hid hD1
    refine hK.out _ _ hD1.out.x (fun hHeld1 => ?_)
    clear hK K
    try simp only [Act.put, List.setIfInBounds_toArray, List.set_cons_zero, List.set_cons_succ, List.getElem_toArray, List.getElem_cons_zero, List.getElem_cons_succ]
    refine wpAnyH_ready (rs := [15]) (by kernel_rfl) (by simp) ?_
    refine AllReadyH.cons rfl (fun K hK => ?_) AllReadyH.nil
    go_simp
    refine (cR.out _ _ _ hD1.out).mono ?_
    rintro e w2 ⟨rfl, hD2⟩
    replace hD2 := W_hid hD2
    refine hK.out _ _ hD2.out.x (fun hHeld2 => ?_)
    clear hK K
    try simp only [Act.put, List.setIfInBounds_toArray, List.set_cons_zero, List.set_cons_succ, List.getElem_toArray, List.getElem_cons_zero, List.getElem_cons_succ]
    refine wpAnyH_take (i := 16) (v := .bool true) rfl (by kernel_rfl) (by kernel_rfl) (by kernel_rfl) (fun _ _ _ h => h) (Or.inl ⟨by rfl, fun w0 s1 => ?_⟩) hHeld2 ?_
    · go_simp
    try simp only [Act.put, List.setIfInBounds_toArray, List.set_cons_zero, List.set_cons_succ, List.getElem_toArray, List.getElem_cons_zero, List.getElem_cons_succ]
    refine wpAnyH_take (i := 17) (v := .bool true) rfl (by kernel_rfl) (by kernel_rfl) (by kernel_rfl) (fun _ _ _ h => h) (Or.inl ⟨by rfl, fun w0 s1 => ?_⟩) hHeld2 ?_
    · go_simp
    try simp only [Act.put, List.setIfInBounds_toArray, List.set_cons_zero, List.set_cons_succ, List.getElem_toArray, List.getElem_cons_zero, List.getElem_cons_succ]
    refine wpAnyH_done (by kernel_rfl) ?_ _
    go_wp2_with fail
    go_ret
    exact ⟨rfl, S', hD2.out.p, hD2.out.r, hD2.out.b⟩
  · obtain ⟨r, S', cP, cR⟩ := both_trunc hB1 hB2 hf hI n f hn hff
    replace cP := W_hid cP
    replace cR := W_hid cR
    go_enter Try.func12, Try.ntmps12
    go_wp2_with fail
    refine wp_region_held_drew (S := (fun w' => Blk w' w.heap.size 35 [.int .i64 kd, .int .i64 n, .int .i64 f, .int .i64 m, .string s])) (by kernel_rfl) hD.out.x (fun hHeld => ?_)
    refine wpAnyH_take (i := 0) (v := .pointer (some ⟨sg, 0, none⟩)) rfl (by kernel_rfl) (by kernel_rfl) (by kernel_rfl) (fun _ _ _ h => h) (Or.inl ⟨by rfl, fun w0 s1 => ?_⟩) hHeld ?_
    · go_simp
    try simp only [Act.put, List.setIfInBounds_toArray, List.set_cons_zero, List.set_cons_succ, List.getElem_toArray, List.getElem_cons_zero, List.getElem_cons_succ]
    refine wpAnyH_take (i := 1) (v := .pointer (some ⟨w.heap.size, 1, none⟩)) rfl (by kernel_rfl) (by kernel_rfl) (by kernel_rfl) (fun _ _ _ h => h) (Or.inl ⟨by rfl, fun w0 s1 => ?_⟩) hHeld ?_
    · go_simp
    try simp only [Act.put, List.setIfInBounds_toArray, List.set_cons_zero, List.set_cons_succ, List.getElem_toArray, List.getElem_cons_zero, List.getElem_cons_succ]
    refine wpAnyH_take (i := 2) (v := .int .i64 n) rfl (by kernel_rfl) (by kernel_rfl) (by kernel_rfl) (fun _ _ _ h => h) (Or.inl ⟨by rfl, fun w0 s1 => ?_⟩) hHeld ?_
    · (have q := Blk.cell (j := 1) s1 rfl; go_simp)
    try simp only [Act.put, List.setIfInBounds_toArray, List.set_cons_zero, List.set_cons_succ, List.getElem_toArray, List.getElem_cons_zero, List.getElem_cons_succ]
    refine wpAnyH_take (i := 3) (v := .pointer (some ⟨w.heap.size, 2, none⟩)) rfl (by kernel_rfl) (by kernel_rfl) (by kernel_rfl) (fun _ _ _ h => h) (Or.inl ⟨by rfl, fun w0 s1 => ?_⟩) hHeld ?_
    · go_simp
    try simp only [Act.put, List.setIfInBounds_toArray, List.set_cons_zero, List.set_cons_succ, List.getElem_toArray, List.getElem_cons_zero, List.getElem_cons_succ]
    refine wpAnyH_take (i := 4) (v := .int .i64 f) rfl (by kernel_rfl) (by kernel_rfl) (by kernel_rfl) (fun _ _ _ h => h) (Or.inl ⟨by rfl, fun w0 s1 => ?_⟩) hHeld ?_
    · (have q := Blk.cell (j := 2) s1 rfl; go_simp)
    try simp only [Act.put, List.setIfInBounds_toArray, List.set_cons_zero, List.set_cons_succ, List.getElem_toArray, List.getElem_cons_zero, List.getElem_cons_succ]
    refine wpAnyH_take (i := 6) (v := .pointer (some ⟨rg, 0, none⟩)) rfl (by kernel_rfl) (by kernel_rfl) (by kernel_rfl) (fun _ _ _ h => h) (Or.inl ⟨by rfl, fun w0 s1 => ?_⟩) hHeld ?_
    · go_simp
    try simp only [Act.put, List.setIfInBounds_toArray, List.set_cons_zero, List.set_cons_succ, List.getElem_toArray, List.getElem_cons_zero, List.getElem_cons_succ]
    refine wpAnyH_take (i := 7) (v := .pointer (some ⟨w.heap.size, 1, none⟩)) rfl (by kernel_rfl) (by kernel_rfl) (by kernel_rfl) (fun _ _ _ h => h) (Or.inl ⟨by rfl, fun w0 s1 => ?_⟩) hHeld ?_
    · go_simp
    try simp only [Act.put, List.setIfInBounds_toArray, List.set_cons_zero, List.set_cons_succ, List.getElem_toArray, List.getElem_cons_zero, List.getElem_cons_succ]
    refine wpAnyH_take (i := 8) (v := .int .i64 n) rfl (by kernel_rfl) (by kernel_rfl) (by kernel_rfl) (fun _ _ _ h => h) (Or.inl ⟨by rfl, fun w0 s1 => ?_⟩) hHeld ?_
    · (have q := Blk.cell (j := 1) s1 rfl; go_simp)
    try simp only [Act.put, List.setIfInBounds_toArray, List.set_cons_zero, List.set_cons_succ, List.getElem_toArray, List.getElem_cons_zero, List.getElem_cons_succ]
    refine wpAnyH_take (i := 9) (v := .pointer (some ⟨w.heap.size, 2, none⟩)) rfl (by kernel_rfl) (by kernel_rfl) (by kernel_rfl) (fun _ _ _ h => h) (Or.inl ⟨by rfl, fun w0 s1 => ?_⟩) hHeld ?_
    · go_simp
    try simp only [Act.put, List.setIfInBounds_toArray, List.set_cons_zero, List.set_cons_succ, List.getElem_toArray, List.getElem_cons_zero, List.getElem_cons_succ]
    refine wpAnyH_take (i := 10) (v := .int .i64 f) rfl (by kernel_rfl) (by kernel_rfl) (by kernel_rfl) (fun _ _ _ h => h) (Or.inl ⟨by rfl, fun w0 s1 => ?_⟩) hHeld ?_
    · (have q := Blk.cell (j := 2) s1 rfl; go_simp)
    try simp only [Act.put, List.setIfInBounds_toArray, List.set_cons_zero, List.set_cons_succ, List.getElem_toArray, List.getElem_cons_zero, List.getElem_cons_succ]
    refine wpAnyH_ready (rs := [5]) (by kernel_rfl) (by simp) ?_
    refine AllReadyH.cons rfl (fun K hK => ?_) AllReadyH.nil
    go_simp
    refine (cP.out _ _ (hD.out.drew hB2)).mono ?_
    rintro e w1 ⟨rfl, hD1⟩
    replace hD1 := W_hid hD1
    refine hK.out _ _ hD1.out.x (fun hHeld1 => ?_)
    clear hK K
    try simp only [Act.put, List.setIfInBounds_toArray, List.set_cons_zero, List.set_cons_succ, List.getElem_toArray, List.getElem_cons_zero, List.getElem_cons_succ]
    refine wpAnyH_ready (rs := [11]) (by kernel_rfl) (by simp) ?_
    refine AllReadyH.cons rfl (fun K hK => ?_) AllReadyH.nil
    go_simp
    refine (cR.out _ _ _ hD1.out).mono ?_
    rintro e w2 ⟨rfl, hD2⟩
    replace hD2 := W_hid hD2
    refine hK.out _ _ hD2.out.x (fun hHeld2 => ?_)
    clear hK K
    try simp only [Act.put, List.setIfInBounds_toArray, List.set_cons_zero, List.set_cons_succ, List.getElem_toArray, List.getElem_cons_zero, List.getElem_cons_succ]
    refine wpAnyH_take (i := 12) (v := .bool true) rfl (by kernel_rfl) (by kernel_rfl) (by kernel_rfl) (fun _ _ _ h => h) (Or.inl ⟨by rfl, fun w0 s1 => ?_⟩) hHeld2 ?_
    · go_simp
    try simp only [Act.put, List.setIfInBounds_toArray, List.set_cons_zero, List.set_cons_succ, List.getElem_toArray, List.getElem_cons_zero, List.getElem_cons_succ]
    refine wpAnyH_take (i := 13) (v := .bool true) rfl (by kernel_rfl) (by kernel_rfl) (by kernel_rfl) (fun _ _ _ h => h) (Or.inl ⟨by rfl, fun w0 s1 => ?_⟩) hHeld2 ?_
    · go_simp
    try simp only [Act.put, List.setIfInBounds_toArray, List.set_cons_zero, List.set_cons_succ, List.getElem_toArray, List.getElem_cons_zero, List.getElem_cons_succ]
    refine wpAnyH_done (by kernel_rfl) ?_ _
    go_wp2_with fail
    go_ret
    exact ⟨rfl, S', hD2.out.p, hD2.out.r, hD2.out.b⟩
  · obtain ⟨a, b, c, d, e1, f1, r, cP, cR⟩ := both_stat hB2 hf hI n hn
    replace cP := W_hid cP
    replace cR := W_hid cR
    go_enter Try.func12, Try.ntmps12
    go_wp2_with fail
    refine (cP.out _ _ hD.out).mono ?_
    rintro e w1 ⟨rfl, hD1⟩
    replace hD1 := W_hid hD1
    have hx1 := W_hid (Blk.new w1 41 [.int .i64 a, .int .i64 b, .int .i64 c, .int .i64 d, .int .i64 e1, .int .i64 f1] rfl)
    have hD1a := W_hid (hD1.out.keep hB2 ((Below.refl w1.heap.size w1).alloc (Nat.le_refl _) (.cells #[.int .i64 a, .int .i64 b, .int .i64 c, .int .i64 d, .int .i64 e1, .int .i64 f1] 41)))
    have q1 := hD1a.out.x.cell (j := 1) rfl
    go_wp2_with fail
    refine (cR.out _ _ _ hD1a.out).mono ?_
    rintro e w2 ⟨⟨rfl, hD2⟩, b2⟩
    have hx2 := (hx1.out.keep b2).alloc (.cells #[.int .i64 a, .int .i64 b, .int .i64 c, .int .i64 d, .int .i64 e1, .int .i64 f1] 41)
    have hx3 := Blk.new w2 41 [.int .i64 a, .int .i64 b, .int .i64 c, .int .i64 d, .int .i64 e1, .int .i64 f1] rfl
    have hD3 := W_hid (hD2.keep hB2 ((Below.refl w2.heap.size w2).alloc (Nat.le_refl _) (.cells #[.int .i64 a, .int .i64 b, .int .i64 c, .int .i64 d, .int .i64 e1, .int .i64 f1] 41)))
    have u0 := hx2.cell (j := 0) rfl
    have u1 := hx2.cell (j := 1) rfl
    have u2 := hx2.cell (j := 2) rfl
    have u3 := hx2.cell (j := 3) rfl
    have u4 := hx2.cell (j := 4) rfl
    have u5 := hx2.cell (j := 5) rfl
    have v0 := hx3.cell (j := 0) rfl
    have v1 := hx3.cell (j := 1) rfl
    have v2 := hx3.cell (j := 2) rfl
    have v3 := hx3.cell (j := 3) rfl
    have v4 := hx3.cell (j := 4) rfl
    have v5 := hx3.cell (j := 5) rfl
    have hq := stat_eql a b c d e1 f1
    clear hx1 hx2 hx3 b2 hD2 hD1 hD1a hD
    go_wp2_with fail
    go_ret
    exact ⟨rfl, S, hD3.out.p, hD3.out.r, hD3.out.b⟩
end
end IN
end Go.Proofs.Ytieneehpijilpaa

namespace Go.Proofs.Ytieneehpijilpaa
open Go.ChangeShapes Go.WideShapes Go.ChangeAt Go.RowKit
open Go.ChangeMaps (open_string shut_string)
set_option linter.unusedVariables false
set_option linter.unusedSimpArgs false

set_option maxRecDepth 100000 in
/-- Capacities that came in. -/
theorem open_caps {H : Type} {enc : TypeId × Value → H} {W : World} {r : Reach} {b0 : Nat} {v : Value} {d : DataW H} {p : List MemPlace} (hv : Value.okWide Try.prog W r b0 23 v)
    (h : DataW.Trod enc Try.prog W 0 (fun _ => true) true 23 v d p) :
    ∃ a b c d e f g : Int, v = .agg #[.int .i64 a, .int .i64 b, .int .i64 c, .int .i64 d, .int .i64 e, .int .i64 f, .int .i64 g] ∧ True := by
  obtain ⟨cs, rfl, hsz⟩ := okWide_struct Try.underlying23 hv
  have hC : Try.prog.cellsOf 23 = 7 := by kernel_rfl
  rw [hC] at hsz
  obtain ⟨l, rfl⟩ : ∃ l : List Value, cs = l.toArray := ⟨cs.toList, by simp⟩
  have hlen : l.length = 7 := by simpa using hsz
  obtain ⟨fuel, hf⟩ := h
  obtain ⟨xs, k, hk, hxy, _, hxl, hff⟩ := DataW.trod_struct Try.underlying23 hf
  match xs, hxl, l, hlen with
  | [y0, y1, y2, y3, y4, y5, y6], _, [v0, v1, v2, v3, v4, v5, v6], _ =>
    have t0 : Try.prog.cellsOf 3 = 1 := by kernel_rfl
    have g0 := hff 0 _ rfl
    have g1 := hff 1 _ rfl
    have g2 := hff 2 _ rfl
    have g3 := hff 3 _ rfl
    have g4 := hff 4 _ rfl
    have g5 := hff 5 _ rfl
    have g6 := hff 6 _ rfl
    simp [t0, Value.cells] at g0 g1 g2 g3 g4 g5 g6
    obtain ⟨z0, q0, -, -⟩ := DataW.trod_int Try.underlying3 g0
    obtain ⟨z1, q1, -, -⟩ := DataW.trod_int Try.underlying3 g1
    obtain ⟨z2, q2, -, -⟩ := DataW.trod_int Try.underlying3 g2
    obtain ⟨z3, q3, -, -⟩ := DataW.trod_int Try.underlying3 g3
    obtain ⟨z4, q4, -, -⟩ := DataW.trod_int Try.underlying3 g4
    obtain ⟨z5, q5, -, -⟩ := DataW.trod_int Try.underlying3 g5
    obtain ⟨z6, q6, -, -⟩ := DataW.trod_int Try.underlying3 g6
    simp at q0 q1 q2 q3 q4 q5 q6
    subst q0 q1 q2 q3 q4 q5 q6
    exact ⟨z0, z1, z2, z3, z4, z5, z6, rfl, trivial⟩

open IN

set_option maxRecDepth 100000 in
set_option maxHeartbeats 32000000 in
theorem InodeDoes_walk (ca0 cb0 cc0 cd0 ce0 cf0 cg0 : Int) (o1 : Option Addr) (n1 c1 : Nat) (l1 : List OpT11) (w : World) (w0 : True) (w1 : OS11 w o1 n1 c1 l1) :
    Calls Try.prog 3 #[.agg #[.int .i64 ca0, .int .i64 cb0, .int .i64 cc0, .int .i64 cd0, .int .i64 ce0, .int .i64 cf0, .int .i64 cg0], .slice o1 n1 c1] w fun e w' => e = .returned (.bool true) ∧ Below w.heap.size w w' := by
  obtain ⟨hlen, hll, hops⟩ := w1
  have hlen2 : (n1 : Int) ≤ 9223372036854775807 := by unfold maxLen at hlen; omega
  obtain ⟨W0, hW0⟩ : ∃ W0, w.alloc (.cells #[.int .i64 ca0, .int .i64 cb0, .int .i64 cc0, .int .i64 cd0, .int .i64 ce0, .int .i64 cf0, .int .i64 cg0] 23) = W0 := ⟨_, rfl⟩
  have hb0 : Below w.heap.size w W0 := by rw [← hW0]; exact (Below.refl _ _).alloc (Nat.le_refl _) _
  have hC0 : Blk W0 w.heap.size 23 [.int .i64 ca0, .int .i64 cb0, .int .i64 cc0, .int .i64 cd0, .int .i64 ce0, .int .i64 cf0, .int .i64 cg0] := by rw [← hW0]; exact Blk.new w _ [.int .i64 ca0, .int .i64 cb0, .int .i64 cc0, .int .i64 cd0, .int .i64 ce0, .int .i64 cf0, .int .i64 cg0] rfl
  have cS := W_hid (shown_any W0)
  replace hops := W_hid hops
  replace hll := W_hid hll
  replace hb0 := W_hid hb0
  replace hC0 := W_hid hC0
  clear hlen
  go_enter Try.func3, Try.ntmps3
  go_wp2_with fail
  replace hW0 := W_hid hW0
  refine cS.out.mono ?_
  rintro e w1 ⟨rfl, b1⟩
  have hC1 := hC0.out.keep b1
  have q0 := hC1.cell (j := 0) rfl
  have q1 := hC1.cell (j := 1) rfl
  have q2 := hC1.cell (j := 2) rfl
  have q3 := hC1.cell (j := 3) rfl
  have q4 := hC1.cell (j := 4) rfl
  have q5 := hC1.cell (j := 5) rfl
  have q6 := hC1.cell (j := 6) rfl
  have b1 := W_hid (hb0.out.trans (b1.mono hb0.out.size))
  replace hC1 := W_hid hC1
  clear cS
  by_cases hR : Right ca0 cb0 cc0
  · have cN := New_yes ca0 cb0 cc0 cd0 ce0 cf0 cg0 w1 hR
    have cR := fun w => rNew_yes ca0 cb0 cc0 cd0 ce0 cf0 cg0 w hR
    obtain ⟨r1, r2, r3, r4, r5, r6⟩ := hR
    obtain ⟨I, rfl⟩ : ∃ I : Nat, ca0 = I := ⟨ca0.toNat, by omega⟩
    obtain ⟨B, rfl⟩ : ∃ B : Nat, cb0 = B := ⟨cb0.toNat, by omega⟩
    obtain ⟨L, rfl⟩ : ∃ L : Nat, cc0 = L := ⟨cc0.toNat, by omega⟩
    simp only [Int.toNat_natCast] at cN
    unfold cap7 at cN cR
    replace cN := W_hid cN
    replace cR := W_hid cR
    go_wp2_with fail
    refine cN.out.mono ?_
    rintro e w2 ⟨sg, mb, M, rfl, hP, b2⟩
    have hC2 := hC1.out.keep b2
    have p0 := hC2.cell (j := 0) rfl
    have p1 := hC2.cell (j := 1) rfl
    have p2 := hC2.cell (j := 2) rfl
    have p3 := hC2.cell (j := 3) rfl
    have p4 := hC2.cell (j := 4) rfl
    have p5 := hC2.cell (j := 5) rfl
    have p6 := hC2.cell (j := 6) rfl
    have hs1 := b1.out.size
    have b2 := W_hid (b1.out.trans (b2.mono hs1))
    replace hP := W_hid hP
    clear cN q0 q1 q2 q3 q4 q5 q6 hC2
    go_wp2_with fail
    refine (cR.out w2).mono ?_
    rintro e w3 ⟨rg, rfl, hRS, b3⟩
    have hs2 := b2.out.size
    have hP := W_hid (hP.out.keep b3)
    have b3 := W_hid (b2.out.trans (b3.mono hs2))
    rw [← lst_none I] at hRS
    have hRS := W_hid hRS
    have hL1 : 1 ≤ L := by omega
    have hI4 : I ≤ 4096 := by omega
    obtain ⟨b1', hb1'⟩ : ∃ x, w1.heap.size = x := ⟨_, rfl⟩
    obtain ⟨b2', hb2'⟩ : ∃ x, w2.heap.size = x := ⟨_, rfl⟩
    rw [hb1'] at hP hs1
    rw [hb2'] at hRS hs2
    replace hb1' := W_hid hb1'
    replace hb2' := W_hid hb2'
    clear cR p0 p1 p2 p3 p4 p5 p6 b2 b1 hC1 hC0
    go_wp2_with fail
    go_loopw [10] (fun v wr => ∃ (j : Nat) (S : Int → Option Nd), j ≤ n1 ∧ j ≤ 300 ∧ v = .int .i64 (j : Int) ∧ Hid (∃ M, PS b1' wr sg mb M I L B j S) ∧ Hid (RS b2' wr rg (I : Int) (B : Int) (L : Int) (lst S I)) ∧ Hid (Below w.heap.size w wr)) (fun v _ => n1 - (intOf v).toNat)
    case atStart => exact ⟨0, _, by omega, by omega, rfl, W_hid ⟨M, hP.out⟩, hRS, b3⟩
    case round =>
      clear hP b3 hRS
      obtain ⟨j, S, hj, hj2, rfl, hP, hRS, hb⟩ := hrel
      by_cases hlt : j < n1 ∧ j < 300
      · obtain ⟨hl1, hl2⟩ := hlt
        obtain ⟨blk, off, rfl, hblk, hc0, hc1, hc2, hc3, hc4, z1, z2, z3, z4, z5, z6, z7, z8, z9⟩ := hops.out j (by rw [hll.out]; exact hl1)
        obtain ⟨⟨kd, n, f, m, s⟩, hx⟩ : ∃ x, l1[j]'(by rw [hll.out]; exact hl1) = x := ⟨_, rfl⟩
        rw [hx] at hc0 hc1 hc2 hc3 hc4 z1 z2 z3 z4 z5 z6 z7 z8 z9
        simp only at hc0 hc1 hc2 hc3 hc4 z1 z2 z3 z4 z5 z6 z7 z8 z9
        have kk : ∀ {a : Nat} {u : Value}, w.cell? ⟨blk, a, none⟩ = some u → wr.cell? ⟨blk, a, none⟩ = some u := fun {a u} hc => by rw [hb.out.cell (p := ⟨blk, a, none⟩) hblk]; exact hc
        have k0 := kk hc0
        have k1 := kk hc1
        have k2 := kk hc2
        have k3 := kk hc3
        have k4 := kk hc4
        obtain ⟨M1, hP1⟩ := hP.out
        have cD := W_hid (does_any (B0 := w.heap.size) kd n f m s wr hP1 hRS.out (by omega) hL1 ⟨z3, z4⟩ ⟨z5, z6⟩ ⟨z7, z8⟩ z9 hs1 hs2 hb.out.size)
        clear kk hc0 hc1 hc2 hc3 hc4 hx hP1
        go_wp2_with fail
        refine cD.out.mono ?_
        rintro e w4 ⟨rfl, S', hP4, hR4, b4⟩
        replace hP4 := W_hid hP4
        replace hR4 := W_hid hR4
        have b4 := W_hid (hb.out.trans b4)
        clear cD k0 k1 k2 k3 k4
        go_wp2_with fail
        go_roundw
        case rel => exact ⟨j + 1, S', by omega, by omega, by go_num, hP4, hR4, b4⟩
        case measure => simp [intOf]; omega
      · obtain ⟨M1, hP1⟩ := hP.out
        have cA := W_hid (All_any wr hP1)
        have hF := hP1.fn
        have cB := W_hid (fun w' (hb' : Below wr.heap.size wr w') => rAll_any w' hF hI4 (hRS.out.keep hb'))
        have hls := lst_len S I
        clear hP1 hF hP hRS
        have hex : (¬ j < n1) ∨ (j < n1 ∧ ¬ j < 300) := by omega
        rcases hex with h1 | ⟨h1, h2⟩
        all_goals
          go_wp2_with fail
          refine cA.out.mono ?_
          rintro e w5 ⟨v5, rfl, ho5, b5⟩
          have cB5 := W_hid (cB.out w5 b5)
          obtain ⟨ao5, c5, rfl⟩ := Own.form ho5
          have ho5 := W_hid ho5
          have b5 := W_hid (hb.out.trans (b5.mono hb.out.size))
          go_wp2_with fail
          refine cB5.out.mono ?_
          rintro e w6 ⟨v6, rfl, ho6, b6⟩
          have cE := W_hid (Same_yes _ v6 _ _ (lst S I) w6 (by omega) (Own.below ho5.out b6) ho6)
          obtain ⟨ao6, c6, rfl⟩ := Own.form ho6
          have b6 := W_hid (b5.out.trans (b6.mono b5.out.size))
          clear ho6 ho5
          go_wp2_with fail
          refine cE.out.mono ?_
          rintro e w7 ⟨rfl, b7⟩
          have b7 := W_hid (b6.out.trans (b7.mono b6.out.size))
          go_wp2_with fail
          go_ret
          exact ⟨rfl, b7.out⟩
  · have cN := New_no ca0 cb0 cc0 cd0 ce0 cf0 cg0 w1 hR
    have cR := fun w => rNew_no ca0 cb0 cc0 cd0 ce0 cf0 cg0 w hR
    unfold cap7 at cN cR
    replace cN := W_hid cN
    replace cR := W_hid cR
    replace hR := W_hid hR
    go_wp2_with fail
    refine cN.out.mono ?_
    rintro e w2 ⟨rfl, b2⟩
    have hC2 := hC1.out.keep b2
    have p0 := hC2.cell (j := 0) rfl
    have p1 := hC2.cell (j := 1) rfl
    have p2 := hC2.cell (j := 2) rfl
    have p3 := hC2.cell (j := 3) rfl
    have p4 := hC2.cell (j := 4) rfl
    have p5 := hC2.cell (j := 5) rfl
    have p6 := hC2.cell (j := 6) rfl
    have b2 := W_hid (b1.out.trans (b2.mono b1.out.size))
    clear hC2 cN q0 q1 q2 q3 q4 q5 q6
    go_wp2_with fail
    refine (cR.out w2).mono ?_
    rintro e w3 ⟨rfl, b3⟩
    have b3 := W_hid (b2.out.trans (b3.mono b2.out.size))
    go_wp2_with fail
    go_ret
    exact ⟨rfl, b3.out⟩

set_option maxRecDepth 100000 in
theorem InodeDoes_lifted (os : Os) (started : os.Started) (H : Type) (enc : TypeId × Value → H) :
    ReturnsInHanded {} Try.checked os 3 .any (Rows.inodeDoesSpec.pre6 enc Try.prog Try.f3 Rows.inodeDoesRow.domain false) (Rows.inodeDoesSpec.post enc Try.prog Try.f3 false true false false) := by
  refine returnsInHanded_of_change (C := Try.checked) (by kernel_rfl) started (by kernel_rfl) Try.func3
    (ChangeSpec.witness6 (enc := enc) (C := Try.checked) false ⟨#[], #[.agg #[.int .i64 0, .int .i64 0, .int .i64 0, .int .i64 0, .int .i64 0, .int .i64 0, .int .i64 0], .slice none 0 0], []⟩ 8 (by kernel_rfl) (by kernel_rfl) (by kernel_rfl) (by kernel_rfl)) ?_
  intro W base args ds gs before hval0 hW hcnd _
  have hval : ∀ (j : Nat) t v, Try.f3.params[j]? = some t → args[j]? = some v → Value.okWide Try.prog W .any base t v := hval0
  have hW' := hW
  obtain ⟨p, q, hA0, hV, rfl, hfz, hnd⟩ := hW
  have hA : DataW.TrodAll enc Try.prog W 0 (fun _ => true) true Try.f3.params.toList args.toList ds p := hA0
  rw [Try.params3] at hA hval
  obtain ⟨v0, vs0, d0, ds0, p0, q0, hargs, rfl, rfl, h0, r0⟩ := trodAll_cons hA
  obtain ⟨v1, vs1, d1, ds1, p1, q1, rfl, rfl, rfl, h1, r1⟩ := trodAll_cons r0
  obtain ⟨rfl, rfl, rfl⟩ := trodAll_nil r1
  obtain rfl : args = #[v0, v1] := by cases args; simp_all
  obtain ⟨rfl, rfl⟩ := trodVars_none hV
  have k0 := h0
  have lt0 : ∀ x ∈ p0, x.block < W.heap.size := by obtain ⟨m, hm⟩ := k0; exact DataW.trod_lt m _ _ _ hm
  obtain ⟨ca0, cb0, cc0, cd0, ce0, cf0, cg0, rfl, w0⟩ := open_caps (hval 0 23 v0 rfl rfl) h0
  have k1 := h1
  have lt1 : ∀ x ∈ p1, x.block < W.heap.size := by obtain ⟨m, hm⟩ := k1; exact DataW.trod_lt m _ _ _ hm
  obtain ⟨o1, n1, c1, l1, rfl, w1⟩ := open_ops11 (hval 1 24 v1 rfl rfl) h1
  clear hA0 hval0
  refine (InodeDoes_walk ca0 cb0 cc0 cd0 ce0 cf0 cg0 o1 n1 c1 l1 W w0 w1).mono fun e W' ⟨he, bel⟩ => ?_
  subst he
  exact ⟨_, rfl, _, _, _, [], _, [], hW', trodAll_mk1 (shut_bool Try.underlying4 _), (trodAll_cons_mk (Below.trod laidOut (by kernel_rfl) (of_decide_eq_true (by kernel_rfl)) k0 bel lt0) (trodAll_cons_mk (Below.trod laidOut (by kernel_rfl) (of_decide_eq_true (by kernel_rfl)) k1 bel lt1) trodAll_mk0)), rfl, bel.frame _, fun h => by cases h⟩

/-- The given statement of InodeDoes. -/
theorem InodeDoes_holds : Rows.InodeDoesSaid :=
  OpenClaim.holds_of_wide 3 Try.f3 rfl rfl rfl rfl rfl rfl rfl ⟨rfl, rfl, rfl, rfl, rfl⟩ rfl rfl rfl rfl rfl (by kernel_rfl) Try.func3 (by kernel_rfl)
    (of_decide_eq_true (by kernel_rfl)) (by unfold Func.isWrapper; first | (rw [if_pos (by decide +kernel)]; kernel_rfl) | (rw [if_neg (by decide +kernel)]; exact ⟨rfl, rfl⟩))
    (fun os started H enc _ => InodeDoes_lifted os started H enc)
end Go.Proofs.Ytieneehpijilpaa

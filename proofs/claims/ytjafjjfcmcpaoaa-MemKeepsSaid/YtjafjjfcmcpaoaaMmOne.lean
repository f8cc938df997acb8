/- Stage 18: a machine's step. -/
import Derived.Test.YtjafjjfcmcpaoaaMmStepA
import Derived.Test.YtjafjjfcmcpaoaaMmDel
namespace Go.Proofs.Ytjafjjfcmcpaoaa
open Go.ChangeShapes Go.WideShapes Go.ChangeAt Go.RowKit
set_option linter.unusedVariables false
set_option linter.unusedSimpArgs false
set_option maxRecDepth 100000
namespace MC
open IN (lt_of_some)

def ncl (l : List Nat) : List Value := icl (l.map fun (k : Nat) => (k : Int))
theorem ncl_len (l : List Nat) : (ncl l).length = l.length := by simp [ncl, icl]
theorem ncl_get (l : List Nat) (j : Nat) : (ncl l)[j]? = (l[j]?).map (fun (k : Nat) => Value.int .i64 (k : Int)) := by unfold ncl; rw [icl_get, List.getElem?_map, Option.map_map]; rfl
theorem ncl_del (l : List Nat) (j : Nat) : ncl (l.take j ++ l.drop (j + 1)) = (ncl l).take j ++ (ncl l).drop (j + 1) := by simp [ncl, icl, List.map_take, List.map_drop]
/-- The program's machine in memory. -/
structure PMg (lo a b : Nat) (w : World) (gm gc : Nat) (vt vl : Value) (S : Ma) (L : List (Value × Th)) (lv : List Nat) : Prop where
  raw : Raw TT lo a b w gc vt S.c L
  box : Blk w gm TM [.slice (some ⟨gc, 0, none⟩) S.c.length S.c.length, vt, vl]
  liv : w.ownsRow a TI 1 vl lv.length (ncl lv)
  gm1 : a ≤ gm
  gm2 : gm < b
  lvb : ∀ k, vl.ownBlock = some k → k < b
  lt : L.map Prod.snd = S.t
abbrev PM (lo a b : Nat) (w : World) (gm gc : Nat) (vt vl : Value) (S : Ma) (L : List (Value × Th)) : Prop := PMg lo a b w gm gc vt vl S L (live S.t)
def PW (lo a b : Nat) (w : World) (gm : Nat) (S : Ma) : Prop := ∃ gc vt vl L, PM lo a b w gm gc vt vl S L
section
variable {lo a b : Nat} {w w' : World} {gm gc : Nat} {vt vl : Value} {S : Ma} {L : List (Value × Th)}
theorem PM.moved (h : PM lo a b w gm gc vt vl S L) (hs : w.heap.size ≤ w'.heap.size) (hk : ∀ k, k < lo ∨ (a ≤ k ∧ k < b) → w'.heap[k]? = w.heap[k]?) : PM lo a b w' gm gc vt vl S L :=
  ⟨h.raw.moved hs hk, (hk gm (.inr ⟨h.gm1, h.gm2⟩)).trans h.box, own_move h.liv fun k hv => hk k (.inr ⟨Own.ge h.liv k hv, h.lvb k hv⟩), h.gm1, h.gm2, h.lvb, h.lt⟩
theorem PM.keep (h : PM lo a b w gm gc vt vl S L) (hb : Below w.heap.size w w') : PM lo a b w' gm gc vt vl S L :=
  h.moved hb.size fun k hk => hb.block k (by have := h.raw.top; have := h.raw.lo; have := h.gm1; have := h.gm2; omega)
theorem PW.moved (h : PW lo a b w gm S) (hs : w.heap.size ≤ w'.heap.size) (hk : ∀ k, k < lo ∨ (a ≤ k ∧ k < b) → w'.heap[k]? = w.heap[k]?) : PW lo a b w' gm S := by
  obtain ⟨gc, vt, vl, L, h⟩ := h
  exact ⟨gc, vt, vl, L, h.moved hs hk⟩
theorem PW.keep (h : PW lo a b w gm S) (hb : Below w.heap.size w w') : PW lo a b w' gm S := by
  obtain ⟨gc, vt, vl, L, h⟩ := h
  exact ⟨gc, vt, vl, L, h.keep hb⟩
/-- What another machine's step leaves. -/
theorem PW.win {a' b' : Nat} (h : PW lo a b w gm S) (hw : Win a' b' w w') (hd : b ≤ a' ∨ b' ≤ a) (hl : lo ≤ a') : PW lo a b w' gm S := by
  obtain ⟨gc, vt, vl, L, h⟩ := h
  exact ⟨gc, vt, vl, L, h.moved hw.size fun k hk => hw.block k (by have := h.raw.top; have := h.raw.lo; have := h.gm1; have := h.gm2; omega) (by omega)⟩
theorem PM.tnum (h : PM lo a b w gm gc vt vl S L) : L.length = S.t.length := by rw [← h.lt]; simp
theorem PM.at_ (h : PM lo a b w gm gc vt vl S L) {i : Nat} {t : Th} (hi : S.t[i]? = some t) : ∃ v, L[i]? = some (v, t) := by
  rw [← h.lt, List.getElem?_map] at hi
  rcases e : L[i]? with _ | ⟨v, u⟩
  · rw [e] at hi; cases hi
  · rw [e] at hi
    simp only [Option.map_some, Option.some.injEq] at hi
    subst hi
    exact ⟨v, rfl⟩
theorem PM.mgc (h : PM lo a b w gm gc vt vl S L) : gm ≠ gc := obj_ne h.box h.raw.cel (by decide)
theorem PM.mg (h : PM lo a b w gm gc vt vl S L) {g : Nat} (hg : vt.ownBlock = some g) : gm ≠ g := by
  obtain ⟨cur, hc⟩ := own_obj h.raw.thr hg
  exact obj_ne h.box hc (by decide)
theorem PM.ml (h : PM lo a b w gm gc vt vl S L) {g : Nat} (hg : vl.ownBlock = some g) : gm ≠ g ∧ gc ≠ g := by
  obtain ⟨cur, hc⟩ := own_obj h.liv hg
  exact ⟨obj_ne h.box hc (by decide), obj_ne h.raw.cel hc (by decide)⟩
theorem PM.tl (h : PM lo a b w gm gc vt vl S L) {g k : Nat} (hg : vl.ownBlock = some g) (hk : vt.ownBlock = some k) : g ≠ k := by
  obtain ⟨cur, hc⟩ := own_obj h.liv hg
  obtain ⟨cur2, hc2⟩ := own_obj h.raw.thr hk
  exact obj_ne hc hc2 (by decide)
theorem Raw.vform {e : TypeId} {c : List Int} (h : Raw e lo a b w gc vt c L) {i : Nat} {x : Value × Th} (hi : L[i]? = some x) : ∃ ao cap, x.1 = .slice ao x.2.p.length cap := by
  rcases h.prg x (List.mem_of_getElem? hi) with ⟨h1, h2, -⟩ | ⟨ad, c, h1, -⟩
  · exact ⟨none, 0, by rw [h1, h2]⟩
  · exact ⟨_, _, h1⟩
set_option maxRecDepth 100000 in
set_option maxHeartbeats 4000000 in
theorem Step_any {N : Nat} {q : Int} (h : PW lo a b w gm S) (hF : Fit N S) (hq : I64 q) : Calls Try.prog 12 #[ptr gm, .int .i64 q] w fun e w' => e = .returned (.int .i64 (one S q).2) ∧ PW lo a b w' gm (one S q).1 ∧ Win a b w w' := by
  obtain ⟨gc, vt, vl, L, h⟩ := h
  have hno := W_hid (fun (W : World) (hW : W.cell? ⟨gm, 0, none⟩ = some (.slice (some ⟨gc, 0, none⟩) S.c.length S.c.length)) => none_some hW)
  have m0 := h.box.cell (j := 0) rfl
  have m1 := h.box.cell (j := 1) rfl
  have m2 := h.box.cell (j := 2) rfl
  have mf := h.box.fz
  obtain ⟨al, cl, hvl⟩ := Own.form h.liv
  subst hvl
  have hl64 : (live S.t).length ≤ 64 := Nat.le_trans (live_len _) hF.n
  by_cases hz : (live S.t).length = 0
  · have e : one S q = (S, -1) := by unfold one; rw [pick_none hz]
    rw [e]
    rw [hz] at m2
    replace h := W_hid h
    clear e hz hF
    go_enter Try.func12, Try.ntmps12
    go_wp2_with (go_at_call 27; refine (hno.out _ m0).mono ?_; rintro e w' ⟨rfl, rfl⟩)
    go_ret
    exact ⟨rfl, ⟨gc, vt, _, L, h.out⟩, Win.refl _ _ _⟩
  · obtain ⟨i, hi, hj⟩ := pick_some (S := S) (q := q) (by omega)
    have hone : one S q = (step S i, (i : Int)) := by unfold one; rw [hi]
    obtain ⟨t, ht, ho⟩ := pick_mem hi
    obtain ⟨v, hv⟩ := h.at_ ht
    have hTF := hF.t t (List.mem_of_getElem? ht)
    have hst : step S i = ⟨(does S.c t).1, S.t.set i (does S.c t).2⟩ := by unfold step; rw [ht]
    have hdf := does_fit hF.c hTF ho
    obtain ⟨j, hjj⟩ : ∃ j, turn q (live S.t).length = j := ⟨_, rfl⟩
    have hjl : j < (live S.t).length := by rw [← hjj]; exact turn_lt (by omega)
    rw [hjj] at hj
    have htu := W_hid (fun W => turn_any W q (live S.t).length (by omega) hq (by omega))
    rw [hjj] at htu
    obtain ⟨g, cap, hvt, hLc, hcap, hiL, hga, hgb, hT⟩ := h.raw.opened hv
    subst hvt
    have hgm := h.mg (g := g) rfl
    have hgmc := h.mgc
    have hstep := W_hid (step_any (h.raw.drewN 1) hv ho hTF)
    obtain ⟨gl, hal⟩ : ∃ gl, al = some ⟨gl, 0, none⟩ := by
      rcases h.liv.2 with ⟨h1, h2⟩ | ⟨gl, cap', cur, h1, -⟩
      · simp only [Value.slice.injEq] at h1; omega
      · simp only [Value.slice.injEq] at h1; exact ⟨gl, h1.1⟩
    subst hal
    have hlc : w.cell? ⟨gl, j, none⟩ = some (.int .i64 (i : Int)) := by
      have := h.liv.cells (g := gl) rfl j (.int .i64 (i : Int)) (by rw [ncl_get, hj]; rfl)
      rwa [Addr.add_lit, Nat.zero_add] at this
    obtain ⟨hgl1, hgl2⟩ := h.ml (g := gl) rfl
    have hgl3 := h.tl (g := gl) (k := g) rfl rfl
    obtain ⟨n, hn⟩ : ∃ n, (live S.t).length = n := ⟨_, rfl⟩
    obtain ⟨M, hM⟩ : ∃ M, S.c.length = M := ⟨_, rfl⟩
    rw [hn] at m2 hjl hl64 htu hz
    rw [hM] at m0 hstep hno
    have hj1 : (j : Int) < (n : Int) := by omega
    have hi1 : (i : Int) < (L.length : Int) := by omega
    obtain ⟨Ln, hLn⟩ : ∃ x, L.length = x := ⟨_, rfl⟩
    rw [hLn] at m1 hi1 hLc hstep
    have hz2 : ¬ ((n : Int) = 0) := by omega
    have hjw : IntKind.i64.wrap ((j : Int) + 1) = (j : Int) + 1 := IntWalk.i64_in _ (by omega)
    rw [hone]
    replace h := W_hid h
    replace hj := W_hid hj
    replace hst := W_hid hst
    replace hdf := W_hid hdf
    replace hn := W_hid hn
    replace hM := W_hid hM
    replace hv := W_hid hv
    replace ht := W_hid ht
    replace hLn := W_hid hLn
    replace ho := W_hid ho
    have hmd0 : w.drew.cell? ⟨gm, 0, none⟩ = some (.slice (some ⟨gc, 0, none⟩) M M) := m0
    have hmd1 : w.drew.cell? ⟨gm, 1, none⟩ = some (.slice (some ⟨g, 0, none⟩) Ln cap) := m1
    clear hone hF hTF hT hi hjj hq hz
    go_enter Try.func12, Try.ntmps12
    go_wp2_with (first | (go_at_call 27; refine (hno.out _ m0).mono ?_; rintro e w' ⟨rfl, rfl⟩) | (go_at_call 28; refine (htu.out _).mono ?_; rintro e w' ⟨rfl, rfl⟩))
    go_region_held3 (fun W => W.cell? ⟨gm, 0, none⟩ = some (.slice (some ⟨gc, 0, none⟩) M M) ∧ W.cell? ⟨gm, 1, none⟩ = some (.slice (some ⟨g, 0, none⟩) Ln cap)) (with_reducible (first | exact ⟨hmd0, hmd1⟩ | exact ⟨n0, n1⟩ | assumption)) ((go_at_call 29; refine hstep.out.mono ?_; rintro e w1 ⟨rfl, hr1, ht1⟩; have hb1 := W_hid (Blk.two (w := w.drewN 1) (g := g) (b := gc) h.out.box ht1 hgm hgmc); have n0 := hb1.out.cell (j := 0) rfl; have n1 := hb1.out.cell (j := 1) rfl; have n2 := hb1.out.cell (j := 2) rfl; rw [hM.out] at n0; rw [hLn.out] at n1; rw [hn.out] at n2))
    have hv2 := W_hid (show (L.set i (v, (does S.c t).2))[i]? = some (v, (does S.c t).2) by rw [List.getElem?_set_self hiL])
    have hlive1 : w1.ownsRow a TI 1 (.slice (some ⟨gl, 0, none⟩) (live S.t).length cl) (live S.t).length (ncl (live S.t)) := own_move h.out.liv fun k hk => by
      simp only [Value.ownBlock, Option.some.injEq] at hk
      subst hk
      exact ht1.block _ (by obtain ⟨cur, hc⟩ := own_obj h.out.liv (k := _) rfl; exact lt_of_some hc) hgl3 (fun e => hgl2 e.symm)
    have hwin1 : Hid (Win a b w w1) := W_hid (Win.undrew (w := w) (Win.two ht1 ⟨hga, hgb⟩ ⟨h.out.raw.gc1, h.out.raw.gc2⟩))
    replace hlive1 := W_hid hlive1
    have hT2 : ∃ ao cc, TCell w1 g (i * 10) v (does S.c t).2 ∧ v = .slice ao (does S.c t).2.p.length cc := by
      obtain ⟨g2, cap2, he2, -, -, -, -, -, hT2⟩ := hr1.opened hv2.out
      simp only [Value.slice.injEq, Option.some.injEq, Addr.mk.injEq, and_true, true_and] at he2
      obtain ⟨rfl, -, -⟩ := he2
      obtain ⟨ao, cc, hvv⟩ := hr1.vform hv2.out
      exact ⟨ao, cc, hT2, hvv⟩
    obtain ⟨ao, cc, hT2, hvv⟩ := hT2
    have hend := W_hid (ended_any hT2 hvv)
    obtain ⟨E, hE⟩ : ∃ E, (!on (does S.c t).2) = E := ⟨_, rfl⟩
    rw [hE] at hend
    replace hr1 := W_hid hr1
    have hlt1 : Hid ((L.set i (v, (does S.c t).2)).map Prod.snd = S.t.set i (does S.c t).2) := W_hid (by rw [List.map_set, h.out.lt])
    have hcl1 : (does S.c t).1.length = S.c.length := hdf.out.2.2
    have hgb2 := h.out.gm2
    have hga2 := h.out.gm1
    have hw1s := hwin1.out.size
    have hlvb := h.out.lvb
    replace hcl1 := W_hid hcl1
    replace hlvb := W_hid hlvb
    clear hT2 hvv ht1 hstep htu hno hdf
    cases E with
    | false =>
      have hE2 : on (does S.c t).2 = true := by simpa using hE
      have hlv : Hid (live (S.t.set i (does S.c t).2) = live S.t) := W_hid (live_set_on ht.out ho.out hE2)
      replace hE := W_hid hE
      go_wp2_with (go_at_call 26; refine hend.out.mono ?_; rintro e w2 ⟨rfl, nd, rfl⟩)
      go_ret
      have hr := hr1.out.drewN nd
      have hw2 := hwin1.out.drewN nd
      refine ⟨rfl, ⟨gc, .slice (some ⟨g, 0, none⟩) Ln cap, .slice (some ⟨gl, 0, none⟩) n cl, L.set i (v, (does S.c t).2), ?_⟩, hw2⟩
      rw [hst.out]
      refine ⟨hr, ?_, ?_, hga2, hgb2, ?_, hlt1.out⟩
      · have := hb1.out
        rw [hn.out, hLn.out, ← hcl1.out] at this
        exact this
      · rw [hlv.out, ← hn.out]
        exact own_move hlive1.out fun _ _ => rfl
      · exact hlvb.out
    | true =>
      have hE2 : on (does S.c t).2 = false := by simpa using hE
      have hlv : Hid (live (S.t.set i (does S.c t).2) = (live S.t).take j ++ (live S.t).drop (j + 1)) := W_hid (live_set_off ht.out hj.out hE2)
      replace hE := W_hid hE
      obtain ⟨m, hm⟩ : ∃ m, n = m + 1 := ⟨n - 1, by omega⟩
      subst hm
      have hdel := W_hid (fun (nd : Nat) => delete_any (base := a) (w := w1.drewN nd) (g := gl) (m := m) (cap := cl) (i := j) (xs := ncl (live S.t)) (by have := hlive1.out; rw [hn.out] at this; exact own_move this fun _ _ => rfl) (icl_one _) (by omega) (by omega))
      have hmc : ((m + 1 : Nat) : Int) = (m : Int) + 1 := by omega
      replace hmc := W_hid hmc
      go_wp2_with (first | (go_at_call 26; refine hend.out.mono ?_; rintro e w2 ⟨rfl, nd, rfl⟩) | (go_at_call 30; refine (hdel.out _).mono ?_; rintro e w3 ⟨rfl, hd3, hg3⟩; have hb3 : Hid (Blk w3 gm TM _) := W_hid (Blk.grown (w := w1.drewN nd) hb1.out hg3 (by simp; exact hgl1)); have p2 := hb3.out.cell (j := 2) rfl; have pf := hb3.out.fz))
      go_ret
      have hr := hr1.out.drewN nd
      have hg4 := hg3
      have htop := hr.top
      have hlt3 : gl < b := hlvb.out gl rfl
      have hgl0 : a ≤ gl := Own.ge h.out.liv gl rfl
      have hout : ∀ k, k ≠ gl → k ≠ gm → k < (w1.drewN nd).heap.size → (w3.setCell ⟨gm, 2, none⟩ (.slice (some ⟨gl, 0, none⟩) m cl)).heap[k]? = (w1.drewN nd).heap[k]? := fun k h1 h2 h3 =>
        (Below.heap_setCell w3 ⟨gm, 2, none⟩ _ k h2).trans (hg4.block k h3 (by simp; exact h1))
      refine ⟨rfl, ⟨gc, .slice (some ⟨g, 0, none⟩) Ln cap, .slice (some ⟨gl, 0, none⟩) m cl, L.set i (v, (does S.c t).2), ?_⟩, ?_⟩
      · rw [hst.out]
        have hl3 : (live (S.t.set i (does S.c t).2)).length = m := by
          rw [hlv.out, List.length_append, List.length_take, List.length_drop, hn.out]; omega
        refine ⟨?_, ?_, ?_, hga2, hgb2, fun k hk => by simp only [Value.ownBlock, Option.some.injEq] at hk; omega, hlt1.out⟩
        · have hfr := hr.far
          have hz : (w1.drewN nd).heap.size ≤ (w3.setCell ⟨gm, 2, none⟩ (.slice (some ⟨gl, 0, none⟩) m cl)).heap.size := by simpa [World.setCell] using hg4.size
          have hcl : (w1.drewN nd).heap[gl]? = some (.cells _ TI (0, 0)) := (own_obj (own_move (w' := w1.drewN nd) hlive1.out fun _ _ => rfl) (k := gl) rfl).choose_spec
          have hcm : (w1.drewN nd).heap[gm]? = some (.cells _ TM (0, 0)) := hb1.out
          have pn : ∀ y ∈ L.set i (v, (does S.c t).2), y.2.p ≠ [] → ∀ k, vb y.1 = some k → k ≠ gl ∧ k ≠ gm ∧ k < (w1.drewN nd).heap.size := fun y hy hne k hk => by
            rcases hfr y hy hne k hk with h1 | ⟨h1, h2, arr, h3⟩
            · have := hr.lo; omega
            · exact ⟨obj_ne h3 hcl (by decide), obj_ne h3 hcm (by decide), lt_of_some h3⟩
          refine ⟨(hout gc hgl2 (fun e => hgmc e.symm) hr.cel.lt).trans hr.cel, own_move hr.thr fun k hk => ?_, hr.gc1, hr.gc2, hr.thb, fun y hy => src_move (hr.prg y hy) fun hne k hk => hout k (pn y hy (xne hne) k hk).1 (pn y hy (xne hne) k hk).2.1 (pn y hy (xne hne) k hk).2.2, fun y hy hne k hk => ?_, hr.lo, Nat.le_trans hr.top hz, hr.r8⟩
          · simp only [Value.ownBlock, Option.some.injEq] at hk
            subst hk
            obtain ⟨cur, hc⟩ := own_obj hr.thr (k := _) rfl
            exact hout _ (fun e => hgl3 e.symm) (fun e => hgm e.symm) (lt_of_some hc)
          · rcases hfr y hy hne k hk with h1 | ⟨h1, h2, arr, h3⟩
            · exact .inl h1
            · exact .inr ⟨h1, h2, arr, (hout k (pn y hy hne k hk).1 (pn y hy hne k hk).2.1 (pn y hy hne k hk).2.2).trans h3⟩
        · have := hb3.out.set 2 (.slice (some ⟨gl, 0, none⟩) m cl)
          rw [← hcl1.out] at this
          rw [← hLn.out]
          exact this
        · rw [hl3, hlv.out, ncl_del]
          refine own_move ?_ fun k hk => Below.heap_setCell w3 ⟨gm, 2, none⟩ _ k (by simp only [Value.ownBlock, Option.some.injEq] at hk; exact fun e => hgl1 (e.symm.trans hk.symm))
          have := hd3
          rw [Nat.mul_one, Nat.mul_one] at this
          exact this
      · exact ((hwin1.out.drewN nd).trans (Win.grown hg4 (fun k hk => by simp only [Option.some.injEq] at hk; omega))).set (p := ⟨gm, 2, none⟩) ⟨hga2, hgb2⟩ _
end
end MC
end Go.Proofs.Ytjafjjfcmcpaoaa

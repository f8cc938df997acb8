/- Contracts of package sched: weights. -/
import Derived.Test.YtmikgkelmdgckaaSchRun
import Derived.Maps.OwnIn
import Derived.OwnWalkIn
namespace Go.Proofs.Ytmikgkelmdgckaa
open Go.ChangeShapes Go.WideShapes Go.ChangeAt Go.RowKit Go.Shelf
set_option linter.unusedVariables false
set_option linter.unusedSimpArgs false
set_option maxRecDepth 100000
attribute [local go_sem] Oper.semAt_some run_store_float
namespace SD
open IN (Keeps lt_of_some)
open SE
open FM (one)

abbrev TF : TypeId := 28
abbrev TLi : TypeId := 30
abbrev TLf : TypeId := 59
theorem und_floats : Try.prog.underlying TLf = some (.slice TF) := by kernel_rfl
theorem wt_any (n : Int) (hn : -20 ≤ n ∧ n ≤ 19) (w : World) : Calls Try.prog 44 #[.int .i64 n] w fun e w' => e = .returned (.tuple #[.float .f64 (wt n), .int .i64 0]) ∧ w = w' := by
  unfold wt
  by_cases h : 0 ≤ n
  · rw [if_pos h]
    obtain ⟨k, rfl⟩ := Int.eq_ofNat_of_zero_le h
    exact weight_dn k (by omega) w
  · rw [if_neg h]
    exact weight_up (-n).toNat (by omega) n (by omega) w
theorem one_new {W : World} {b : Nat} (hb : b = W.heap.size) (v : Value) (T : TypeId) : ∀ j u, [v][j]? = some u → (W.alloc (.cells #[v] T)).cell? ((⟨b, 0, none⟩ : Addr).add j) = some u := by
  subst hb
  exact cell_one_new _ _ _
theorem push_step {V w2 : World} {B b : Nat} {T e : TypeId} {v v' : Value} {n m : Nat} {xs ys : List Value} {o : Obj} {C : Nat} (hb : Blk V b T [v]) (hv : V.ownsRow B e 1 v n xs) (hTe : T ≠ e) (hg : (V.alloc o).grownBy w2 v.ownBlock) (ho : w2.ownsRow B e 1 v' m ys) (hat : v'.ownBlock = v.ownBlock ∨ v'.ownBlock = some (V.alloc o).heap.size) (hCb : C ≤ b) (hCB : C ≤ B) :
    Blk (w2.setCell ⟨b, 0, none⟩ v') b T [v'] ∧ (w2.setCell ⟨b, 0, none⟩ v').ownsRow B e 1 v' m ys ∧ KeepsOthers V (w2.setCell ⟨b, 0, none⟩ v') ∧ Below C V (w2.setCell ⟨b, 0, none⟩ v') ∧ ∀ j, j < V.heap.size → j ≠ b → v.ownBlock ≠ some j → (w2.setCell ⟨b, 0, none⟩ v').heap[j]? = V.heap[j]? := by
  have hbl := hb.lt
  have hvb : v.ownBlock ≠ some b := fun e2 => by
    obtain ⟨cur, hc⟩ := own_obj hv e2
    exact obj_ne hb hc hTe rfl
  have hvb' : v'.ownBlock ≠ some b := by
    intro e2
    rcases hat with h | h
    · exact hvb (h.symm.trans e2)
    · rw [h, World.size_alloc] at e2; cases e2; omega
  have hbA : Below V.heap.size V (V.alloc o) := (Below.refl _ _).alloc (Nat.le_refl _) _
  have hg2 : V.grownBy w2 v.ownBlock := grown_trans hbA hg
  have hb2 : Blk w2 b T [v] := hb.grown hg2 (fun e2 => hvb e2.symm)
  refine ⟨hb2.set 0 v', own_move ho fun k hk => Below.heap_setCell w2 ⟨b, 0, none⟩ v' k (fun e2 => hvb' (by rw [← show k = b from e2]; exact hk)), ?_, ?_, ?_⟩
  · refine ((KeepsOthers.alloc V o).trans (KeepsOthers.of_grownBy hg fun j o' hj ho' => ?_)).trans (KeepsOthers.setCell _ _ _)
    obtain ⟨cur, hc⟩ := own_obj hv hj
    rw [(hbA.block j (lt_of_some hc))] at ho'
    rw [hc] at ho'
    cases ho'
    rfl
  · refine ⟨hg2.os, hg2.tape, hg2.output, by have := hg2.size; simpa [World.setCell] using this, fun k hk => ?_⟩
    rw [Below.heap_setCell w2 ⟨b, 0, none⟩ v' k (by show k ≠ b; omega)]
    refine hg2.block k (by omega) fun e2 => ?_
    have := Own.ge hv k e2.symm
    omega
  · intro j hj hjb hjv
    rw [Below.heap_setCell w2 ⟨b, 0, none⟩ v' j hjb]
    exact hg2.block j hj (fun e2 => hjv e2.symm)
theorem rl_take (P : List Pr) {k : Nat} (hk : k < P.length) : rl (P.take (k + 1)) = rl (P.take k) ++ (if P[k].on = true then [P[k]] else []) := by
  unfold rl
  rw [List.take_add_one, List.getElem?_eq_getElem hk, List.filter_append]
  cases h : P[k].on <;> simp [h]
theorem rl_len (P : List Pr) : (rl P).length ≤ P.length := List.length_filter_le _ _
theorem rpid_len (P : List Pr) : (rpid P).length = (rl P).length := by simp [rpid]
theorem wl_len (P : List Pr) : (wl P).length = (rl P).length := by simp [wl]
/-- Both lists, while they are made. -/
def WI (B b1 b2 : Nat) (Q : List Pr) (V : World) : Prop := ∃ vp vo, Blk V b1 TLi [vp] ∧ V.ownsRow B TI 1 vp (rl Q).length (icl (rpid Q)) ∧ Blk V b2 TLf [vo] ∧ V.ownsRow B TF 1 vo (rl Q).length (fcel (wl Q))
theorem WI.lb {B b1 b2 C : Nat} {Q : List Pr} {V V' : World} (h : WI B b1 b2 Q V) (k : LB C V V') : WI B b1 b2 Q V' := by
  obtain ⟨vp, vo, h1, h2, h3, h4⟩ := h
  refine ⟨vp, vo, k.cel _ _ h1 rfl, own_move h2 fun j hj => ?_, k.cel _ _ h3 rfl, own_move h4 fun j hj => ?_⟩
  · obtain ⟨cur, hc⟩ := own_obj h2 hj
    rw [hc]; exact k.cel _ _ hc rfl
  · obtain ⟨cur, hc⟩ := own_obj h4 hj
    rw [hc]; exact k.cel _ _ hc rfl
theorem bn_of {n0 m : Nat} {V W : World} (hb : Below n0 V W) (hk : KeepsOthers V W) (hm : m ≤ V.heap.size) : BN m (fun k o => n0 ≤ k ∧ o.isCells = true) V W := by
  refine ⟨hm, hk.size, fun j o hj ho hT => ?_, hb.os, hb.tape, hb.output⟩
  rcases Nat.lt_or_ge j n0 with h | h
  · exact (hb.block j h).trans ho
  · cases hc : o.isCells with
    | true => exact absurd ⟨h, hc⟩ hT
    | false => exact hk.same j o ho hc

section
variable {base : Nat} {w : World} {qb nb : Nat} {vr : Value} {vl : Nat → Value} {P : List Pr} {ls : Nat → List Int}
set_option maxRecDepth 100000 in
set_option maxHeartbeats 8000000 in
theorem weights_any (h : QM base w qb nb vr vl P ls) (hlen : P.length ≤ 60000) (hnice : ∀ x ∈ P, -20 ≤ x.nice ∧ x.nice ≤ 19) :
    Calls Try.prog 16 #[ptr qb] w fun e w' => ∃ vp vo, e = .returned (.tuple #[vp, vo]) ∧ w'.ownsRow w.heap.size TI 1 vp (rl P).length (icl (rpid P)) ∧ w'.ownsRow w.heap.size TF 1 vo (rl P).length (fcel (wl P)) ∧ Below w.heap.size w w' := by
  refine wide_fit ?_
  obtain ⟨i0, hi0, hz0, hz1, hz2⟩ := info_parts (show (Try.prog.info? TI).map (fun i => (i.zero, i.size, i.bytes)) = some (some (.int .i64 0), 1, 8) by kernel_rfl)
  obtain ⟨i1, hi1, hy0, hy1, hy2⟩ := info_parts info_f64
  obtain ⟨w1, hw1⟩ : ∃ w1, ((w.alloc (.cells #[.slice none 0 0] TLi)).alloc (.cells #[.slice none 0 0] TLf)).alloc (.cells #[ptr nb] TB) = w1 := ⟨_, rfl⟩
  have hb1 : Below w.heap.size w w1 := by rw [← hw1]; exact (((Below.refl _ _).alloc (Nat.le_refl _) _).alloc (by simp) _).alloc (by simp; omega) _
  have hs1 : w1.heap.size = w.heap.size + 3 := by rw [← hw1]; simp
  have hA1 : Blk w1 w.heap.size TLi [.slice none 0 0] := by rw [← hw1]; exact ((Blk.new w TLi [.slice none 0 0] rfl).alloc _).alloc _
  have hA2 : Blk w1 (w.heap.size + 1) TLf [.slice none 0 0] := by rw [← hw1]; exact (Blk.new _ TLf [.slice none 0 0] (by simp)).alloc _
  have hA3 : Blk w1 (w.heap.size + 2) TB [ptr nb] := by rw [← hw1]; exact Blk.new _ TB [ptr nb] (by simp)
  have c0 := ((h.box.alloc (.cells #[.slice none 0 0] TLi)).alloc (.cells #[.slice none 0 0] TLf)).cell (j := 0) rfl
  obtain ⟨ao, cap, hv⟩ := Own.form h.row
  obtain ⟨n, hn⟩ : ∃ n, P.length = n := ⟨_, rfl⟩
  rw [hn] at hv
  obtain ⟨g, hg⟩ : ∃ g, ∀ b o s, ao = some ⟨b, o, s⟩ → b = g := by
    cases ao with
    | none => exact ⟨0, fun b o s e => by cases e⟩
    | some a => exact ⟨a.block, fun b o s e => by cases e; rfl⟩
  have hall := fun w => all_any nb w
  refine callsIn_of_wp_marks Try.func16 rfl trivial ?_ rfl
  simp only [Try.ntmps16, List.size_toArray, List.length_cons, List.length_nil, Nat.reduceAdd, Nat.reduceSub, Array.replicate_succ, Array.replicate_zero, List.push_toArray, List.append_toArray, List.nil_append, List.cons_append]
  gi_wp2
  refine ⟨trivial, rfl, ?_⟩
  refine (fit_wide (hall _)).mono ?_
  rintro e w2 ⟨rfl, rfl⟩
  have hz : ((w.alloc (.cells #[.slice none 0 0] TLi)).alloc (.cells #[.slice none 0 0] TLf)).heap.size = w.heap.size + 2 := by simp
  rw [hz, show ((w.alloc (.cells #[.slice none 0 0] TLi)).alloc (.cells #[.slice none 0 0] TLf)).alloc (.cells #[ptr nb] TB) = w1 from hw1]
  have hq1 := h.keep hb1
  have hX : ∀ k, QX qb nb vr vl k → k < w.heap.size := h.tlt
  have hbase := h.base_le
  obtain ⟨q, hq⟩ : ∃ q, P.map (fun x => x.pid) = q := ⟨_, rfl⟩
  have hG := all_gives (fun k o => w.heap.size ≤ k ∧ o.isCells = true) (w.heap.size + 2) nb g n cap ao q (by omega)
  clear hw1 c0 hall hz
  gi_wp2
  refine range_givesB (gf := 65) rfl enters_all hG (fun k o h => h.2) (fun _ => rfl)
    (fun k V => k ≤ n ∧ WI w1.heap.size w.heap.size (w.heap.size + 1) (P.take k) V ∧ Blk V (w.heap.size + 2) TB [ptr nb] ∧ Below w.heap.size w V)
    (fun c k V => False)
    (fun k V V' h hb => ⟨h.1, h.2.1.lb hb, h.2.2.1.below hb.bel (by omega), h.2.2.2.trans (bel_mono hb.bel (by omega))⟩)
    (fun c k V V' h hb => h)
    ⟨Nat.zero_le _, ⟨_, _, hA1, World.ownsRow_nil _ _ _ _, hA2, World.ownsRow_nil _ _ _ _⟩, hA3, hb1⟩
    (fun k V h' => (h.keep h'.2.2.2).ai h'.2.2.1 hv hn hg hq)
    (fun m x a' V => a' = { tmps := #[ptr qb, undef, .slice none 0 0, .slice none 0 0, .pointer (some ⟨w.heap.size, 0, none⟩), .pointer (some ⟨w.heap.size + 1, 0, none⟩), .int .i64 (q.getD x 0), .pointer (some ⟨g, x * 4 + 1, none⟩), undef, undef, ptr qb, .pointer (some ⟨qb, 0, none⟩), .pointer (some ⟨qb, 0, none⟩), ptr nb, .func (.func 65) #[] #[ptr (w.heap.size + 2)], .int .i64 (q.getD x 0), .pointer (some ⟨g, x * 4 + 1, none⟩), undef, undef, undef, undef, undef, undef, undef, undef, undef, undef, undef, undef, undef, undef, undef, undef, undef, undef, undef, undef, undef, undef, undef], defers := [] })
    (fun m x a' _ V V' row h hg hr => h)
    ?assign ?body ?done ?stop
  case assign =>
    rintro lq k x V K hsz hI hK
    have hKn := hK _ _ (BN.refl _ (Nat.le_refl _)) hI rfl
    simp only [enc] at hKn ⊢
    obtain ⟨a, ha⟩ : ∃ a, q.getD x 0 = a := ⟨_, rfl⟩
    rw [ha] at hKn ⊢
    gi_wp2
    exact hKn
  case body =>
    rintro lq k x a' m V hx hm hmV ⟨hk, ⟨vp, vo, hp1, hp2, ho1, ho2⟩, hBb, hB⟩ rfl
    obtain ⟨hkn, rfl⟩ : k < n ∧ k = x := by
      obtain ⟨h1, h2⟩ := List.getElem?_eq_some_iff.1 hx
      rw [List.length_range] at h1
      rw [List.getElem_range] at h2
      exact ⟨h1, h2⟩
    have hkP : k < P.length := by omega
    obtain ⟨g', n', cap', hv', hn', -, hnc, hcm, hbg, hgq, hgn, hgl, hfz, e0, e1, e2, e3⟩ := (h.keep hB).opened hkP
    have hgg : g' = g := by
      rw [hv] at hv'
      simp only [Value.slice.injEq] at hv'
      exact hg _ _ _ hv'.1
    subst hgg
    have ha : q.getD k 0 = P[k].pid := by rw [← hq, List.getD_eq_getElem?_getD, List.getElem?_map, List.getElem?_eq_getElem hkP]; rfl
    have hni := hnice P[k] (List.getElem_mem hkP)
    have htk := rl_take P hkP
    have hbs := hB.size
    have hlk : (rl (P.take k)).length ≤ 60000 := by have := rl_len (P.take k); rw [List.length_take] at this; omega
    rw [ha]
    cases hon : P[k].on with
    | false =>
      rw [hon] at e2 htk
      simp only [Bool.not_false] at e2
      have hnext : Hid (BN m (fun k o => w.heap.size ≤ k ∧ o.isCells = true) V V ∧ k + 1 ≤ n ∧ WI w1.heap.size w.heap.size (w.heap.size + 1) (P.take (k + 1)) V ∧ Blk V (w.heap.size + 2) TB [ptr nb] ∧ Below w.heap.size w V) := W_hid
        ⟨BN.refl _ hmV, hkn, ⟨vp, vo, hp1, by unfold rpid; rw [htk]; simpa [rpid] using hp2, ho1, by unfold wl; rw [htk]; simpa [wl] using ho2⟩, hBb, hB⟩
      clear htk hni e0 e1 e3
      gi_wp2
      exact hnext.out
    | true =>
      rw [hon] at e2 htk
      simp only [Bool.not_true, if_true] at e2 htk
      obtain ⟨a, ha2⟩ : ∃ a, P[k].pid = a := ⟨_, rfl⟩
      obtain ⟨nn, hn2⟩ : ∃ a, P[k].nice = a := ⟨_, rfl⟩
      have hr1 : rpid (P.take (k + 1)) = rpid (P.take k) ++ [a] := by unfold rpid; rw [htk, List.map_append, ← ha2]; rfl
      have hr2 : wl (P.take (k + 1)) = wl (P.take k) ++ [wt nn] := by unfold wl; rw [htk, List.map_append, ← hn2]; rfl
      have hr3 : (rl (P.take (k + 1))).length = (rl (P.take k)).length + 1 := by rw [htk]; simp
      rw [ha2]
      rw [hn2] at e1 hni
      have hW := W_hid (fun w => wt_any nn hni w)
      have hc1 := hp1.cell (j := 0) rfl
      obtain ⟨ap, cp, rfl⟩ := Own.form hp2
      obtain ⟨af, cf, rfl⟩ := Own.form ho2
      obtain ⟨N, hN⟩ : ∃ N, (rl (P.take k)).length = N := ⟨_, rfl⟩
      rw [hN] at hp2 ho2 hlk hr3 hp1 ho1 hc1
      gi_wp2
      refine ⟨trivial, rfl, ?_⟩
      refine (fit_wide (hW.out _)).mono ?_
      rintro e Vx ⟨rfl, rfl⟩
      have hV3 : w.heap.size + 3 ≤ V.heap.size := by have := hBb.lt; omega
      have hpn : w.heap.size + 1 ≠ w.heap.size := by omega
      gi_wp2_with (first | (gi_at_builtin; apply Hid.out) | gi_in)
      refine W_hid ?_
      refine wpListIn_append_own_at _ rfl (.tmp 30) (.tmp 32) TLi rfl w1.heap.size TI i0 (.int .i64 0) 1 8 und_ints hi0 hz0 hz1 hz2 rfl (by decide) (.slice ap N cp) N (icl (rpid (P.take k))) rfl (hp2.alloc _) ⟨V.heap.size, 0, none⟩ 1 1 [.int .i64 a] rfl rfl (cell_one_new _ _ _) (icl_one [a]) (by unfold maxLen; omega) (by omega) (by rw [World.size_alloc]; omega) ?_
      intro v2 V2 hown2 hgrow2 _ hat2
      obtain ⟨s1, s2, s3, s4, s5⟩ := push_step (C := w.heap.size) hp1 hp2 (by decide) hgrow2 hown2 hat2 (Nat.le_refl _) (by omega)
      obtain ⟨a2, c2, rfl⟩ := Own.form hown2
      have hb1g := (hp1.alloc (.cells #[.int .i64 a] TI)).grown hgrow2 (fun e => by obtain ⟨cur, hc⟩ := own_obj hp2 e.symm; exact obj_ne hp1 hc (by decide) rfl)
      have f1 := hb1g.fz 0
      have x1 := hb1g.cell (j := 0) rfl
      have ho1' : Blk _ _ _ _ := (s5 (w.heap.size + 1) (by omega) hpn (fun e => by obtain ⟨cur, hc⟩ := own_obj hp2 e; exact obj_ne ho1 hc (by decide) rfl)).trans ho1
      have y1 := ho1'.cell (j := 0) rfl
      replace s1 := W_hid s1
      replace s2 := W_hid s2
      replace s3 := W_hid s3
      replace s4 := W_hid s4
      replace s5 := W_hid s5
      replace ho1' := W_hid ho1'
      replace hb1g := W_hid hb1g
      replace hown2 := W_hid hown2
      replace hgrow2 := W_hid hgrow2
      replace hat2 := W_hid hat2
      have hrow2 : (V2.setCell ⟨w.heap.size, 0, none⟩ (.slice a2 (N + 1) c2)).ownsRow w1.heap.size TF 1 (.slice af N cf) N (fcel (wl (P.take k))) := own_move ho2 fun j hj => by
        obtain ⟨cur, hc⟩ := own_obj ho2 hj
        refine s5.out j (lt_of_some hc) (obj_ne hc hp1 (by decide)) fun e => ?_
        obtain ⟨cur', hc'⟩ := own_obj hp2 e
        exact obj_ne hc hc' (by decide) rfl
      have hszB : V.heap.size ≤ (V2.setCell ⟨w.heap.size, 0, none⟩ (.slice a2 (N + 1) c2)).heap.size := s4.out.size
      have hfl : ∀ u ∈ [Value.float .f64 (wt nn)], u.oneCell' = true := by intro u hu; rw [List.mem_singleton.1 hu]; rfl
      replace hfl := W_hid hfl
      replace hrow2 := W_hid hrow2
      replace hszB := W_hid hszB
      gi_wp2_with (first | (gi_at_builtin; apply Hid.out) | gi_in)
      refine W_hid ?_
      have hszB2 := hszB.out
      refine wpListIn_append_own_at _ rfl (.tmp 34) (.tmp 36) TLf rfl w1.heap.size TF i1 (.float .f64 0) 1 8 und_floats hi1 hy0 hy1 hy2 rfl (by decide) (.slice af N cf) N (fcel (wl (P.take k))) rfl (hrow2.out.alloc _) ⟨V2.heap.size, 0, none⟩ 1 1 [.float .f64 (wt nn)] rfl rfl (one_new (by simp [World.setCell]) _ _) hfl.out (by unfold maxLen; omega) (by omega) (by rw [World.size_alloc]; omega) ?_
      intro v3 V3 hown3 hgrow3 _ hat3
      obtain ⟨t1, t2, t3, t4, t5⟩ := push_step (C := w.heap.size) ho1'.out hrow2.out (by decide) hgrow3 hown3 hat3 (by omega) (by omega)
      obtain ⟨a3, c3, rfl⟩ := Own.form hown3
      have hb2g := (ho1'.out.alloc (.cells #[.float .f64 (wt nn)] TF)).grown hgrow3 (fun e => by obtain ⟨cur, hc⟩ := own_obj hrow2.out e.symm; exact obj_ne ho1'.out hc (by decide) rfl)
      have f2 := hb2g.fz 0
      have x2 := hb2g.cell (j := 0) rfl
      have hp1f : Blk _ _ _ _ := (t5 w.heap.size (by omega) (by omega) (fun e => by obtain ⟨cur, hc⟩ := own_obj hrow2.out e; exact obj_ne s1.out hc (by decide) rfl)).trans s1.out
      have hp2f := own_move s2.out (fun j hj => by
        obtain ⟨cur, hc⟩ := own_obj s2.out hj
        refine t5 j (lt_of_some hc) (obj_ne hc ho1'.out (by decide)) fun e => ?_
        obtain ⟨cur', hc'⟩ := own_obj hrow2.out e
        exact obj_ne hc hc' (by decide) rfl)
      have hBb1 : Blk _ _ _ _ := (s5.out (w.heap.size + 2) (by omega) (by omega) (fun e => by obtain ⟨cur, hc⟩ := own_obj hp2 e; exact obj_ne hBb hc (by decide) rfl)).trans hBb
      have hBf : Blk _ _ _ _ := (t5 (w.heap.size + 2) (by omega) (by omega) (fun e => by obtain ⟨cur, hc⟩ := own_obj hrow2.out e; exact obj_ne hBb1 hc (by decide) rfl)).trans hBb1
      have hBV := (s4.out.trans (bel_mono t4 (Nat.le_refl _)))
      have hend := W_hid (And.intro (bn_of hBV (s3.out.trans t3) hmV) (And.intro hkn (And.intro (show WI w1.heap.size w.heap.size (w.heap.size + 1) (P.take (k + 1)) _ from ⟨_, _, hp1f, by rw [hr1, hr3, icl_app]; exact hp2f, t1, by rw [hr2, hr3, fcel_append]; exact t2⟩) (And.intro hBf (hB.trans hBV)))))
      clear t1 t2 t3 t4 t5 hb2g hp1f hp2f hBV
      gi_wp2
      exact hend.out
  case done =>
    rintro D V hD ⟨hk, ⟨vp, vo, hp1, hp2, ho1, ho2⟩, hBb, hB⟩ hkp hKD
    rw [List.length_range] at hp2 ho2
    obtain rfl : n = P.length := hn.symm
    rw [List.take_of_length_le (Nat.le_refl _)] at hp2 ho2
    have c1 := hp1.cell (j := 0) rfl
    have c2 := ho1.cell (j := 0) rfl
    have hp2d : V.drew.ownsRow w1.heap.size TI 1 vp (rl P).length (icl (rpid P)) := hp2
    have ho2d : V.drew.ownsRow w1.heap.size TF 1 vo (rl P).length (fcel (wl P)) := ho2
    have hKDd : V.drew.heap[D]? = some (.deferred (some [])) := hKD
    have hBd : Below w.heap.size w V.drew := hB.drew
    have hfin : ∀ o, (V.drew.putObj D o).ownsRow w.heap.size TI 1 vp (rl P).length (icl (rpid P)) ∧ (V.drew.putObj D o).ownsRow w.heap.size TF 1 vo (rl P).length (fcel (wl P)) ∧ Below w.heap.size w (V.drew.putObj D o) := fun o => by
      have hlb := lb_put (B := w1.heap.size) o hD hKDd rfl
      refine ⟨own_move (Own.low (by omega) hp2d) fun j hj => ?_, own_move (Own.low (by omega) ho2d) fun j hj => ?_, hBd.trans (bel_mono hlb.bel (by omega))⟩
      · obtain ⟨cur, hc⟩ := own_obj hp2d hj
        rw [hc]; exact hlb.cel _ _ hc rfl
      · obtain ⟨cur, hc⟩ := own_obj ho2d hj
        rw [hc]; exact hlb.cel _ _ hc rfl
    have hfin := W_hid hfin
    obtain ⟨ap, cp, rfl⟩ := Own.form hp2
    obtain ⟨af, cf, rfl⟩ := Own.form ho2
    gi_wp2
    refine SI.region_tail 3 (by kernel_rfl) (by kernel_rfl) ?_
    simp only [List.take_succ_cons, List.take_zero, List.drop_succ_cons, List.drop_zero]
    have c1' : V.drew.cell? ⟨w.heap.size, 0, none⟩ = some (.slice ap (rl P).length cp) := c1
    have c2' : V.drew.cell? ⟨w.heap.size + 1, 0, none⟩ = some (.slice af (rl P).length cf) := c2
    repeat still_step
    refine wpStill_nil ?_
    gi_wp2
    refine ⟨by simp, .inl ⟨_, _, rfl, run_takeDeferred (show V.drew.heap[D]? = _ from hKD), ?_⟩⟩
    exact ⟨_, results_tmp2 rfl _ _ _, _, _, rfl, (hfin.out _).1, (hfin.out _).2.1, (hfin.out _).2.2⟩
  case stop =>
    rintro D c k V hD hlt h hKD
    exact h.elim
end
end SD
end Go.Proofs.Ytmikgkelmdgckaa

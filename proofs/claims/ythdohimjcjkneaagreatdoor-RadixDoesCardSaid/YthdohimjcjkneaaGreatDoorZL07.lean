/- Contracts of the functions of package haywardref01 (the document's own answers for words): what each returns, for all arguments; the world is left as it was. -/
import Derived.Test.YthdohimjcjkneaaGreatDoorZL06
import Derived.Deep.CutRange
import Derived.Test.YthdohimjcjkneaaGreatDoorZL01

/- The document's own tree: Unmap. -/
namespace Go.Proofs.YthdohimjcjkneaaGreatDoor
open Go.ChangeShapes Go.WideShapes Go.ChangeAt Go.RowKit
set_option linter.unusedVariables false
set_option linter.unusedSimpArgs false

/-- The document's loop that gives tables back, ahead of level k. -/
structure UL (w0 W : World) (D : List Nat) (g pg pb n r : Nat) (lv : Value) (L : List RX.Pg) (G : RX.Pags) (va Lv k : Nat) (fr : Nat → Nat) (F' : RX.Tabs) (T' : Nat → Bool) (B rb mb : Nat) : Prop where
  ex : ∃ (F : RX.Tabs) (T : Nat → Bool) (D' : List Nat) (tv : Value) (Tl : List RX.Tb), DM W D' g pg pb n T lv tv L Tl ∧ RX.TB Tl F r ∧ RX.Inv F G r n ∧ Tk F T ∧ RX.UsedBut F G k (va / EN.sz k) ∧ (∀ j, k ≤ j → j ≤ 4 → F j (va / EN.sz j) = some (fr j)) ∧ (∀ j, 1 ≤ j → j < Lv → F j (va / EN.sz j) = none) ∧
    PruneR G va fr k F T F' T' ∧ Tl.length ≤ B ∧ Mv D D' w0 W ∧ mb ∉ D' ∧ rb ∉ D'

theorem Mv.notin {D D' : List Nat} {w w' : World} {x : Nat} (h : Mv D D' w w') (h1 : x ∉ D) (h2 : x < w.heap.size) : x ∉ D' := fun hm => by
  rcases h.own x hm with h3 | h3
  · exact h1 h3
  · omega

theorem UL.keep {w0 W W' : World} {D : List Nat} {g pg pb n r : Nat} {lv : Value} {L : List RX.Pg} {G : RX.Pags} {va Lv k : Nat} {fr : Nat → Nat} {F' : RX.Tabs} {T' : Nat → Bool} {B rb mb : Nat} (h : UL w0 W D g pg pb n r lv L G va Lv k fr F' T' B rb mb) (hb : Below W.heap.size W W') : UL w0 W' D g pg pb n r lv L G va Lv k fr F' T' B rb mb := by
  obtain ⟨F, T, D', tv, Tl, h1, h2, h3, h4, h5, h6, h7, h8, h9, h10, h11, h12⟩ := h.ex
  exact ⟨F, T, D', tv, Tl, h1.keep hb, h2, h3, h4, h5, h6, h7, h8, h9, h10.trans (Mv.of hb), h11, h12⟩

theorem rUnmap_arg (g va : Nat) (w : World) (hva : 140737488355328 ≤ va) :
    Calls Tryz.prog 58 #[.pointer (some ⟨g, 0, none⟩), .int .u64 (va : Int)] w fun e w' => e = .returned (.tuple #[.agg noMap.toArray, .int .i64 2]) ∧ Below w.heap.size w w' := by
  have d1 : decide ((140737488355328 : Int) ≤ (va : Int)) = true := by simp; omega
  have hZ := W_hid (Blk.new w 38 noMap rfl)
  clear hva
  go_enter Tryz.func58, Tryz.ntmps58
  go_wp2
  refine bodyPost_ret (res_map2 Tryz.results58 _ _ rfl hZ.out rfl) rfl ⟨rfl, (Below.refl _ _).alloc (Nat.le_refl _) _⟩

set_option maxRecDepth 100000 in
set_option maxHeartbeats 8000000 in
theorem rUnmap_yes (D : List Nat) (g pg pb n r : Nat) (T T' : Nat → Bool) (lv tv : Value) (L : List RX.Pg) (Tl : List RX.Tb) (F F' : RX.Tabs) (G G' : RX.Pags) (w : World) (h : DM w D g pg pb n T lv tv L Tl) (I : RX.Inv F G r n) (hP : RX.PB L G) (hB : RX.TB Tl F r) (hG : RX.Good F G T n) (hK : Tk F T) (va : Nat) (c : Int) (ml : List Value) (hva : va < 140737488355328) (hR : UnmapR F G T va c ml F' G' T')
    (hTl : Tl.length ≤ 100000) (hLl : L.length ≤ 100000) (hD : ∀ x ∈ D, x < w.heap.size) :
    Calls Tryz.prog 58 #[.pointer (some ⟨g, 0, none⟩), .int .u64 (va : Int)] w fun e w' => e = .returned (.tuple #[.agg ml.toArray, .int .i64 c]) ∧
      ∃ D' lv' tv' L' Tl', DM w' D' g pg pb n T' lv' tv' L' Tl' ∧ RX.PB L' G' ∧ RX.TB Tl' F' r ∧ L'.length ≤ L.length ∧ Tl'.length ≤ Tl.length ∧ Mv D D' w w' := by
  have d1 : decide ((140737488355328 : Int) ≤ (va : Int)) = false := by simp; omega
  have hal : Below w.heap.size w (w.alloc (.cells noMap.toArray 38)) := (Below.refl _ _).alloc (Nat.le_refl _) _
  have h0 := h.keep hal
  have hA := W_hid (at_any D g pg pb n T lv tv L Tl _ h0 va (by omega))
  have hZ0 : Blk (w.alloc (.cells noMap.toArray 38)) w.heap.size 38 noMap := Blk.new w 38 noMap rfl
  have hD := W_hid hD
  cases hR with
  | none hpg =>
    rw [hP.at_none hpg] at hA
    have H0 := W_hid h0
    have hal := W_hid hal
    have hZ0 := W_hid hZ0
    have hP := W_hid hP
    have hB := W_hid hB
    clear hpg h h0 I hG
    go_enter Tryz.func58, Tryz.ntmps58
    go_wp2_with fail
    refine hA.out.mono ?_
    rintro e w1 ⟨rfl, bel⟩
    have hZ1 := hZ0.out.keep bel
    have z0 := hZ1.cell (j := 0) rfl
    have z1 := hZ1.cell (j := 1) rfl
    have z2 := hZ1.cell (j := 2) rfl
    have z3 := hZ1.cell (j := 3) rfl
    have zf := hZ1.fz
    have hZ1 := W_hid hZ1
    have hD1 := W_hid (H0.out.keep bel)
    have bel1 := W_hid (hal.out.trans (bel.mono (by simp)))
    unfold ixI
    clear bel
    go_wp2
    have hZ := (((hZ1.out.set 0 (.int .u64 0)).set 1 (.int .u64 0)).set 2 (.int .i64 0)).set 3 (.bool false)
    have hbut : But [w.heap.size] w1 ((((w1.setCell ⟨w.heap.size, 0, none⟩ (.int .u64 0)).setCell ⟨w.heap.size, 1, none⟩ (.int .u64 0)).setCell ⟨w.heap.size, 2, none⟩ (.int .i64 0)).setCell ⟨w.heap.size, 3, none⟩ (.bool false)) := ((((But.refl _ _).set (.inl (by simp)) _).set (.inl (by simp)) _).set (.inl (by simp)) _).set (.inl (by simp)) _
    refine bodyPost_ret (res_map2 Tryz.results58 _ _ rfl hZ rfl) rfl ⟨rfl, D, lv, tv, L, Tl, hD1.out.but hbut (fun x hx => by have := hD.out x hx; simp; omega), hP.out, hB.out, Nat.le_refl _, Nat.le_refl _, ?_⟩
    exact Mv.of ((((bel1.out.setCell (by simp) _).setCell (by simp) _).setCell (by simp) _).setCell (by simp) _)
  | done Lv f p fr F' T' hd hpg hPr =>
    obtain ⟨i, hi, hil, hLi⟩ := hP.at_some I hpg
    rw [hi] at hA
    obtain ⟨k1, k2, hg⟩ := RX.pg_some hpg
    have hsub := RX.sub_mod va (EN.sz (Lv - 1))
    have hPB' := W_hid (RX.PB.cut I hP hil ⟨k1, k2⟩ hg (by rw [hLi, hsub]))
    have hlowF : ∀ j, 1 ≤ j → j < Lv → F j (va / EN.sz j) = none := fun j h1 h2 => RX.desc_below I hd j h1 h2
    have hUB := RX.good_strike hG.used Lv (va / EN.sz (Lv - 1))
    rw [RX.sz_down va Lv hd.l1] at hUB
    have hI' := RX.inv_strike I Lv (va / EN.sz (Lv - 1))
    have hstart := W_hid (fun (W : World) (D' : List Nat) (lv' : Value) (rb mb : Nat) (hDM : DM W D' g pg pb n T lv' tv (RX.cutAt L i) Tl) (hm : Mv D D' w W) (q1 : mb ∉ D') (q2 : rb ∉ D') => (show UL w W D g pg pb n r lv' (RX.cutAt L i) (RX.updG G Lv (va / EN.sz (Lv - 1)) none) va Lv Lv fr F' T' Tl.length rb mb from ⟨F, T, D', tv, Tl, hDM, hB, hI', hK, hUB, hd.on, hlowF, hPr, Nat.le_refl _, hm, q1, q2⟩))
    have H0 := W_hid h0
    have hmo := Own.make_room Tryz.underlying43 info_pg L.length (L.length : Int) rfl (by omega) (by omega)
    obtain ⟨X, hmk, hmo⟩ := hmo
    have hwr : IntKind.i64.wrap ((i : Int) + 1) = (i : Int) + 1 := IntWalk.i64_in _ (by omega)
    have hi2 : (i : Int) < L.length := by omega
    have hi3 : (i : Int) + 1 ≤ L.length := by omega
    have hcut : Hid ([] ++ (pcl L).take (i * 4) ++ (pcl L).drop ((i + 1) * 4) = pcl (RX.cutAt L i) ∧ 0 + i + (L.length - (i + 1)) = (RX.cutAt L i).length) := by
      refine ⟨?_, by rw [RX.cutAt_length L i hil]; omega⟩
      unfold pcl RX.cutAt
      rw [flat_take pgc 4 pgc_len, flat_drop pgc 4 pgc_len, List.flatMap_append, List.nil_append]
    have hsubl : Hid (∀ x ∈ RX.cutAt L i, x.1 < 140737488355328 ∧ x.2.1 < 68719476736) := W_hid (fun x hx => h.llt x ((RX.cutAt_sub L i).subset hx))
    have hone := W_hid (pgc_one L)
    have hlen := W_hid (RX.cutAt_length L i hil)
    obtain ⟨q, hq⟩ : ∃ q, q = va - va % EN.sz (Lv - 1) := ⟨_, rfl⟩
    rw [← hq] at hLi ⊢
    obtain ⟨hu, hhu⟩ : ∃ hu, hu = decide (Lv = 2) := ⟨_, rfl⟩
    rw [← hhu] at hLi ⊢
    have hal := W_hid hal
    have hZ0 := W_hid hZ0
    have hl1 := hd.l1
    have hva' := W_hid hva
    replace hmo := W_hid hmo
    clear hpg h h0 I hG hP hi hg hsub hd hlowF hUB hI' hPr hB hK hq hhu hva
    go_enter Tryz.func58, Tryz.ntmps58
    go_wp2_with fail
    refine hA.out.mono ?_
    rintro e w1 ⟨rfl, bel⟩
    have hD1 := H0.out.keep bel
    obtain ⟨b, o, cap, rfl, hc1, hc2, t0, t1, t2, t3, l0, l1⟩ := hD1.page hil
    rw [hLi] at t0 t1 t2 t3 l0 l1
    simp only at t0 t1 t2 t3 l0 l1
    have c1 := hD1.c1
    have hZ1 := W_hid (hZ0.out.keep bel)
    have bel1 := W_hid (hal.out.trans (bel.mono (by simp)))
    have hD1 := W_hid hD1
    unfold maxLen at hc2
    unfold ixI
    clear bel hA H0 hal hZ0
    go_upto_region 7 with fail
    refine wp_world (fun W => DM W D g pg pb n T (.slice (some ⟨b, o, none⟩) L.length cap) tv L Tl ∧ Blk W w.heap.size 38 noMap ∧ Blk W w1.heap.size 38 (mapL q f p hu) ∧ Below w.heap.size w W ∧ w.heap.size < w1.heap.size ∧ W.heap.size = w1.heap.size + 1) ⟨hD1.out.keep ((Below.refl _ _).alloc (Nat.le_refl _) _), hZ1.out.alloc _, Blk.new w1 _ _ rfl, bel1.out.alloc bel1.out.size _, hZ1.out.lt, by simp⟩ ?_
    rintro W ⟨hD2, hZ2, hM2, bel2, hrm, hWs⟩
    clear t0 t1 t2 t3 l0 l1 c1 hZ1 hD1 bel1
    have hHi := src_take hD2.lo rfl i (by omega)
    have hlo := hD2.lo
    have hgl := hD2.box.lt
    have hbl := own_lt hD2.lo b rfl
    have x2 := hD2.c1
    have xa : ∀ ob, (W.alloc ob).cell? ⟨g, 1, none⟩ = some (.slice (some ⟨b, o, none⟩) L.length cap) := fun ob => (hD2.box.alloc ob).cell rfl
    obtain ⟨ad, hrlo, had1, had2⟩ := run_lo Tryz.underlying43 elem_pg info_pg b o L.length cap (i + 1) ((i : Int) + 1) (by omega) (by omega) hc1
    have hrhi := run_hi Tryz.underlying43 elem_pg info_pg (some ⟨b, o, none⟩) L.length cap i (by omega) hc1 (.inr ⟨_, _, rfl⟩)
    have hLo := src_drop hlo (i + 1) (by omega) ad (cap - (i + 1)) had2
    have A1 : Hid ((W.alloc X).drew.ownsRow W.heap.size 38 4 (.slice (some ⟨W.heap.size, 0, none⟩) 0 L.length) 0 []) := W_hid (hmo.out W W.heap.size (Nat.le_refl _))
    have S1 := W_hid (hHi.keep (((Below.refl W.heap.size W).alloc (Nat.le_refl _) X).drew))
    have S2 := W_hid (hLo.keep (((Below.refl W.heap.size W).alloc (Nat.le_refl _) X).drew))
    have hone1 : Hid (∀ u ∈ (pcl L).take (i * 4), u.oneCell' = true) := W_hid (fun u hu => hone.out u (List.mem_of_mem_take hu))
    have hone2 : Hid (∀ u ∈ (pcl L).drop ((i + 1) * 4), u.oneCell' = true) := W_hid (fun u hu => hone.out u (List.mem_of_mem_drop hu))
    have hbg : Hid (b < W.heap.size ∧ g < W.heap.size) := W_hid ⟨hbl, hgl⟩
    obtain ⟨adb, ado, ads⟩ := ad
    simp only at had1
    obtain rfl := had1.symm
    have hend := W_hid (fun (w3 : World) (v3 : Value) (hb : Below W.heap.size W w3) (ho : w3.ownsRow W.heap.size 38 4 v3 (RX.cutAt L i).length (pcl (RX.cutAt L i))) => hD2.newL hb ho hsubl.out)
    have HD2 := W_hid hD2
    have HZ2 := W_hid hZ2
    have HM2 := W_hid hM2
    replace bel2 := W_hid bel2
    replace hrm := W_hid hrm
    replace hWs := W_hid hWs
    obtain ⟨N, hN⟩ : ∃ N, L.length = N := ⟨_, rfl⟩
    have hcut2 := hcut.out
    rw [hN] at hmk hrlo hrhi hi2 hi3 hc1 x2 xa hil hLl A1 S2 hcut2 ⊢
    have hcut2 := W_hid hcut2
    replace hN := W_hid hN
    clear hHi hlo hgl hbl had2 hLo hmo hone hD2 hZ2 hM2 hsubl hcut
    go_cut [] from 27 to 50 (fun wc => ∃ (D' : List Nat) (lv' : Value), DM wc D' g pg pb n T lv' tv (RX.cutAt L i) Tl ∧ Mv D D' w wc ∧ Blk wc w.heap.size 38 noMap ∧ Blk wc w1.heap.size 38 (mapL q f p hu) ∧ w1.heap.size ∉ D' ∧ w.heap.size ∉ D' ∧ w.heap.size < w1.heap.size ∧ w1.heap.size < wc.heap.size)
    case first =>
      rename_i J1 K1 hJ1 hK1
      go_region_law (first
        | (refine Own.step_app rfl (.tmp 33) (.tmp 39) 43 rfl Tryz.underlying43 info_pg (.slice (some ⟨W.heap.size, 0, none⟩) 0 N) (.slice (some ⟨b, o, none⟩) i cap) rfl rfl A1.out (by simp) S1.out hone1.out (by unfold maxLen; omega) (by omega) ?_
           intro v2 w2 ho2 hg2 hob2
           have A2 := W_hid ho2
           have S3 := W_hid (Own.Src.grown S2.out hg2 (fun ad n c e _ => by simp only [Value.slice.injEq, Option.some.injEq] at e; have := hbg.out; obtain ⟨rfl, -, -⟩ := e; simp [Value.ownBlock]; omega))
           have x2b : w2.cell? ⟨g, 1, none⟩ = some (.slice (some ⟨b, o, none⟩) N cap) := Own.cellg hg2 (xa X) (by have := hbg.out; simp [Value.ownBlock]; omega)
           have B2 := W_hid ((((Below.refl W.heap.size W).alloc (Nat.le_refl _) X).drew).grown hg2 (by simp) (fun j hj => Own.ge A1.out j hj))
           clear ho2 hg2 hob2)
        | (refine Own.step_app rfl (.tmp 40) (.tmp 47) 43 rfl Tryz.underlying43 info_pg v2 (.slice (some ⟨b, ado, ads⟩) (N - (i + 1)) (cap - (i + 1))) rfl rfl A2.out B2.out.size S3.out hone2.out (by unfold maxLen; omega) (by omega) ?_
           intro v3 w3 ho3 hg3 hob3
           obtain ⟨a3, c3, rfl⟩ := Own.form ho3
           have B3 := W_hid (B2.out.grown hg3 B2.out.size (fun k h => Own.ge A2.out k h))
           have A3 := W_hid ho3
           have bx3 := HD2.out.box.below B3.out hbg.out.2
           have x3b := bx3.cell (j := 1) rfl
           have f3b := bx3.fz
           clear ho3 hg3 hob3 bx3))
      all_goals
        refine hK1 _ _ (Met.intro (hJ1 _ _ ?_))
        repeat apply Exists.intro
        refine ⟨?rel, rfl⟩
        case rel =>
          have ho3 := A3.out
          have e2 := hcut2.out.2
          rw [hcut2.out.1] at ho3
          simp only [Nat.zero_add] at ho3 e2
          rw [e2] at ho3
          rw [e2]
          obtain ⟨D', hD', hM'⟩ := hend.out w3 _ B3.out ho3
          have hrm := hrm.out
          have hWs := hWs.out
          have hnD : ∀ x, w.heap.size ≤ x → x < W.heap.size → x ∉ D' := fun x h1 h2 => hM'.notin (fun hm => by have := hD.out x hm; omega) h2
          have q1 := hnD w1.heap.size (by omega) (by omega)
          have q2 := hnD w.heap.size (by omega) (by omega)
          have hbut : But D W _ := hM'.but
          exact ⟨D', _, hD', (Mv.of bel2.out).trans hM', HZ2.out.but hbut (fun hm => by have := hD.out _ hm; omega), HM2.out.but hbut (fun hm => by have := hD.out _ hm; omega), q1, q2, hrm, by have := hM'.but.size; omega⟩
    case rest =>
      obtain ⟨D', lv', hDc, hMc, hZc, hMpc, q1, q2, hrm', hml⟩ := hcut
      have hU := W_hid (hstart.out wc D' lv' w.heap.size w1.heap.size hDc hMc q1 q2)
      have hZc := W_hid hZc
      have hMpc := W_hid hMpc
      clear A1 S1 S2 hone1 hone2 hend HD2 HZ2 HM2 bel2 hcut2 hmk hrlo hrhi x2 xa hwr hDc hMc q1 q2 hstart
      obtain ⟨Gc, hGc⟩ : ∃ Gc, Gc = RX.updG G Lv (va / EN.sz (Lv - 1)) none := ⟨_, rfl⟩
      rw [← hGc] at hU hPB'
      replace hGc := W_hid hGc
      obtain ⟨Lc, hLc⟩ : ∃ Lc, Lc = RX.cutAt L i := ⟨_, rfl⟩
      rw [← hLc] at hU hPB' hlen
      replace hLc := W_hid hLc
      obtain ⟨mb, hmb⟩ : ∃ mb, mb = w1.heap.size := ⟨_, rfl⟩
      rw [← hmb] at hU hMpc hrm' hml
      replace hmb := W_hid hmb
      go_wp2_with fail
      go_loopw [8] (fun x wr => ∃ t k : Nat, 1 ≤ t ∧ t ≤ 4 ∧ x = .int .i64 (t : Int) ∧ ((t < Lv ∧ k = Lv) ∨ (Lv ≤ t ∧ k = t)) ∧ Hid (UL w wr D g pg pb n r lv' Lc Gc va Lv k fr F' T' Tl.length w.heap.size mb) ∧ Hid (Blk wr w.heap.size 38 noMap) ∧ Hid (Blk wr mb 38 (mapL q f p hu)) ∧ Hid (w.heap.size < mb ∧ mb < wr.heap.size)) (fun x _ => 4 - (intOf x).toNat)
      case atStart => exact ⟨1, Lv, Nat.le_refl _, by omega, rfl, by omega, hU, hZc, hMpc, W_hid ⟨hrm', hml⟩⟩
      case round =>
        clear hU hZc hMpc
        obtain ⟨t, k, ht1, ht4, rfl, hk, hU, hZ, hM, hrb2⟩ := hrel
        obtain ⟨Fk, Tq, D2, tv2, Tl2, hDM, hTB, hI, hTk, hUB, hon, hlow, hPr, hlen2, hMv, p1, p2⟩ := hU.out
        by_cases ht3 : t ≤ 3
        · have hT := W_hid (table_any D2 g pg pb n Tq lv' tv2 Lc Tl2 wr hDM t va ht1 ht4 (by have := hva'.out; omega))
          by_cases hc : t < Lv
          · obtain rfl : k = Lv := by omega
            rw [hTB.no (hlow t ht1 hc)] at hT
            clear hDM hTB hI hTk hUB hon hlow hPr hMv
            go_wp2_with fail
            refine hT.out.mono ?_
            rintro e w4 ⟨rfl, q', rfl⟩
            have bel4 := W_hid (below_drewN (Below.refl wr.heap.size wr) q')
            unfold ixI
            go_wp2_with fail
            go_roundw
            case rel => exact ⟨t + 1, k, by omega, by omega, by go_num, by omega, W_hid (hU.out.keep bel4.out), W_hid (hZ.out.keep bel4.out), W_hid (hM.out.keep bel4.out), hrb2⟩
            case measure => simp [intOf]; omega
          · obtain rfl : k = t := by omega
            have hFt := hon k (Nat.le_refl _) (by omega)
            obtain ⟨ix, hix, hixl, hTe⟩ := hTB.yes hFt
            rw [hix] at hT
            have hfl := (hI.lev hFt).2.2.2
            have hn2 := hI.n2
            have hTt := hTk _ _ _ hFt
            have hnext := RX.prune_next hI ht1 ht3 hUB hFt hPr
            have hus := RX.used_iff hI hPB'.out hUB ht3 hFt
            have hfr0 := hDM.tlt _ (List.getElem_mem hixl)
            rw [hTe] at hfr0
            have hUs := W_hid (fun w h => used_any D2 g pg pb n Tq lv' tv2 Lc Tl2 w h (fr k) k (va / EN.sz k * EN.sz k) ht1 ht4 hfr0.2.2.2)
            have hDr := W_hid (fun w h => drop_any D2 g pg pb n Tq lv' tv2 Lc Tl2 w h ix (fr k) k _ hixl hTe hfl hTt (by omega))
            have hixI : (ix : Int) < Tl2.length := by omega
            have HDM := W_hid hDM
            cases hany : Lc.any (RX.inT (va / EN.sz k * EN.sz k) k) with
            | true =>
              rw [hany] at hus hUs
              have hPr2 : Hid (RX.UsedBut Fk Gc (k + 1) (va / EN.sz (k + 1)) ∧ PruneR Gc va fr (k + 1) Fk Tq F' T') := by
                rcases hnext with ⟨-, h2, h3⟩ | ⟨h1, -⟩
                · exact ⟨h2, h3⟩
                · exact absurd (hus.1 rfl) h1
              have hfin := W_hid (fun (W2 : World) (hb : Below wr.heap.size wr W2) => (show UL w W2 D g pg pb n r lv' Lc Gc va Lv (k + 1) fr F' T' Tl.length w.heap.size mb from ⟨Fk, Tq, D2, tv2, Tl2, hDM.keep hb, hTB, hI, hTk, hPr2.out.1, fun j h1 h2 => hon j (by omega) h2, hlow, hPr2.out.2, hlen2, hMv.trans (Mv.of hb), p1, p2⟩))
              clear hDM hTB hI hTk hUB hon hlow hPr hMv hnext hus hU hany hDr hPr2
              go_wp2_with fail
              refine hT.out.mono ?_
              rintro e w4 ⟨rfl, q', rfl⟩
              have bel4 := W_hid (below_drewN (Below.refl wr.heap.size wr) q')
              have HD4 := HDM.out.keep bel4.out
              have c2 := HD4.c2
              obtain ⟨b2, o2, cap2, rfl, e1, e2, t0, t1, t2, l0, l1, l2, l3⟩ := HD4.tab hixl
              rw [hTe] at t0 t1 t2
              simp only at t0 t1 t2
              unfold maxLen at e2
              have hUs := W_hid (hUs.out _ HD4)
              unfold ixI
              clear HD4
              go_wp2_with fail
              refine hUs.out.mono ?_
              rintro e w5 ⟨rfl, bel5⟩
              have bel6 := W_hid (bel4.out.trans (bel5.mono bel4.out.size))
              clear bel5
              go_wp2_with fail
              go_roundw
              case rel => exact ⟨k + 1, k + 1, by omega, by omega, by go_num, by omega, W_hid (hfin.out _ bel6.out), W_hid (hZ.out.keep bel6.out), W_hid (hM.out.keep bel6.out), W_hid ⟨hrb2.out.1, Nat.lt_of_lt_of_le hrb2.out.2 bel6.out.size⟩⟩
              case measure => simp [intOf]; omega
            | false =>
              rw [hany] at hus hUs
              have hPr2 : RX.Inv (RX.updF Fk k (va / EN.sz k) none) Gc r n ∧ RX.UsedBut (RX.updF Fk k (va / EN.sz k) none) Gc (k + 1) (va / EN.sz (k + 1)) ∧ PruneR Gc va fr (k + 1) (RX.updF Fk k (va / EN.sz k) none) (FR.st Tq (fr k) 1 false) F' T' := by
                rcases hnext with ⟨h1, -⟩ | ⟨-, h2⟩
                · have := hus.2 h1; cases this
                · exact h2
              have hTB2 := hTB.cut hixl hTe (by omega)
              have hTk2 := tk_drop hI hTk hFt
              have hml2 := hrb2.out
              have hfin := W_hid (fun (W2 : World) (D3 : List Nat) (tv3 : Value) (hd3 : DM W2 D3 g pg pb n (FR.st Tq (fr k) 1 false) lv' tv3 Lc (RX.cutAt Tl2 ix)) (hm3 : Mv D2 D3 wr W2) => (show UL w W2 D g pg pb n r lv' Lc Gc va Lv (k + 1) fr F' T' Tl.length w.heap.size mb from
                ⟨_, _, D3, tv3, _, hd3, hTB2, hPr2.1, hTk2, hPr2.2.1, fun j h1 h2 => by rw [RX.updF_ne (by omega)]; exact hon j (by omega) h2, fun j h1 h2 => by rw [RX.updF_ne (by omega)]; exact hlow j h1 h2, hPr2.2.2, by rw [RX.cutAt_length _ _ hixl]; omega, hMv.trans hm3, hm3.notin p1 hml2.2, hm3.notin p2 (by omega)⟩))
              replace p1 := W_hid p1
              replace p2 := W_hid p2
              clear hDM hTB hI hTk hUB hon hlow hPr hMv hnext hus hU hany hPr2 hTB2 hTk2 hml2
              go_wp2_with fail
              refine hT.out.mono ?_
              rintro e w4 ⟨rfl, q', rfl⟩
              have bel4 := W_hid (below_drewN (Below.refl wr.heap.size wr) q')
              have HD4 := HDM.out.keep bel4.out
              have c2 := HD4.c2
              obtain ⟨b2, o2, cap2, rfl, e1, e2, t0, t1, t2, l0, l1, l2, l3⟩ := HD4.tab hixl
              rw [hTe] at t0 t1 t2
              simp only at t0 t1 t2
              unfold maxLen at e2
              have hUs := W_hid (hUs.out _ HD4)
              unfold ixI
              clear HD4
              go_wp2_with fail
              refine hUs.out.mono ?_
              rintro e w5 ⟨rfl, bel5⟩
              have bel6 := W_hid (bel4.out.trans (bel5.mono bel4.out.size))
              have hDr := W_hid (hDr.out w5 (HDM.out.keep bel6.out))
              clear bel5
              go_wp2_with fail
              refine hDr.out.mono ?_
              rintro e w7 ⟨rfl, D3, tv3, hd3, hm3⟩
              have hU7 := W_hid (hfin.out w7 D3 tv3 hd3 ((Mv.of bel6.out).trans hm3))
              have hZ7 := W_hid ((hZ.out.keep bel6.out).but hm3.but p2.out)
              have hM7 := W_hid ((hM.out.keep bel6.out).but hm3.but p1.out)
              have hr7 : Hid (w.heap.size < mb ∧ mb < w7.heap.size) := W_hid ⟨hrb2.out.1, Nat.lt_of_lt_of_le hrb2.out.2 (Nat.le_trans bel6.out.size hm3.but.size)⟩
              clear hd3 hm3
              go_wp2_with fail
              go_roundw
              case rel => exact ⟨k + 1, k + 1, by omega, by omega, by go_num, by omega, hU7, hZ7, hM7, hr7⟩
              case measure => simp [intOf]; omega
        · obtain rfl : t = 4 := by omega
          obtain rfl : k = 4 := by omega
          have hFT : F' = Fk ∧ T' = Tq := by
            cases hPr with
            | top => exact ⟨rfl, rfl⟩
            | stay hk => omega
            | drop hk => omega
          obtain ⟨rfl, rfl⟩ := hFT
          have hM9 : Blk wr w1.heap.size 38 (mapL q f p hu) := by rw [← hmb.out]; exact hM.out
          have m0 := hM9.cell (j := 0) rfl
          have m1 := hM9.cell (j := 1) rfl
          have m2 := hM9.cell (j := 2) rfl
          have m3 := hM9.cell (j := 3) rfl
          clear hM9
          have z0 := hZ.out.cell (j := 0) rfl
          have z1 := hZ.out.cell (j := 1) rfl
          have z2 := hZ.out.cell (j := 2) rfl
          have z3 := hZ.out.cell (j := 3) rfl
          have zf := hZ.out.fz
          have hne : ¬ w.heap.size = w1.heap.size := by have := hrb2.out; have := hmb.out; omega
          have hne2 : ¬ w1.heap.size = w.heap.size := Ne.symm hne
          have HDM := W_hid hDM
          have hMv := W_hid hMv
          have hTB := W_hid hTB
          replace p2 := W_hid p2
          clear hDM hI hTk hUB hon hlow hPr
          go_wp2
          have hbut : But [w.heap.size] wr ((((wr.setCell ⟨w.heap.size, 0, none⟩ (.int .u64 (q : Int))).setCell ⟨w.heap.size, 1, none⟩ (.int .u64 (f : Int))).setCell ⟨w.heap.size, 2, none⟩ (.int .i64 p)).setCell ⟨w.heap.size, 3, none⟩ (.bool hu)) := ((((But.refl _ _).set (.inl (by simp)) _).set (.inl (by simp)) _).set (.inl (by simp)) _).set (.inl (by simp)) _
          have hZ9 := (((hZ.out.set 0 (.int .u64 (q : Int))).set 1 (.int .u64 (f : Int))).set 2 (.int .i64 p)).set 3 (.bool hu)
          have hP9 := hPB'.out
          rw [hGc.out] at hP9
          refine bodyPost_ret (res_map2 Tryz.results58 _ _ rfl hZ9 rfl) rfl ⟨rfl, D2, lv', tv2, Lc, Tl2, HDM.out.but hbut (fun x hx hm => by simp only [List.mem_singleton] at hm; subst hm; exact p2.out hx), hP9, hTB.out, by have := hlen.out; omega, hlen2, ⟨(((hMv.out.but.set (.inr (Nat.le_refl _)) _).set (.inr (Nat.le_refl _)) _).set (.inr (Nat.le_refl _)) _).set (.inr (Nat.le_refl _)) _, hMv.out.own⟩⟩
end Go.Proofs.YthdohimjcjkneaaGreatDoor

namespace Go.Proofs.YthdohimjcjkneaaGreatDoor
open Go.ChangeShapes Go.WideShapes Go.ChangeAt Go.RowKit
set_option linter.unusedVariables false

set_option maxRecDepth 100000 in
set_option maxHeartbeats 400000 in
theorem rbit_any (x i : Nat) (hx : x < 18446744073709551616) (hi : i < 64) (w : World) :
    Calls Tryz.prog 125 #[.int .u64 x, .int .i64 i] w fun e w' => e = .returned (.int .u64 ((WM.bit x i : Nat) : Int)) ∧ w = w' := by
  have hs := W_hid (and_one x i hx)
  go_enter Tryz.func125, Tryz.ntmps125
  go_wp2
  go_ret
  exact ⟨ret_u64 hs.out, rfl⟩

set_option maxRecDepth 100000 in
set_option maxHeartbeats 400000 in
theorem right_yes (lo n : Nat) (h : lo + n ≤ 64) (w : World) :
    Calls Tryz.prog 172 #[.int .i64 lo, .int .i64 n] w fun e w' => e = .returned (.bool true) ∧ w = w' := by
  have h1 : (0 : Int) ≤ (lo : Int) := by omega
  have h2 : (0 : Int) ≤ (n : Int) := by omega
  have h4 : decide ((lo : Int) ≤ 64) = true := by simp; omega
  have h3 : decide ((n : Int) ≤ 64 - (lo : Int)) = true := by simp; omega
  go_enter Tryz.func172, Tryz.ntmps172
  go_wp2
  go_ret
  exact ⟨rfl, rfl⟩

set_option maxRecDepth 100000 in
set_option maxHeartbeats 400000 in
theorem right_no (lo n : Int) (h : ¬ (0 ≤ lo ∧ 0 ≤ n ∧ n ≤ 64 - lo)) (w : World) :
    Calls Tryz.prog 172 #[.int .i64 lo, .int .i64 n] w fun e w' => e = .returned (.bool false) ∧ w = w' := by
  by_cases c1 : 0 ≤ lo
  · by_cases c2 : 0 ≤ n
    · by_cases c5 : lo ≤ 64
      · have c3 : decide (n ≤ 64 - lo) = false := by simp; omega
        clear h
        go_enter Tryz.func172, Tryz.ntmps172
        go_wp2
        go_ret
        exact ⟨rfl, rfl⟩
      · have c3 : decide (lo ≤ 64) = false := by simp; omega
        clear h c5
        go_enter Tryz.func172, Tryz.ntmps172
        go_wp2
        go_ret
        exact ⟨rfl, rfl⟩
    · have c4 : decide (0 ≤ n) = false := by simp; omega
      clear h c2
      go_enter Tryz.func172, Tryz.ntmps172
      go_wp2
      go_ret
      exact ⟨rfl, rfl⟩
  · have c4 : decide (0 ≤ lo) = false := by simp; omega
    clear h c1
    go_enter Tryz.func172, Tryz.ntmps172
    go_wp2
    go_ret
    exact ⟨rfl, rfl⟩

set_option maxRecDepth 100000 in
set_option maxHeartbeats 400000 in
theorem rtake_no (x lo n : Int) (h : ¬ (0 ≤ lo ∧ 0 ≤ n ∧ n ≤ 64 - lo)) (w : World) :
    Calls Tryz.prog 124 #[.int .u64 x, .int .i64 lo, .int .i64 n] w fun e w' => e = .returned (.tuple #[.int .u64 0, .int .i64 2]) ∧ w = w' := by
  have hh := W_hid h
  clear h
  go_enter Tryz.func124, Tryz.ntmps124
  go_wp2_with (go_at_call 172; refine (right_no lo n hh.out _).mono ?_; rintro e w' ⟨rfl, rfl⟩)
  go_ret2
  exact ⟨rfl, rfl⟩

theorem rtake_step (x lo k : Nat) (h : lo + k < 64) :
    IntKind.u64.wrap (((WM.take x lo k : Nat) : Int) + IntKind.u64.wrap (((WM.bit x (lo + k) : Nat) : Int) * 2 ^ k)) = ((WM.take x lo (k + 1) : Nat) : Int) := by
  have e2 : ∀ k : Nat, ((2 : Int) ^ k) = ((2 ^ k : Nat) : Int) := by intro k; simp
  have h1 : WM.take x lo (k + 1) = WM.take x lo k + WM.bit x (lo + k) * 2 ^ k := by
    unfold WM.take; rw [WM.mod_succ, WM.bit_add]
  have h2 := WM.take_lt x lo (k + 1)
  have h3 : 2 ^ (k + 1) ≤ 2 ^ 64 := Nat.pow_le_pow_right (by decide) (by omega)
  rw [e2, ← Int.natCast_mul, wrap_in _ (by simp at h3; omega), ← Int.natCast_add, wrap_in _ (by simp at h3; omega), h1]

set_option maxRecDepth 100000 in
set_option maxHeartbeats 400000 in
theorem rtake_yes (x lo n : Nat) (hx : x < 18446744073709551616) (h : lo + n ≤ 64) (w : World) :
    Calls Tryz.prog 124 #[.int .u64 x, .int .i64 lo, .int .i64 n] w fun e w' => e = .returned (.tuple #[.int .u64 ((WM.take x lo n : Nat) : Int), .int .i64 0]) ∧ w = w' := by
  go_enter Tryz.func124, Tryz.ntmps124
  go_wp2_with (go_at_call 172; refine (right_yes lo n h _).mono ?_; rintro e w' ⟨rfl, rfl⟩)
  go_loop [9, 10] (fun o i => ∃ k : Nat, k ≤ n ∧ i = .int .i64 k ∧ o = .int .u64 ((WM.take x lo k : Nat) : Int)) (fun _ i => (n - intOf i).toNat)
  case atStart => exact ⟨0, by omega, rfl, by unfold WM.take; simp [Nat.mod_one]⟩
  case round =>
    obtain ⟨k, hk, rfl, rfl⟩ := hrel
    by_cases hlt : k < n
    · have hs := W_hid (rtake_step x lo k (by omega))
      go_wp2_with (go_at_call 125; refine (rbit_any x (lo + k) hx (by omega) _).mono ?_; rintro e w' ⟨rfl, rfl⟩)
      go_round
      case rel => exact ⟨k + 1, by omega, by go_num, by rw [hs.out]⟩
      case measure => simp [intOf]; omega
    · have h64 : Hid (k = n) := (by omega : k = n)
      go_wp2
      go_ret2
      exact ⟨by rw [h64.out]; rfl, rfl⟩

theorem rput_step (x lo n v k : Nat) (h : k < 64) :
    IntKind.u64.wrap (((WM.sum (WM.putBit x lo n v) k : Nat) : Int) + IntKind.u64.wrap (((WM.putBit x lo n v k : Nat) : Int) * 2 ^ k)) = ((WM.sum (WM.putBit x lo n v) (k + 1) : Nat) : Int) := by
  have e2 : ∀ k : Nat, ((2 : Int) ^ k) = ((2 ^ k : Nat) : Int) := by intro k; simp
  have h1 : WM.sum (WM.putBit x lo n v) (k + 1) = WM.sum (WM.putBit x lo n v) k + WM.putBit x lo n v k * 2 ^ k := rfl
  have h2 := WM.sum_lt (WM.putBit x lo n v) (WM.putBit_lt x lo n v) (k + 1)
  have h3 : 2 ^ (k + 1) ≤ 2 ^ 64 := Nat.pow_le_pow_right (by decide) (by omega)
  rw [e2, ← Int.natCast_mul, wrap_in _ (by simp at h3; omega), ← Int.natCast_add, wrap_in _ (by simp at h3; omega), h1]

/-- The bits of v from n on, from k on, are clear. -/
def Clear (v n k : Nat) : Prop := ∀ i, n ≤ i → i < k → WM.bit v i = 0

/-- What the two roads of the first loop come to. -/
def PutEnds (x lo n v : Nat) (e : Ending) : Prop :=
  (v < 2 ^ n → e = .returned (.tuple #[.int .u64 ((WM.put x lo n v : Nat) : Int), .int .i64 0])) ∧ (¬ v < 2 ^ n → e = .returned (.tuple #[.int .u64 0, .int .i64 2]))

theorem put_ends_high {x lo n v i : Nat} (h1 : n ≤ i) (h2 : WM.bit v i = 1) : PutEnds x lo n v (.returned (.tuple #[.int .u64 0, .int .i64 2])) :=
  ⟨fun h => by have := WM.high_bit v n i h h1; omega, fun _ => rfl⟩

end Go.Proofs.YthdohimjcjkneaaGreatDoor

/- Regions that draw their order and end in one operation that waits for all others (a store behind its phase): what the others read may be spoilt by that last one. Free of any program. -/
import Derived.Test.YtigbjhmodpplbaaGreatDoorZK02
import Derived.Deep.CutRange
import Derived.Test.YtigbjhmodpplbaaGreatDoorZH01
import Derived.Deep.RegionHeld3
import Derived.StillTail

/- The document's own tree: Unmap. -/
namespace Go.Proofs.YtigbjhmodpplbaaGreatDoor
open Go.ChangeShapes Go.WideShapes Go.ChangeAt Go.RowKit
set_option linter.unusedVariables false
set_option linter.unusedSimpArgs false

/-- The document's loop that gives tables back, ahead of level k. -/
structure UL (w0 W : World) (D : List Nat) (g pg pb n r : Nat) (lv : Value) (L : List RX.Pg) (G : RX.Pags) (va Lv k : Nat) (fr : Nat → Nat) (F' : RX.Tabs) (T' : Nat → Bool) (B rb mb : Nat) : Prop where
  ex : ∃ (F : RX.Tabs) (T : Nat → Bool) (D' : List Nat) (tv : Value) (Tl : List RX.Tb), DM W D' g pg pb n T lv tv L Tl ∧ RX.TB Tl F r ∧ RX.Inv F G r n ∧ Tk F T ∧ RX.UsedBut F G k (va / EN.sz k) ∧ (∀ j, k ≤ j → j ≤ 4 → F j (va / EN.sz j) = some (fr j)) ∧ (∀ j, 1 ≤ j → j < Lv → F j (va / EN.sz j) = none) ∧
    PruneR G va fr k F T F' T' ∧ Tl.length ≤ B ∧ Mv D D' w0 W ∧ mb ∉ D' ∧ rb ∉ D'

theorem Mv.notin {D D' : List Nat} {w w' : World} {x : Nat} (h : Mv D D' w w') (h1 : x ∉ D) (h2 : x < w.heap.size) : x ∉ D' := fun hm => by
  rcases h.own x hm with h3 | h3
  · exact h1 h3
  · omega

theorem UL.keep {w0 W W' : World} {D : List Nat} {g pg pb n r : Nat} {lv : Value} {L : List RX.Pg} {G : RX.Pags} {va Lv k : Nat} {fr : Nat → Nat} {F' : RX.Tabs} {T' : Nat → Bool} {B rb mb : Nat} (h : UL w0 W D g pg pb n r lv L G va Lv k fr F' T' B rb mb) (hb : Below W.heap.size W W') : UL w0 W' D g pg pb n r lv L G va Lv k fr F' T' B rb mb := by
  obtain ⟨F, T, D', tv, Tl, h1, h2, h3, h4, h5, h6, h7, h8, h9, h10, h11, h12⟩ := h.ex
  exact ⟨F, T, D', tv, Tl, h1.keep hb, h2, h3, h4, h5, h6, h7, h8, h9, h10.trans (Mv.of hb), h11, h12⟩

theorem rUnmap_arg (g va : Nat) (w : World) (hva : 140737488355328 ≤ va) :
    Calls Tryz.prog 52 #[.pointer (some ⟨g, 0, none⟩), .int .u64 (va : Int)] w fun e w' => e = .returned (.tuple #[.agg noMap.toArray, .int .i64 2]) ∧ Below w.heap.size w w' := by
  have d1 : decide ((140737488355328 : Int) ≤ (va : Int)) = true := by simp; omega
  have hZ := W_hid (Blk.new w 38 noMap rfl)
  clear hva
  go_enter Tryz.func52, Tryz.ntmps52
  go_wp2
  refine bodyPost_ret (res_map2 Tryz.results52 _ _ rfl hZ.out rfl) rfl ⟨rfl, (Below.refl _ _).alloc (Nat.le_refl _) _⟩

set_option maxRecDepth 100000 in
set_option maxHeartbeats 8000000 in
theorem rUnmap_yes (D : List Nat) (g pg pb n r : Nat) (T T' : Nat → Bool) (lv tv : Value) (L : List RX.Pg) (Tl : List RX.Tb) (F F' : RX.Tabs) (G G' : RX.Pags) (w : World) (h : DM w D g pg pb n T lv tv L Tl) (I : RX.Inv F G r n) (hP : RX.PB L G) (hB : RX.TB Tl F r) (hG : RX.Good F G T n) (hK : Tk F T) (va : Nat) (c : Int) (ml : List Value) (hva : va < 140737488355328) (hR : UnmapR F G T va c ml F' G' T')
    (hTl : Tl.length ≤ 100000) (hLl : L.length ≤ 100000) (hD : ∀ x ∈ D, x < w.heap.size) :
    Calls Tryz.prog 52 #[.pointer (some ⟨g, 0, none⟩), .int .u64 (va : Int)] w fun e w' => e = .returned (.tuple #[.agg ml.toArray, .int .i64 c]) ∧
      ∃ D' lv' tv' L' Tl', DM w' D' g pg pb n T' lv' tv' L' Tl' ∧ RX.PB L' G' ∧ RX.TB Tl' F' r ∧ L'.length ≤ L.length ∧ Tl'.length ≤ Tl.length ∧ Mv D D' w w' := by
  have d1 : decide ((140737488355328 : Int) ≤ (va : Int)) = false := by simp; omega
  have hal : Below w.heap.size w (w.alloc (.cells noMap.toArray 38)) := (Below.refl _ _).alloc (Nat.le_refl _) _
  have h0 := h.keep hal
  have hA := W_hid (at_any D g pg pb n T lv tv L Tl _ h0 va (by omega))
  have hZ0 : Blk (w.alloc (.cells noMap.toArray 38)) w.heap.size 38 noMap := Blk.new w 38 noMap rfl
  have hD := W_hid hD
  cases hR with
  | none hpg =>
    rw [hP.at_none hpg] at hA
    have H0 := W_hid h0
    have hal := W_hid hal
    have hZ0 := W_hid hZ0
    have hP := W_hid hP
    have hB := W_hid hB
    clear hpg h h0 I hG
    go_enter Tryz.func52, Tryz.ntmps52
    go_wp2_with fail
    refine hA.out.mono ?_
    rintro e w1 ⟨rfl, bel⟩
    have hZ1 := hZ0.out.keep bel
    have z0 := hZ1.cell (j := 0) rfl
    have z1 := hZ1.cell (j := 1) rfl
    have z2 := hZ1.cell (j := 2) rfl
    have z3 := hZ1.cell (j := 3) rfl
    have zf := hZ1.fz
    have hZ1 := W_hid hZ1
    have hD1 := W_hid (H0.out.keep bel)
    have bel1 := W_hid (hal.out.trans (bel.mono (by simp)))
    unfold ixI
    clear bel
    go_wp2
    have hZ := (((hZ1.out.set 0 (.int .u64 0)).set 1 (.int .u64 0)).set 2 (.int .i64 0)).set 3 (.bool false)
    have hbut : But [w.heap.size] w1 ((((w1.setCell ⟨w.heap.size, 0, none⟩ (.int .u64 0)).setCell ⟨w.heap.size, 1, none⟩ (.int .u64 0)).setCell ⟨w.heap.size, 2, none⟩ (.int .i64 0)).setCell ⟨w.heap.size, 3, none⟩ (.bool false)) := ((((But.refl _ _).set (.inl (by simp)) _).set (.inl (by simp)) _).set (.inl (by simp)) _).set (.inl (by simp)) _
    refine bodyPost_ret (res_map2 Tryz.results52 _ _ rfl hZ rfl) rfl ⟨rfl, D, lv, tv, L, Tl, hD1.out.but hbut (fun x hx => by have := hD.out x hx; simp; omega), hP.out, hB.out, Nat.le_refl _, Nat.le_refl _, ?_⟩
    exact Mv.of ((((bel1.out.setCell (by simp) _).setCell (by simp) _).setCell (by simp) _).setCell (by simp) _)
  | done Lv f p fr F' T' hd hpg hPr =>
    obtain ⟨i, hi, hil, hLi⟩ := hP.at_some I hpg
    rw [hi] at hA
    obtain ⟨k1, k2, hg⟩ := RX.pg_some hpg
    have hsub := RX.sub_mod va (EN.sz (Lv - 1))
    have hPB' := W_hid (RX.PB.cut I hP hil ⟨k1, k2⟩ hg (by rw [hLi, hsub]))
    have hlowF : ∀ j, 1 ≤ j → j < Lv → F j (va / EN.sz j) = none := fun j h1 h2 => RX.desc_below I hd j h1 h2
    have hUB := RX.good_strike hG.used Lv (va / EN.sz (Lv - 1))
    rw [RX.sz_down va Lv hd.l1] at hUB
    have hI' := RX.inv_strike I Lv (va / EN.sz (Lv - 1))
    have hstart := W_hid (fun (W : World) (D' : List Nat) (lv' : Value) (rb mb : Nat) (hDM : DM W D' g pg pb n T lv' tv (RX.cutAt L i) Tl) (hm : Mv D D' w W) (q1 : mb ∉ D') (q2 : rb ∉ D') => (show UL w W D g pg pb n r lv' (RX.cutAt L i) (RX.updG G Lv (va / EN.sz (Lv - 1)) none) va Lv Lv fr F' T' Tl.length rb mb from ⟨F, T, D', tv, Tl, hDM, hB, hI', hK, hUB, hd.on, hlowF, hPr, Nat.le_refl _, hm, q1, q2⟩))
    have H0 := W_hid h0
    have hmo := Own.make_room Tryz.underlying47 info_pg L.length (L.length : Int) rfl (by omega) (by omega)
    obtain ⟨X, hmk, hmo⟩ := hmo
    have hwr : IntKind.i64.wrap ((i : Int) + 1) = (i : Int) + 1 := IntWalk.i64_in _ (by omega)
    have hi2 : (i : Int) < L.length := by omega
    have hi3 : (i : Int) + 1 ≤ L.length := by omega
    have hcut : Hid ([] ++ (pcl L).take (i * 4) ++ (pcl L).drop ((i + 1) * 4) = pcl (RX.cutAt L i) ∧ 0 + i + (L.length - (i + 1)) = (RX.cutAt L i).length) := by
      refine ⟨?_, by rw [RX.cutAt_length L i hil]; omega⟩
      unfold pcl RX.cutAt
      rw [flat_take pgc 4 pgc_len, flat_drop pgc 4 pgc_len, List.flatMap_append, List.nil_append]
    have hsubl : Hid (∀ x ∈ RX.cutAt L i, x.1 < 140737488355328 ∧ x.2.1 < 68719476736) := W_hid (fun x hx => h.llt x ((RX.cutAt_sub L i).subset hx))
    have hone := W_hid (pgc_one L)
    have hlen := W_hid (RX.cutAt_length L i hil)
    obtain ⟨q, hq⟩ : ∃ q, q = va - va % EN.sz (Lv - 1) := ⟨_, rfl⟩
    rw [← hq] at hLi ⊢
    obtain ⟨hu, hhu⟩ : ∃ hu, hu = decide (Lv = 2) := ⟨_, rfl⟩
    rw [← hhu] at hLi ⊢
    have hal := W_hid hal
    have hZ0 := W_hid hZ0
    have hl1 := hd.l1
    have hva' := W_hid hva
    replace hmo := W_hid hmo
    clear hpg h h0 I hG hP hi hg hsub hd hlowF hUB hI' hPr hB hK hq hhu hva
    go_enter Tryz.func52, Tryz.ntmps52
    go_wp2_with fail
    refine hA.out.mono ?_
    rintro e w1 ⟨rfl, bel⟩
    have hD1 := H0.out.keep bel
    obtain ⟨b, o, cap, rfl, hc1, hc2, t0, t1, t2, t3, l0, l1⟩ := hD1.page hil
    rw [hLi] at t0 t1 t2 t3 l0 l1
    simp only at t0 t1 t2 t3 l0 l1
    have c1 := hD1.c1
    have hZ1 := W_hid (hZ0.out.keep bel)
    have bel1 := W_hid (hal.out.trans (bel.mono (by simp)))
    have hD1 := W_hid hD1
    unfold maxLen at hc2
    unfold ixI
    clear bel hA H0 hal hZ0
    go_upto_region 7 with fail
    refine wp_world (fun W => DM W D g pg pb n T (.slice (some ⟨b, o, none⟩) L.length cap) tv L Tl ∧ Blk W w.heap.size 38 noMap ∧ Blk W w1.heap.size 38 (mapL q f p hu) ∧ Below w.heap.size w W ∧ w.heap.size < w1.heap.size ∧ W.heap.size = w1.heap.size + 1) ⟨hD1.out.keep ((Below.refl _ _).alloc (Nat.le_refl _) _), hZ1.out.alloc _, Blk.new w1 _ _ rfl, bel1.out.alloc bel1.out.size _, hZ1.out.lt, by simp⟩ ?_
    rintro W ⟨hD2, hZ2, hM2, bel2, hrm, hWs⟩
    clear t0 t1 t2 t3 l0 l1 c1 hZ1 hD1 bel1
    have hHi := src_take hD2.lo rfl i (by omega)
    have hlo := hD2.lo
    have hgl := hD2.box.lt
    have hbl := own_lt hD2.lo b rfl
    have x2 := hD2.c1
    have xa : ∀ ob, (W.alloc ob).cell? ⟨g, 1, none⟩ = some (.slice (some ⟨b, o, none⟩) L.length cap) := fun ob => (hD2.box.alloc ob).cell rfl
    obtain ⟨ad, hrlo, had1, had2⟩ := run_lo Tryz.underlying47 elem_pg info_pg b o L.length cap (i + 1) ((i : Int) + 1) (by omega) (by omega) hc1
    have hrhi := run_hi Tryz.underlying47 elem_pg info_pg (some ⟨b, o, none⟩) L.length cap i (by omega) hc1 (.inr ⟨_, _, rfl⟩)
    have hLo := src_drop hlo (i + 1) (by omega) ad (cap - (i + 1)) had2
    have A1 : Hid ((W.alloc X).drew.ownsRow W.heap.size 38 4 (.slice (some ⟨W.heap.size, 0, none⟩) 0 L.length) 0 []) := W_hid (hmo.out W W.heap.size (Nat.le_refl _))
    have S1 := W_hid (hHi.keep (((Below.refl W.heap.size W).alloc (Nat.le_refl _) X).drew))
    have S2 := W_hid (hLo.keep (((Below.refl W.heap.size W).alloc (Nat.le_refl _) X).drew))
    have hone1 : Hid (∀ u ∈ (pcl L).take (i * 4), u.oneCell' = true) := W_hid (fun u hu => hone.out u (List.mem_of_mem_take hu))
    have hone2 : Hid (∀ u ∈ (pcl L).drop ((i + 1) * 4), u.oneCell' = true) := W_hid (fun u hu => hone.out u (List.mem_of_mem_drop hu))
    have hbg : Hid (b < W.heap.size ∧ g < W.heap.size) := W_hid ⟨hbl, hgl⟩
    obtain ⟨adb, ado, ads⟩ := ad
    simp only at had1
    obtain rfl := had1.symm
    have hend := W_hid (fun (w3 : World) (v3 : Value) (hb : Below W.heap.size W w3) (ho : w3.ownsRow W.heap.size 38 4 v3 (RX.cutAt L i).length (pcl (RX.cutAt L i))) => hD2.newL hb ho hsubl.out)
    have HD2 := W_hid hD2
    have HZ2 := W_hid hZ2
    have HM2 := W_hid hM2
    replace bel2 := W_hid bel2
    replace hrm := W_hid hrm
    replace hWs := W_hid hWs
    obtain ⟨N, hN⟩ : ∃ N, L.length = N := ⟨_, rfl⟩
    have hcut2 := hcut.out
    rw [hN] at hmk hrlo hrhi hi2 hi3 hc1 x2 xa hil hLl A1 S2 hcut2 ⊢
    have hcut2 := W_hid hcut2
    replace hN := W_hid hN
    clear hHi hlo hgl hbl had2 hLo hmo hone hD2 hZ2 hM2 hsubl hcut
    go_cut [] from 27 to 50 (fun wc => ∃ (D' : List Nat) (lv' : Value), DM wc D' g pg pb n T lv' tv (RX.cutAt L i) Tl ∧ Mv D D' w wc ∧ Blk wc w.heap.size 38 noMap ∧ Blk wc w1.heap.size 38 (mapL q f p hu) ∧ w1.heap.size ∉ D' ∧ w.heap.size ∉ D' ∧ w.heap.size < w1.heap.size ∧ w1.heap.size < wc.heap.size)
    case first =>
      rename_i J1 K1 hJ1 hK1
      go_region_law (first
        | (refine Own.step_app rfl (.tmp 33) (.tmp 39) 47 rfl Tryz.underlying47 info_pg (.slice (some ⟨W.heap.size, 0, none⟩) 0 N) (.slice (some ⟨b, o, none⟩) i cap) rfl rfl A1.out (by simp) S1.out hone1.out (by unfold maxLen; omega) (by omega) ?_
           intro v2 w2 ho2 hg2 hob2
           have A2 := W_hid ho2
           have S3 := W_hid (Own.Src.grown S2.out hg2 (fun ad n c e _ => by simp only [Value.slice.injEq, Option.some.injEq] at e; have := hbg.out; obtain ⟨rfl, -, -⟩ := e; simp [Value.ownBlock]; omega))
           have x2b : w2.cell? ⟨g, 1, none⟩ = some (.slice (some ⟨b, o, none⟩) N cap) := Own.cellg hg2 (xa X) (by have := hbg.out; simp [Value.ownBlock]; omega)
           have B2 := W_hid ((((Below.refl W.heap.size W).alloc (Nat.le_refl _) X).drew).grown hg2 (by simp) (fun j hj => Own.ge A1.out j hj))
           clear ho2 hg2 hob2)
        | (refine Own.step_app rfl (.tmp 40) (.tmp 47) 47 rfl Tryz.underlying47 info_pg v2 (.slice (some ⟨b, ado, ads⟩) (N - (i + 1)) (cap - (i + 1))) rfl rfl A2.out B2.out.size S3.out hone2.out (by unfold maxLen; omega) (by omega) ?_
           intro v3 w3 ho3 hg3 hob3
           obtain ⟨a3, c3, rfl⟩ := Own.form ho3
           have B3 := W_hid (B2.out.grown hg3 B2.out.size (fun k h => Own.ge A2.out k h))
           have A3 := W_hid ho3
           have bx3 := HD2.out.box.below B3.out hbg.out.2
           have x3b := bx3.cell (j := 1) rfl
           have f3b := bx3.fz
           clear ho3 hg3 hob3 bx3))
      all_goals
        refine hK1 _ _ (Met.intro (hJ1 _ _ ?_))
        repeat apply Exists.intro
        refine ⟨?rel, rfl⟩
        case rel =>
          have ho3 := A3.out
          have e2 := hcut2.out.2
          rw [hcut2.out.1] at ho3
          simp only [Nat.zero_add] at ho3 e2
          rw [e2] at ho3
          rw [e2]
          obtain ⟨D', hD', hM'⟩ := hend.out w3 _ B3.out ho3
          have hrm := hrm.out
          have hWs := hWs.out
          have hnD : ∀ x, w.heap.size ≤ x → x < W.heap.size → x ∉ D' := fun x h1 h2 => hM'.notin (fun hm => by have := hD.out x hm; omega) h2
          have q1 := hnD w1.heap.size (by omega) (by omega)
          have q2 := hnD w.heap.size (by omega) (by omega)
          have hbut : But D W _ := hM'.but
          exact ⟨D', _, hD', (Mv.of bel2.out).trans hM', HZ2.out.but hbut (fun hm => by have := hD.out _ hm; omega), HM2.out.but hbut (fun hm => by have := hD.out _ hm; omega), q1, q2, hrm, by have := hM'.but.size; omega⟩
    case rest =>
      obtain ⟨D', lv', hDc, hMc, hZc, hMpc, q1, q2, hrm', hml⟩ := hcut
      have hU := W_hid (hstart.out wc D' lv' w.heap.size w1.heap.size hDc hMc q1 q2)
      have hZc := W_hid hZc
      have hMpc := W_hid hMpc
      clear A1 S1 S2 hone1 hone2 hend HD2 HZ2 HM2 bel2 hcut2 hmk hrlo hrhi x2 xa hwr hDc hMc q1 q2 hstart
      obtain ⟨Gc, hGc⟩ : ∃ Gc, Gc = RX.updG G Lv (va / EN.sz (Lv - 1)) none := ⟨_, rfl⟩
      rw [← hGc] at hU hPB'
      replace hGc := W_hid hGc
      obtain ⟨Lc, hLc⟩ : ∃ Lc, Lc = RX.cutAt L i := ⟨_, rfl⟩
      rw [← hLc] at hU hPB' hlen
      replace hLc := W_hid hLc
      obtain ⟨mb, hmb⟩ : ∃ mb, mb = w1.heap.size := ⟨_, rfl⟩
      rw [← hmb] at hU hMpc hrm' hml
      replace hmb := W_hid hmb
      go_wp2_with fail
      go_loopw [8] (fun x wr => ∃ t k : Nat, 1 ≤ t ∧ t ≤ 4 ∧ x = .int .i64 (t : Int) ∧ ((t < Lv ∧ k = Lv) ∨ (Lv ≤ t ∧ k = t)) ∧ Hid (UL w wr D g pg pb n r lv' Lc Gc va Lv k fr F' T' Tl.length w.heap.size mb) ∧ Hid (Blk wr w.heap.size 38 noMap) ∧ Hid (Blk wr mb 38 (mapL q f p hu)) ∧ Hid (w.heap.size < mb ∧ mb < wr.heap.size)) (fun x _ => 4 - (intOf x).toNat)
      case atStart => exact ⟨1, Lv, Nat.le_refl _, by omega, rfl, by omega, hU, hZc, hMpc, W_hid ⟨hrm', hml⟩⟩
      case round =>
        clear hU hZc hMpc
        obtain ⟨t, k, ht1, ht4, rfl, hk, hU, hZ, hM, hrb2⟩ := hrel
        obtain ⟨Fk, Tq, D2, tv2, Tl2, hDM, hTB, hI, hTk, hUB, hon, hlow, hPr, hlen2, hMv, p1, p2⟩ := hU.out
        by_cases ht3 : t ≤ 3
        · have hT := W_hid (table_any D2 g pg pb n Tq lv' tv2 Lc Tl2 wr hDM t va ht1 ht4 (by have := hva'.out; omega))
          by_cases hc : t < Lv
          · obtain rfl : k = Lv := by omega
            rw [hTB.no (hlow t ht1 hc)] at hT
            clear hDM hTB hI hTk hUB hon hlow hPr hMv
            go_wp2_with fail
            refine hT.out.mono ?_
            rintro e w4 ⟨rfl, q', rfl⟩
            have bel4 := W_hid (below_drewN (Below.refl wr.heap.size wr) q')
            unfold ixI
            go_wp2_with fail
            go_roundw
            case rel => exact ⟨t + 1, k, by omega, by omega, by go_num, by omega, W_hid (hU.out.keep bel4.out), W_hid (hZ.out.keep bel4.out), W_hid (hM.out.keep bel4.out), hrb2⟩
            case measure => simp [intOf]; omega
          · obtain rfl : k = t := by omega
            have hFt := hon k (Nat.le_refl _) (by omega)
            obtain ⟨ix, hix, hixl, hTe⟩ := hTB.yes hFt
            rw [hix] at hT
            have hfl := (hI.lev hFt).2.2.2
            have hn2 := hI.n2
            have hTt := hTk _ _ _ hFt
            have hnext := RX.prune_next hI ht1 ht3 hUB hFt hPr
            have hus := RX.used_iff hI hPB'.out hUB ht3 hFt
            have hfr0 := hDM.tlt _ (List.getElem_mem hixl)
            rw [hTe] at hfr0
            have hUs := W_hid (fun w h => used_any D2 g pg pb n Tq lv' tv2 Lc Tl2 w h (fr k) k (va / EN.sz k * EN.sz k) ht1 ht4 hfr0.2.2.2)
            have hDr := W_hid (fun w h => drop_any D2 g pg pb n Tq lv' tv2 Lc Tl2 w h ix (fr k) k _ hixl hTe hfl hTt (by omega))
            have hixI : (ix : Int) < Tl2.length := by omega
            have HDM := W_hid hDM
            cases hany : Lc.any (RX.inT (va / EN.sz k * EN.sz k) k) with
            | true =>
              rw [hany] at hus hUs
              have hPr2 : Hid (RX.UsedBut Fk Gc (k + 1) (va / EN.sz (k + 1)) ∧ PruneR Gc va fr (k + 1) Fk Tq F' T') := by
                rcases hnext with ⟨-, h2, h3⟩ | ⟨h1, -⟩
                · exact ⟨h2, h3⟩
                · exact absurd (hus.1 rfl) h1
              have hfin := W_hid (fun (W2 : World) (hb : Below wr.heap.size wr W2) => (show UL w W2 D g pg pb n r lv' Lc Gc va Lv (k + 1) fr F' T' Tl.length w.heap.size mb from ⟨Fk, Tq, D2, tv2, Tl2, hDM.keep hb, hTB, hI, hTk, hPr2.out.1, fun j h1 h2 => hon j (by omega) h2, hlow, hPr2.out.2, hlen2, hMv.trans (Mv.of hb), p1, p2⟩))
              clear hDM hTB hI hTk hUB hon hlow hPr hMv hnext hus hU hany hDr hPr2
              go_wp2_with fail
              refine hT.out.mono ?_
              rintro e w4 ⟨rfl, q', rfl⟩
              have bel4 := W_hid (below_drewN (Below.refl wr.heap.size wr) q')
              have HD4 := HDM.out.keep bel4.out
              have c2 := HD4.c2
              obtain ⟨b2, o2, cap2, rfl, e1, e2, t0, t1, t2, l0, l1, l2, l3⟩ := HD4.tab hixl
              rw [hTe] at t0 t1 t2
              simp only at t0 t1 t2
              unfold maxLen at e2
              have hUs := W_hid (hUs.out _ HD4)
              unfold ixI
              clear HD4
              go_wp2_with fail
              refine hUs.out.mono ?_
              rintro e w5 ⟨rfl, bel5⟩
              have bel6 := W_hid (bel4.out.trans (bel5.mono bel4.out.size))
              clear bel5
              go_wp2_with fail
              go_roundw
              case rel => exact ⟨k + 1, k + 1, by omega, by omega, by go_num, by omega, W_hid (hfin.out _ bel6.out), W_hid (hZ.out.keep bel6.out), W_hid (hM.out.keep bel6.out), W_hid ⟨hrb2.out.1, Nat.lt_of_lt_of_le hrb2.out.2 bel6.out.size⟩⟩
              case measure => simp [intOf]; omega
            | false =>
              rw [hany] at hus hUs
              have hPr2 : RX.Inv (RX.updF Fk k (va / EN.sz k) none) Gc r n ∧ RX.UsedBut (RX.updF Fk k (va / EN.sz k) none) Gc (k + 1) (va / EN.sz (k + 1)) ∧ PruneR Gc va fr (k + 1) (RX.updF Fk k (va / EN.sz k) none) (FR.st Tq (fr k) 1 false) F' T' := by
                rcases hnext with ⟨h1, -⟩ | ⟨-, h2⟩
                · have := hus.2 h1; cases this
                · exact h2
              have hTB2 := hTB.cut hixl hTe (by omega)
              have hTk2 := tk_drop hI hTk hFt
              have hml2 := hrb2.out
              have hfin := W_hid (fun (W2 : World) (D3 : List Nat) (tv3 : Value) (hd3 : DM W2 D3 g pg pb n (FR.st Tq (fr k) 1 false) lv' tv3 Lc (RX.cutAt Tl2 ix)) (hm3 : Mv D2 D3 wr W2) => (show UL w W2 D g pg pb n r lv' Lc Gc va Lv (k + 1) fr F' T' Tl.length w.heap.size mb from
                ⟨_, _, D3, tv3, _, hd3, hTB2, hPr2.1, hTk2, hPr2.2.1, fun j h1 h2 => by rw [RX.updF_ne (by omega)]; exact hon j (by omega) h2, fun j h1 h2 => by rw [RX.updF_ne (by omega)]; exact hlow j h1 h2, hPr2.2.2, by rw [RX.cutAt_length _ _ hixl]; omega, hMv.trans hm3, hm3.notin p1 hml2.2, hm3.notin p2 (by omega)⟩))
              replace p1 := W_hid p1
              replace p2 := W_hid p2
              clear hDM hTB hI hTk hUB hon hlow hPr hMv hnext hus hU hany hPr2 hTB2 hTk2 hml2
              go_wp2_with fail
              refine hT.out.mono ?_
              rintro e w4 ⟨rfl, q', rfl⟩
              have bel4 := W_hid (below_drewN (Below.refl wr.heap.size wr) q')
              have HD4 := HDM.out.keep bel4.out
              have c2 := HD4.c2
              obtain ⟨b2, o2, cap2, rfl, e1, e2, t0, t1, t2, l0, l1, l2, l3⟩ := HD4.tab hixl
              rw [hTe] at t0 t1 t2
              simp only at t0 t1 t2
              unfold maxLen at e2
              have hUs := W_hid (hUs.out _ HD4)
              unfold ixI
              clear HD4
              go_wp2_with fail
              refine hUs.out.mono ?_
              rintro e w5 ⟨rfl, bel5⟩
              have bel6 := W_hid (bel4.out.trans (bel5.mono bel4.out.size))
              have hDr := W_hid (hDr.out w5 (HDM.out.keep bel6.out))
              clear bel5
              go_wp2_with fail
              refine hDr.out.mono ?_
              rintro e w7 ⟨rfl, D3, tv3, hd3, hm3⟩
              have hU7 := W_hid (hfin.out w7 D3 tv3 hd3 ((Mv.of bel6.out).trans hm3))
              have hZ7 := W_hid ((hZ.out.keep bel6.out).but hm3.but p2.out)
              have hM7 := W_hid ((hM.out.keep bel6.out).but hm3.but p1.out)
              have hr7 : Hid (w.heap.size < mb ∧ mb < w7.heap.size) := W_hid ⟨hrb2.out.1, Nat.lt_of_lt_of_le hrb2.out.2 (Nat.le_trans bel6.out.size hm3.but.size)⟩
              clear hd3 hm3
              go_wp2_with fail
              go_roundw
              case rel => exact ⟨k + 1, k + 1, by omega, by omega, by go_num, by omega, hU7, hZ7, hM7, hr7⟩
              case measure => simp [intOf]; omega
        · obtain rfl : t = 4 := by omega
          obtain rfl : k = 4 := by omega
          have hFT : F' = Fk ∧ T' = Tq := by
            cases hPr with
            | top => exact ⟨rfl, rfl⟩
            | stay hk => omega
            | drop hk => omega
          obtain ⟨rfl, rfl⟩ := hFT
          have hM9 : Blk wr w1.heap.size 38 (mapL q f p hu) := by rw [← hmb.out]; exact hM.out
          have m0 := hM9.cell (j := 0) rfl
          have m1 := hM9.cell (j := 1) rfl
          have m2 := hM9.cell (j := 2) rfl
          have m3 := hM9.cell (j := 3) rfl
          clear hM9
          have z0 := hZ.out.cell (j := 0) rfl
          have z1 := hZ.out.cell (j := 1) rfl
          have z2 := hZ.out.cell (j := 2) rfl
          have z3 := hZ.out.cell (j := 3) rfl
          have zf := hZ.out.fz
          have hne : ¬ w.heap.size = w1.heap.size := by have := hrb2.out; have := hmb.out; omega
          have hne2 : ¬ w1.heap.size = w.heap.size := Ne.symm hne
          have HDM := W_hid hDM
          have hMv := W_hid hMv
          have hTB := W_hid hTB
          replace p2 := W_hid p2
          clear hDM hI hTk hUB hon hlow hPr
          go_wp2
          have hbut : But [w.heap.size] wr ((((wr.setCell ⟨w.heap.size, 0, none⟩ (.int .u64 (q : Int))).setCell ⟨w.heap.size, 1, none⟩ (.int .u64 (f : Int))).setCell ⟨w.heap.size, 2, none⟩ (.int .i64 p)).setCell ⟨w.heap.size, 3, none⟩ (.bool hu)) := ((((But.refl _ _).set (.inl (by simp)) _).set (.inl (by simp)) _).set (.inl (by simp)) _).set (.inl (by simp)) _
          have hZ9 := (((hZ.out.set 0 (.int .u64 (q : Int))).set 1 (.int .u64 (f : Int))).set 2 (.int .i64 p)).set 3 (.bool hu)
          have hP9 := hPB'.out
          rw [hGc.out] at hP9
          refine bodyPost_ret (res_map2 Tryz.results52 _ _ rfl hZ9 rfl) rfl ⟨rfl, D2, lv', tv2, Lc, Tl2, HDM.out.but hbut (fun x hx hm => by simp only [List.mem_singleton] at hm; subst hm; exact p2.out hx), hP9, hTB.out, by have := hlen.out; omega, hlen2, ⟨(((hMv.out.but.set (.inr (Nat.le_refl _)) _).set (.inr (Nat.le_refl _)) _).set (.inr (Nat.le_refl _)) _).set (.inr (Nat.le_refl _)) _, hMv.out.own⟩⟩
end Go.Proofs.YtigbjhmodpplbaaGreatDoor

/- Contracts of the functions of package haywardref01 (the document's own answers for words): what each returns, for all arguments; the world is left as it was. -/
namespace Go.Proofs.YtigbjhmodpplbaaGreatDoor
open Go.ChangeShapes Go.WideShapes Go.ChangeAt Go.RowKit
set_option linter.unusedVariables false

theorem rtake_step (x lo k : Nat) (h : lo + k < 64) :
    IntKind.u64.wrap (((WM.take x lo k : Nat) : Int) + IntKind.u64.wrap (((WM.bit x (lo + k) : Nat) : Int) * 2 ^ k)) = ((WM.take x lo (k + 1) : Nat) : Int) := by
  have e2 : ∀ k : Nat, ((2 : Int) ^ k) = ((2 ^ k : Nat) : Int) := by intro k; simp
  have h1 : WM.take x lo (k + 1) = WM.take x lo k + WM.bit x (lo + k) * 2 ^ k := by
    unfold WM.take; rw [WM.mod_succ, WM.bit_add]
  have h2 := WM.take_lt x lo (k + 1)
  have h3 : 2 ^ (k + 1) ≤ 2 ^ 64 := Nat.pow_le_pow_right (by decide) (by omega)
  rw [e2, ← Int.natCast_mul, wrap_in _ (by simp at h3; omega), ← Int.natCast_add, wrap_in _ (by simp at h3; omega), h1]

theorem rput_step (x lo n v k : Nat) (h : k < 64) :
    IntKind.u64.wrap (((WM.sum (WM.putBit x lo n v) k : Nat) : Int) + IntKind.u64.wrap (((WM.putBit x lo n v k : Nat) : Int) * 2 ^ k)) = ((WM.sum (WM.putBit x lo n v) (k + 1) : Nat) : Int) := by
  have e2 : ∀ k : Nat, ((2 : Int) ^ k) = ((2 ^ k : Nat) : Int) := by intro k; simp
  have h1 : WM.sum (WM.putBit x lo n v) (k + 1) = WM.sum (WM.putBit x lo n v) k + WM.putBit x lo n v k * 2 ^ k := rfl
  have h2 := WM.sum_lt (WM.putBit x lo n v) (WM.putBit_lt x lo n v) (k + 1)
  have h3 : 2 ^ (k + 1) ≤ 2 ^ 64 := Nat.pow_le_pow_right (by decide) (by omega)
  rw [e2, ← Int.natCast_mul, wrap_in _ (by simp at h3; omega), ← Int.natCast_add, wrap_in _ (by simp at h3; omega), h1]

/-- The bits of v from n on, from k on, are clear. -/
def Clear (v n k : Nat) : Prop := ∀ i, n ≤ i → i < k → WM.bit v i = 0

/-- What the two roads of the first loop come to. -/
def PutEnds (x lo n v : Nat) (e : Ending) : Prop :=
  (v < 2 ^ n → e = .returned (.tuple #[.int .u64 ((WM.put x lo n v : Nat) : Int), .int .i64 0])) ∧ (¬ v < 2 ^ n → e = .returned (.tuple #[.int .u64 0, .int .i64 2]))

theorem put_ends_high {x lo n v i : Nat} (h1 : n ≤ i) (h2 : WM.bit v i = 1) : PutEnds x lo n v (.returned (.tuple #[.int .u64 0, .int .i64 2])) :=
  ⟨fun h => by have := WM.high_bit v n i h h1; omega, fun _ => rfl⟩

end Go.Proofs.YtigbjhmodpplbaaGreatDoor

/- Contracts of the document's own Right, Encode and Decode (package haywardref07): for every entry, word and level. -/
namespace Go.Proofs.YtigbjhmodpplbaaGreatDoor
open Go.ChangeShapes Go.WideShapes Go.ChangeAt Go.RowKit
set_option linter.unusedVariables false
set_option linter.unusedSimpArgs false

set_option maxRecDepth 100000 in
set_option maxHeartbeats 1000000 in
theorem rRight_out (T H : Bool) (P : Int) (F : Nat) (L : Int) (h : ¬ (1 ≤ L ∧ L ≤ 4 ∧ F < 68719476736)) (w : World) :
    Calls Tryz.prog 105 #[.agg #[.bool T, .bool H, .int .i64 P, .int .u64 F], .int .i64 L] w fun e w' => e = .returned (.bool false) ∧ Below w.heap.size w w' := by
  by_cases c1 : 1 ≤ L
  · have d1 : decide (L < 1) = false := by simp; omega
    by_cases c4 : L ≤ 4
    · have d4 : decide (4 < L) = false := by simp; omega
      have dF : decide (68719476736 ≤ (F : Int)) = true := by simp; omega
      clear h c1 c4
      go_enter Tryz.func105, Tryz.ntmps105
      go_wp2
      go_ret
      exact ⟨rfl, (Below.refl _ _).alloc (Nat.le_refl _) _⟩
    · have d4 : decide (4 < L) = true := by simp; omega
      clear h c1 c4
      go_enter Tryz.func105, Tryz.ntmps105
      go_wp2
      go_ret
      exact ⟨rfl, (Below.refl _ _).alloc (Nat.le_refl _) _⟩
  · have d1 : decide (L < 1) = true := by simp; omega
    clear h c1
    go_enter Tryz.func105, Tryz.ntmps105
    go_wp2
    go_ret
    exact ⟨rfl, (Below.refl _ _).alloc (Nat.le_refl _) _⟩

set_option maxRecDepth 100000 in
set_option maxHeartbeats 1000000 in
theorem rRight_table (H b : Bool) (P : Int) (F : Nat) (L : Int) (h1 : 1 ≤ L) (h4 : L ≤ 4) (hF : F < 68719476736) (hb : b = true ↔ 2 ≤ L ∧ H = false ∧ P = 7) (w : World) :
    Calls Tryz.prog 105 #[.agg #[.bool true, .bool H, .int .i64 P, .int .u64 F], .int .i64 L] w fun e w' => e = .returned (.bool b) ∧ Below w.heap.size w w' := by
  have d1 : decide (L < 1) = false := by simp; omega
  have d4 : decide (4 < L) = false := by simp; omega
  have dF : decide (68719476736 ≤ (F : Int)) = false := by simp; omega
  clear h1 h4 hF
  by_cases c2 : 2 ≤ L
  · have d2 : decide (2 ≤ L) = true := by simp; omega
    cases H
    · have dP : (P == 7) = b := by rw [Bool.eq_iff_iff, hb, beq_iff_eq]; exact ⟨fun h => ⟨c2, rfl, h⟩, fun h => h.2.2⟩
      clear hb c2
      go_enter Tryz.func105, Tryz.ntmps105
      go_wp2
      go_ret
      exact ⟨rfl, (Below.refl _ _).alloc (Nat.le_refl _) _⟩
    · obtain rfl : b = false := by
        cases b
        · rfl
        · exact absurd (hb.1 rfl).2.1 (by decide)
      clear hb c2
      go_enter Tryz.func105, Tryz.ntmps105
      go_wp2
      go_ret
      exact ⟨rfl, (Below.refl _ _).alloc (Nat.le_refl _) _⟩
  · have d2 : decide (2 ≤ L) = false := by simp; omega
    obtain rfl : b = false := by
      cases b
      · rfl
      · exact absurd (hb.1 rfl).1 c2
    clear hb c2
    go_enter Tryz.func105, Tryz.ntmps105
    go_wp2
    go_ret
    exact ⟨rfl, (Below.refl _ _).alloc (Nat.le_refl _) _⟩

set_option maxRecDepth 100000 in
set_option maxHeartbeats 1000000 in
theorem rRight_bad (H : Bool) (P : Int) (F : Nat) (L : Int) (h1 : 1 ≤ L) (h4 : L ≤ 4) (hF : F < 68719476736) (hP : ¬ EN.perms P) (w : World) :
    Calls Tryz.prog 105 #[.agg #[.bool false, .bool H, .int .i64 P, .int .u64 F], .int .i64 L] w fun e w' => e = .returned (.bool false) ∧ Below w.heap.size w w' := by
  have d1 : decide (L < 1) = false := by simp; omega
  have d4 : decide (4 < L) = false := by simp; omega
  have dF : decide (68719476736 ≤ (F : Int)) = false := by simp; omega
  unfold EN.perms at hP
  have p1 : (P != 1) = true := by rw [bne_iff_ne]; omega
  have p3 : (P != 3) = true := by rw [bne_iff_ne]; omega
  have p5 : (P != 5) = true := by rw [bne_iff_ne]; omega
  have p7 : (P != 7) = true := by rw [bne_iff_ne]; omega
  clear h1 h4 hF hP
  go_enter Tryz.func105, Tryz.ntmps105
  go_wp2
  go_ret
  exact ⟨rfl, (Below.refl _ _).alloc (Nat.le_refl _) _⟩

set_option maxRecDepth 100000 in
set_option maxHeartbeats 1000000 in
theorem rRight_small (b : Bool) (P : Int) (F : Nat) (L : Int) (h1 : 1 ≤ L) (h4 : L ≤ 4) (hF : F < 68719476736) (hP : EN.perms P) (hb : b = true ↔ L = 1) (w : World) :
    Calls Tryz.prog 105 #[.agg #[.bool false, .bool false, .int .i64 P, .int .u64 F], .int .i64 L] w fun e w' => e = .returned (.bool b) ∧ Below w.heap.size w w' := by
  have d1 : decide (L < 1) = false := by simp; omega
  have d4 : decide (4 < L) = false := by simp; omega
  have dF : decide (68719476736 ≤ (F : Int)) = false := by simp; omega
  have dL : (L == 1) = b := by rw [Bool.eq_iff_iff, hb, beq_iff_eq]
  clear h1 h4 hF hb
  cases b <;> rcases hP with rfl | rfl | rfl | rfl
  all_goals
    go_enter Tryz.func105, Tryz.ntmps105
    go_wp2
    go_ret
    exact ⟨rfl, (Below.refl _ _).alloc (Nat.le_refl _) _⟩

set_option maxRecDepth 100000 in
set_option maxHeartbeats 2000000 in
theorem rRight_huge (b : Bool) (P : Int) (F : Nat) (L : Int) (h1 : 1 ≤ L) (h4 : L ≤ 4) (hF : F < 68719476736) (hP : EN.perms P) (hb : b = true ↔ L = 2 ∧ F % 512 = 0) (w : World) :
    Calls Tryz.prog 105 #[.agg #[.bool false, .bool true, .int .i64 P, .int .u64 F], .int .i64 L] w fun e w' => e = .returned (.bool b) ∧ Below w.heap.size w w' := by
  have d1 : decide (L < 1) = false := by simp; omega
  have d4 : decide (4 < L) = false := by simp; omega
  have dF : decide (68719476736 ≤ (F : Int)) = false := by simp; omega
  clear h1 h4 hF
  by_cases c2 : L = 2
  · have dL : (L == 2) = true := by rw [beq_iff_eq]; exact c2
    have dM : ((F : Int) % 512 == 0) = b := by rw [Bool.eq_iff_iff, hb, beq_iff_eq]; omega
    clear c2 hb
    cases b <;> rcases hP with rfl | rfl | rfl | rfl
    all_goals
      go_enter Tryz.func105, Tryz.ntmps105
      go_wp2
      go_ret
      exact ⟨rfl, (Below.refl _ _).alloc (Nat.le_refl _) _⟩
  · have dL : (L == 2) = false := by rw [beq_eq_false_iff_ne]; exact c2
    obtain rfl : b = false := by
      cases b
      · rfl
      · exact absurd (hb.1 rfl).1 c2
    clear c2 hb
    rcases hP with rfl | rfl | rfl | rfl
    all_goals
      go_enter Tryz.func105, Tryz.ntmps105
      go_wp2
      go_ret
      exact ⟨rfl, (Below.refl _ _).alloc (Nat.le_refl _) _⟩

theorem rRight_any (T H b : Bool) (P : Int) (F : Nat) (L : Int) (hb : b = true ↔ EN.right T H P F L) (w : World) :
    Calls Tryz.prog 105 #[.agg #[.bool T, .bool H, .int .i64 P, .int .u64 F], .int .i64 L] w fun e w' => e = .returned (.bool b) ∧ Below w.heap.size w w' := by
  unfold EN.right at hb
  by_cases c : 1 ≤ L ∧ L ≤ 4 ∧ F < 68719476736
  · obtain ⟨h1, h4, hF⟩ := c
    cases T
    · by_cases hP : EN.perms P
      · cases H
        · exact rRight_small b P F L h1 h4 hF hP (hb.trans ⟨fun h => by rcases h.2.2.2 with ⟨e, -⟩ | ⟨-, -, e⟩; exact absurd e (by decide); rcases e with ⟨-, e⟩ | ⟨e, -⟩; exact e; exact absurd e (by decide), fun h => ⟨h1, h4, hF, .inr ⟨rfl, hP, .inl ⟨rfl, h⟩⟩⟩⟩) w
        · exact rRight_huge b P F L h1 h4 hF hP (hb.trans ⟨fun h => by rcases h.2.2.2 with ⟨e, -⟩ | ⟨-, -, e⟩; exact absurd e (by decide); rcases e with ⟨e, -⟩ | ⟨-, e⟩; exact absurd e (by decide); exact e, fun h => ⟨h1, h4, hF, .inr ⟨rfl, hP, .inr ⟨rfl, h⟩⟩⟩⟩) w
      · obtain rfl : b = false := by
          cases b
          · rfl
          · rcases (hb.1 rfl).2.2.2 with ⟨e, -⟩ | ⟨-, e, -⟩
            · exact absurd e (by decide)
            · exact absurd e hP
        exact rRight_bad H P F L h1 h4 hF hP w
    · exact rRight_table H b P F L h1 h4 hF (hb.trans ⟨fun h => by rcases h.2.2.2 with ⟨-, e⟩ | ⟨e, -⟩; exact e; exact absurd e (by decide), fun h => ⟨h1, h4, hF, .inl ⟨rfl, h⟩⟩⟩) w
  · obtain rfl : b = false := by
      cases b
      · rfl
      · exact absurd ⟨(hb.1 rfl).1, (hb.1 rfl).2.1, (hb.1 rfl).2.2.1⟩ c
    exact rRight_out T H P F L c w

end Go.Proofs.YtigbjhmodpplbaaGreatDoor

/- The document's own tree: Map, its arguments none; words for the rest. -/
namespace Go.Proofs.YtigbjhmodpplbaaGreatDoor
open Go.ChangeShapes Go.WideShapes Go.ChangeAt Go.RowKit
set_option linter.unusedVariables false
set_option linter.unusedSimpArgs false

theorem lv_psz (h : Bool) : RX.psz h = EN.sz (lv h - 1) := by cases h <;> rfl
theorem lv_dec (h : Bool) : decide (lv h = 2) = h := by cases h <;> rfl

/-- A row cut at its beginning, nil or not. -/
theorem cut_lo {P : Program} {t e : TypeId} {z : Value} {size bytes : Nat} (ht : P.underlying t = some (.slice e)) (hel : P.elem t = e) (hinf : Own.Info P e z size bytes) {w : World} {base n : Nat} {v : Value} {xs : List Value} (h : w.ownsRow base e size v n xs) {a : Option Addr} {cap : Nat} (hv : v = .slice a n cap) (hc : n ≤ cap) (k : Nat) (hk : k ≤ n) :
    ∃ a', (∀ W : World, (Instr.slice t (.slice a n cap) (some (.int .i64 (k : Int))) none none).run P W = .ok (.slice a' (n - k) (cap - k)) W) ∧ Own.Src w size (.slice a' (n - k) (cap - k)) (n - k) (xs.drop (k * size)) ∧ ∀ ad, a' = some ad → v.ownBlock = some ad.block := by
  rcases h.2 with ⟨h1, h0⟩ | ⟨g, cap', cur, h1, hb, hg, hnc, hcm, hcs, htake⟩
  · subst h0
    obtain rfl : k = 0 := by omega
    rw [hv] at h1
    simp only [Value.slice.injEq] at h1
    obtain ⟨rfl, -, rfl⟩ := h1
    obtain ⟨i, hi, hz, hsize, hby, hzs, hsz⟩ := hinf
    refine ⟨none, fun W => ?_, .inl ⟨rfl, rfl, ?_⟩, fun ad e => by cases e⟩
    · have hs : (sizeOf (P.elem t)).run P W = .ok size W := by rw [hel]; simp [sizeOf, typeInfo, hi, hsize]
      have hr := run_slice_l (P := P) W t none 0 0 (by rw [hel]; exact ht) .i64 ((0 : Nat) : Int) (by omega) (by omega)
      rw [hs] at hr
      simpa [Result.andThen, sliced] using hr
    · have := h.1
      rw [Nat.zero_mul] at this
      rw [List.eq_nil_of_length_eq_zero this, List.drop_nil]
  · have h2 := hv.symm.trans h1
    simp only [Value.slice.injEq, true_and] at h2
    obtain ⟨rfl, rfl⟩ := h2
    obtain ⟨ad, hr, hb1, hb2⟩ := run_lo ht hel hinf g 0 n cap k (k : Int) rfl hk hc
    rw [hv] at h
    exact ⟨some ad, hr, src_drop h k hk ad _ hb2, fun ad' e => by cases e; rw [h1, hb1]; rfl⟩
/-- A table more. -/
theorem DM.addT {W Wa w3 : World} {D : List Nat} {g pg pb n : Nat} {T : Nat → Bool} {lv tv tv' : Value} {L : List RX.Pg} {Tl : List RX.Tb} {x : RX.Tb} (h : DM W D g pg pb n T lv tv L Tl) (hb : Below W.heap.size W Wa) (ho : w3.ownsRow 0 105 3 tv' (Tl.length + 1) (tcl (Tl ++ [x]))) (hg : Wa.grownBy w3 tv.ownBlock)
    (hob : tv'.ownBlock = tv.ownBlock ∨ tv'.ownBlock = some Wa.heap.size) (hx : x.1 < 65536 ∧ 1 ≤ x.2.1 ∧ x.2.1 ≤ 4 ∧ x.2.2 < 281474976710656) :
    ∃ D', DM (w3.setCell ⟨g, 2, none⟩ tv') D' g pg pb n T lv tv' L (Tl ++ [x]) ∧ Mv D D' W (w3.setCell ⟨g, 2, none⟩ tv') := by
  have hgl := h.box.lt
  have hpl := h.rl.box.lt
  have hbl := h.rl.row.lt
  have hbut : But tv.ownBlock.toList W w3 := ⟨hg.os.trans hb.os, hg.tape.trans hb.tape, hg.output.trans hb.output, Nat.le_trans hb.size hg.size, fun k hk hS => (hg.block k (Nat.lt_of_lt_of_le hk hb.size) (fun e => hS (by rw [← e]; simp))).trans (hb.block k hk)⟩
  have hin : ∀ y, y ∈ tv.ownBlock.toList → tv.ownBlock = some y := fun y hy => by simpa using hy
  have hown : ∀ y, tv'.ownBlock = some y → (tv.ownBlock = some y ∨ W.heap.size ≤ y) := fun y hy => by
    rcases hob with e | e
    · rw [e] at hy; exact .inl hy
    · rw [e] at hy; have := Option.some.inj hy; have := hb.size; exact .inr (by omega)
  have hset : But [g] w3 (w3.setCell ⟨g, 2, none⟩ tv') := (But.refl _ _).set (.inl (by simp)) _
  have kbox : Blk w3 g 73 [.pointer (some ⟨pg, 0, none⟩), lv, tv] := h.box.but hbut (fun hm => (h.td g (hin _ hm)).2.1 rfl)
  have krl : RL w3 pg pb n T := h.rl.but hbut (fun hm => (h.td pg (hin _ hm)).2.2.1 rfl) (fun hm => (h.td pb (hin _ hm)).2.2.2 rfl)
  have klo := own_but h.lo hbut (fun y hy hm => (h.ld y hy).2.2.2.2 (hin _ hm))
  refine ⟨tv'.ownBlock.toList ++ D, ⟨kbox.set 2 tv', own_but klo hset (fun y hy => by have := (h.ld y hy).2.1; simpa using this), ?_, krl.but hset (by have := h.gp; simp; omega) (by have := h.gb; simp; omega), by simp [h.dg], by simp [h.dp], by simp [h.db], h.gp, h.gb, fun y hy => ?_, fun y hy => ?_, h.llt, fun y hy => ?_⟩, ⟨?_, ?_⟩⟩
  · rw [List.length_append]
    refine own_but ho hset (fun y hy => ?_)
    simp only [List.mem_singleton]
    rcases hown y hy with e | e
    · exact (h.td y e).2.1
    · omega
  · obtain ⟨a1, a2, a3, a4, a5⟩ := h.ld y hy
    refine ⟨by simp [a1], a2, a3, a4, fun e => ?_⟩
    rcases hown y e with e2 | e2
    · exact a5 e2
    · have := own_lt h.lo y hy; omega
  · refine ⟨by rw [hy]; simp, ?_⟩
    rcases hown y hy with e | e
    · exact (h.td y e).2
    · exact ⟨by omega, by omega, by omega⟩
  · rcases List.mem_append.1 hy with hy | hy
    · exact h.tlt y hy
    · simp only [List.mem_singleton] at hy
      subst hy; exact hx
  · exact (But.mono hbut (fun y hy => (h.td y (hin _ hy)).1)).set (.inl h.dg) _
  · intro y hy
    rw [List.mem_append] at hy
    rcases hy with hy | hy
    · rw [Option.mem_toList] at hy
      rcases hown y hy with e | e
      · exact .inl (h.td y e).1
      · exact .inr e
    · exact .inl hy

set_option maxRecDepth 100000 in
set_option maxHeartbeats 4000000 in
theorem rMap_arg (g va f : Nat) (h : Bool) (p : Int) (w : World) (hva : va < 18446744073709551616) (hno : ¬ (EN.right false h p f (lv h : Nat) ∧ va % EN.sz (lv h - 1) = 0 ∧ va < 140737488355328)) :
    Calls Tryz.prog 51 #[.pointer (some ⟨g, 0, none⟩), .agg #[.int .u64 (va : Int), .int .u64 (f : Int), .int .i64 p, .bool h]] w fun e w' => e = .returned (.int .i64 2) ∧ Below w.heap.size w w' := by
  obtain ⟨ok, hok⟩ : ∃ ok : Bool, ok = true ↔ EN.right false h p f (lv h : Nat) := by
    by_cases hh : EN.right false h p f (lv h : Nat)
    · exact ⟨true, by simp [hh]⟩
    · exact ⟨false, by simp [hh]⟩
  have hR := W_hid (fun w => rRight_any false h ok p f (lv h : Nat) hok w)
  have hS := W_hid rSize_any
  obtain ⟨sz, hsz⟩ : ∃ sz, sz = RX.psz h := ⟨_, rfl⟩
  have hsz2 : EN.sz (lv h - 1) = sz := by rw [hsz, lv_psz]
  have hszp : 0 < sz := by rw [← hsz2]; exact EN.sz_pos _
  have hS2 := W_hid (fun w => hS.out (va : Int) (f : Int) p h w)
  rw [← hsz] at hS2
  obtain ⟨m, hm⟩ : ∃ m, va % sz = m := ⟨_, rfl⟩
  have hmod : (va : Int).tmod (sz : Int) = (m : Int) := by rw [← hm]; rfl
  rw [hsz2, hm] at hno
  have hb0 := W_hid (Blk.new w 38 [.int .u64 (va : Int), .int .u64 (f : Int), .int .i64 p, .bool h] rfl)
  have bel0 := W_hid ((Below.refl w.heap.size w).alloc (Nat.le_refl _) (.cells #[.int .u64 (va : Int), .int .u64 (f : Int), .int .i64 p, .bool h] 38))
  have hts : ok = false ∨ (ok = true ∧ decide ((140737488355328 : Int) ≤ (va : Int)) = true) ∨ (ok = true ∧ decide ((140737488355328 : Int) ≤ (va : Int)) = false ∧ ((m : Int) != 0) = true) := by
    cases ok with
    | false => exact .inl rfl
    | true =>
      by_cases h1 : va < 140737488355328
      · refine .inr (.inr ⟨rfl, by simp; omega, ?_⟩)
        have : m ≠ 0 := fun e => hno ⟨hok.1 rfl, e, h1⟩
        simp; omega
      · exact .inr (.inl ⟨rfl, by simp; omega⟩)
  clear hno hok hsz hsz2 hS hm
  have hzz : ((sz : Int) == 0) = false := by simp; omega
  have hzn : ¬ sz = 0 := by omega
  have hzi : ¬ (sz : Int) = 0 := by omega
  cases h with
  | true =>
    have hR2 : Hid (∀ w, Calls Tryz.prog 105 #[.agg #[.bool false, .bool true, .int .i64 p, .int .u64 (f : Int)], .int .i64 2] w fun e w' => e = .returned (.bool ok) ∧ Below w.heap.size w w') := hR
    clear hR
    go_enter Tryz.func51, Tryz.ntmps51
    go_wp2_with fail
    refine (hR2.out _).mono ?_
    rintro e w1 ⟨rfl, bel1⟩
    have hb1 := hb0.out.keep bel1
    have k0 := hb1.cell (j := 0) rfl
    have k1 := hb1.cell (j := 1) rfl
    have k2 := hb1.cell (j := 2) rfl
    have k3 := hb1.cell (j := 3) rfl
    have bel2 := W_hid (bel0.out.trans (bel1.mono (by simp)))
    clear bel1 hb1 hR2
    rcases hts with rfl | ⟨rfl, d2⟩ | ⟨rfl, d2, d3⟩
    · go_wp2_with fail
      go_quiet (fail)
      go_wp2
      go_ret
      exact ⟨rfl, below_drewN bel2.out _⟩
    · go_wp2_with fail
      go_quiet (fail)
      go_wp2
      go_ret
      exact ⟨rfl, below_drewN bel2.out _⟩
    · go_wp2_with fail
      go_region_held3 (fun w' => w'.cell? ⟨w.heap.size, 0, none⟩ = some (.int .u64 (va : Int)) ∧ w'.cell? ⟨w.heap.size, 1, none⟩ = some (.int .u64 (f : Int)) ∧ w'.cell? ⟨w.heap.size, 2, none⟩ = some (.int .i64 p) ∧ w'.cell? ⟨w.heap.size, 3, none⟩ = some (.bool true)) (first | assumption | go_keep)
        (first | (go_at_call 24; refine (hS2.out _).mono ?_; rintro e w2 ⟨rfl, bel3⟩; have x0 := cell_keep bel3 rfl k0; have x1 := cell_keep bel3 rfl k1; have x2 := cell_keep bel3 rfl k2; have x3 := cell_keep bel3 rfl k3; have bl := W_hid (bel_step bel2.out bel3); clear bel3))
      go_wp2_with fail
      go_ret
      exact ⟨rfl, bl.out⟩
  | false =>
    have hR2 : Hid (∀ w, Calls Tryz.prog 105 #[.agg #[.bool false, .bool false, .int .i64 p, .int .u64 (f : Int)], .int .i64 1] w fun e w' => e = .returned (.bool ok) ∧ Below w.heap.size w w') := hR
    clear hR
    go_enter Tryz.func51, Tryz.ntmps51
    go_wp2_with fail
    refine (hR2.out _).mono ?_
    rintro e w1 ⟨rfl, bel1⟩
    have hb1 := hb0.out.keep bel1
    have k0 := hb1.cell (j := 0) rfl
    have k1 := hb1.cell (j := 1) rfl
    have k2 := hb1.cell (j := 2) rfl
    have k3 := hb1.cell (j := 3) rfl
    have bel2 := W_hid (bel0.out.trans (bel1.mono (by simp)))
    clear bel1 hb1 hR2
    rcases hts with rfl | ⟨rfl, d2⟩ | ⟨rfl, d2, d3⟩
    · go_wp2_with fail
      go_quiet (fail)
      go_wp2
      go_ret
      exact ⟨rfl, below_drewN bel2.out _⟩
    · go_wp2_with fail
      go_quiet (fail)
      go_wp2
      go_ret
      exact ⟨rfl, below_drewN bel2.out _⟩
    · go_wp2_with fail
      go_region_held3 (fun w' => w'.cell? ⟨w.heap.size, 0, none⟩ = some (.int .u64 (va : Int)) ∧ w'.cell? ⟨w.heap.size, 1, none⟩ = some (.int .u64 (f : Int)) ∧ w'.cell? ⟨w.heap.size, 2, none⟩ = some (.int .i64 p) ∧ w'.cell? ⟨w.heap.size, 3, none⟩ = some (.bool false)) (first | assumption | go_keep)
        (first | (go_at_call 24; refine (hS2.out _).mono ?_; rintro e w2 ⟨rfl, bel3⟩; have x0 := cell_keep bel3 rfl k0; have x1 := cell_keep bel3 rfl k1; have x2 := cell_keep bel3 rfl k2; have x3 := cell_keep bel3 rfl k3; have bl := W_hid (bel_step bel2.out bel3); clear bel3))
      go_wp2_with fail
      go_ret
      exact ⟨rfl, bl.out⟩
end Go.Proofs.YtigbjhmodpplbaaGreatDoor

namespace Go.Proofs.YtigbjhmodpplbaaGreatDoor
open Go.ChangeShapes Go.WideShapes Go.ChangeAt Go.RowKit
set_option linter.unusedVariables false

section
variable {P : Program} {ops : Array Oper} {Q : Exit → Act → World → Prop} {md : Region.Mode} {S : World → Prop} {m : Nat}

/-- Whatever order is picked: S holds behind each operation but number m. -/
def UpTo (P : Program) (md : Region.Mode) (ops : Array Oper) (Q : Exit → Act → World → Prop) (S : World → Prop) (m : Nat) : Nat → Array Bool → Act → World → Prop
  | 0, ls, a, w => Region.ready md ops ls = [] ∧ Q .normal a w
  | k + 1, ls, a, w => (Region.ready md ops ls = [] → Q .normal a w) ∧ ∀ j ∈ Region.ready md ops ls, wpOp P ops Q j (fun a' w' => (j ≠ m → S w') ∧ UpTo P md ops Q S m k (ls.setIfInBounds j true) a' w') a w
theorem UpTo.any : ∀ (k : Nat) (ls : Array Bool) (a : Act) (w : World), UpTo P md ops Q S m k ls a w → wpAny P md ops Q k ls a w
  | 0, _, _, _, h => h
  | k + 1, _, _, _, h => ⟨h.1, fun j hj => wpOp_mono (fun a' w' h' => UpTo.any k _ a' w' h'.2) (h.2 j hj)⟩

/-- An operation for which m waits may be taken first. -/
theorem UpTo.first {i : Nat} {o : Oper} {v : Value} (hi : ops[i]? = some o) (hwait : Region.waitsFor md ops m i = true) (hne : i ≠ m) (hsel : ∀ (j : Nat) (o : Oper) cs b, ops[j]? = some o → o.op ≠ .select cs b)
    (hQ : ∀ c a w, Q (.panic c) (a.put o.dst v) w → Q (.panic c) a w) :
    ∀ (k : Nat) (ls : Array Bool) (a : Act) (w : World),
      (∀ j oj, ops[j]? = some oj → j ≠ i → ls.getD j true = false → (∀ e ∈ oj.after, Region.binds md e = true → e.on ≠ i) → o.apart ops oj = true) →
      i ∈ Region.ready md ops ls → YieldsIf P ops S o v a → S w →
      UpTo P md ops Q S m k (ls.setIfInBounds i true) (a.put o.dst v) w → UpTo P md ops Q S m (k + 1) ls a w := by
  have unl : ∀ {ls : Array Bool}, i ∈ Region.ready md ops ls → ls.getD i false = false := fun {ls} h => by
    have h0 := (mem_ready.1 h).1
    by_cases hlt : i < ls.size
    · simp [hlt] at h0 ⊢; exact h0
    · simp [Array.getElem?_eq_none (Nat.le_of_not_lt hlt)]
  intro k
  induction k with
  | zero =>
    intro ls a w _ hr hy hS H
    refine ⟨fun e => (by rw [e] at hr; cases hr), fun j hj => ?_⟩
    by_cases hji : j = i
    · subst hji; exact hy.wpOp hi hS ⟨fun _ => hS, H⟩
    · have h1 := ready_mono hj hji
      rw [H.1] at h1; cases h1
  | succ k ih =>
    intro ls a w hfr hr hy hS H
    refine ⟨fun e => (by rw [e] at hr; cases hr), fun j hj => ?_⟩
    by_cases hji : j = i
    · subst hji; exact hy.wpOp hi hS ⟨fun _ => hS, H⟩
    obtain ⟨hju, oj, hoj, hall⟩ := mem_ready.1 hj
    have hapart : ∀ e ∈ oj.after, Region.binds md e = true → e.on ≠ i := fun e he hb e2 => by
      have h1 := hall e he hb
      rw [e2, unl hr] at h1; cases h1
    have hjm : j ≠ m := by
      rintro rfl
      obtain ⟨o2, ho2, e, he, hb, hon⟩ := Region.waitsFor_spec hwait
      obtain rfl : o2 = oj := Option.some.inj (ho2.symm.trans hoj)
      exact hapart e he hb hon
    have h2 := wpOp_putIf hoj (hfr j oj hoj hji hju hapart) (fun cs b => hsel i o cs b hi) (fun cs b => hsel j oj cs b hoj) hQ hy (H.2 j (ready_mono hj hji))
    refine wpOp_mono (fun a' w' h3 => ⟨h3.2.1, ih (ls.setIfInBounds j true) a' w' (fun x ox hx hxi hun hno => hfr x ox hx hxi ?_ hno) (ready_mono hr (Ne.symm hji)) h3.1 (h3.2.1 hjm) ?_⟩) h2
    · by_cases e : j = x
      · subst e; exact hju
      · rw [getD_set_ne true e] at hun; exact hun
    · rw [Array.setIfInBounds_comm _ _ hji]
      exact h3.2.2
theorem UpTo.take {i : Nat} {o : Oper} {v : Value} {k : Nat} {ls : Array Bool} {a : Act} {w : World} (hi : ops[i]? = some o) (hwait : (Region.waitsFor md ops m i && decide (i ≠ m)) = true)
    (hs : Region.noSelect ops = true) (hf : Region.free md ops ls i = true) (hr : (Region.ready md ops ls).contains i = true)
    (hQ : ∀ c a w, Q (.panic c) (a.put o.dst v) w → Q (.panic c) a w) (hy : YieldsIf P ops S o v a) (hS : S w)
    (h : UpTo P md ops Q S m k (ls.setIfInBounds i true) (a.put o.dst v) w) : UpTo P md ops Q S m (k + 1) ls a w := by
  rw [Bool.and_eq_true, decide_eq_true_eq] at hwait
  exact UpTo.first hi hwait.1 hwait.2 (Region.noSelect_spec hs) hQ k ls a w (Region.free_spec hi hf) (by simpa using hr) hy hS h
/-- One operation alone may come up. -/
theorem UpTo.one {i : Nat} {o : Oper} {k : Nat} {ls : Array Bool} {a : Act} {w : World} (hr : Region.ready md ops ls = [i]) (ho : ops[i]? = some o) (hsel : o.guard = none)
    (h : ∀ K' : Act → World → Prop, Hid (∀ a' w', S w' → UpTo P md ops Q S m k (ls.setIfInBounds i true) a' w' → K' a' w') → if Region.wanted o (yielded ops a.tmps) = true then Oper.wp P o a w K' Q else K' (a.put o.dst undef) w) : UpTo P md ops Q S m (k + 1) ls a w := by
  refine ⟨fun e => (by rw [hr] at e; cases e), fun j hj => ?_⟩
  rw [hr] at hj
  obtain rfl : j = i := by simpa using hj
  have hw : Region.wanted o (yielded ops a.tmps) = true := by simp [Region.wanted, hsel]
  have h1 := h (fun a' w' => (j ≠ m → S w') ∧ UpTo P md ops Q S m k (ls.setIfInBounds j true) a' w') (W_hid (fun a' w' hS hU => ⟨fun _ => hS, hU⟩))
  rw [if_pos hw] at h1
  unfold wpOp
  simp only [ho, hw, if_true]
  exact .inl h1
/-- The last one. -/
theorem UpTo.last {o : Oper} {k : Nat} {ls : Array Bool} {a : Act} {w : World} (hr : Region.ready md ops ls = [m]) (ho : ops[m]? = some o) (hsel : o.guard = none) (hend : Region.ready md ops (ls.setIfInBounds m true) = [])
    (h : Oper.wp P o a w (Q .normal) Q) : UpTo P md ops Q S m (k + 1) ls a w := by
  refine ⟨fun e => (by rw [hr] at e; cases e), fun j hj => ?_⟩
  rw [hr] at hj
  obtain rfl : j = m := by simpa using hj
  have hw : Region.wanted o (yielded ops a.tmps) = true := by simp [Region.wanted, hsel]
  have key : ∀ a' w', Q .normal a' w' → (j ≠ j → S w') ∧ UpTo P md ops Q S j k (ls.setIfInBounds j true) a' w' := fun a' w' hq => ⟨fun e => absurd rfl e, by
    cases k with
    | zero => exact ⟨hend, hq⟩
    | succ k => exact ⟨fun _ => hq, fun x hx => by rw [hend] at hx; cases hx⟩⟩
  refine wpOp_mono key ?_
  unfold wpOp
  simp only [ho, hw, if_true]
  exact .inl h
theorem UpTo.region {id : Nat} {a : Act} {w : World} (hm : P.follows .mixedOrders = true) (hS : S w.drew) (h : S w.drew → UpTo P .any ops Q S m ops.size (Array.replicate ops.size false) a w.drew) : (Code.region id ops true).wp P Q a w :=
  wp_region_any hm (UpTo.any _ _ _ _ (h hS))
end
end Go.Proofs.YtigbjhmodpplbaaGreatDoor

/- Contract of package radix's lengthen: the tables that a way lacks. -/
import Derived.Test.YthiojnbnhagcgaaDoorRadTake
import Derived.Test.YthiojnbnhagcgaaDoorRadGrow
namespace Go.Proofs.YthiojnbnhagcgaaDoor
open Go.ChangeShapes Go.WideShapes Go.ChangeAt Go.RowKit
set_option linter.unusedVariables false
set_option linter.unusedSimpArgs false

/-- All frames of tables are taken. -/
def Tk (F : RX.Tabs) (T : Nat → Bool) : Prop := ∀ l j f, F l j = some f → T f = true
theorem fresh_step {F : RX.Tabs} {l c f : Nat} {rest : List Nat} (h : ∀ f' ∈ f :: rest, ∀ a b, F a b ≠ some f') (hn : (f :: rest).Nodup) : ∀ f' ∈ rest, ∀ a b, RX.updF F l c (some f) a b ≠ some f' := by
  intro f' hf' a b e
  unfold RX.updF at e
  split at e
  · obtain rfl := Option.some.inj e
    exact (List.nodup_cons.1 hn).1 hf'
  · exact h f' (List.mem_cons_of_mem _ hf') a b e
theorem rep_none {F : RX.Tabs} {G : RX.Pags} {M : Nat → Option (Nat → Nat)} (R : RX.Rep M F G) {f : Nat} (h : ∀ a b, F a b ≠ some f) : M f = none := R.no h

theorem wl_put {va q f : Nat} {fr : Nat → Nat} {e : Bool × Bool × Int × Nat} {p : Bool} (hq : q ≤ 3) :
    ((wl va fr (q + 1) e p).set 6 (.int .i64 (q : Int))).set (1 + q) (.int .u64 (f : Int)) = wl va (fun k => if k = q then f else fr k) q e p := by
  have : q = 0 ∨ q = 1 ∨ q = 2 ∨ q = 3 := by omega
  rcases this with rfl | rfl | rfl | rfl <;> simp [wl]
/-- What stands behind j rounds. -/
structure LenAt (F : RX.Tabs) (G : RX.Pags) (va L : Nat) (fr : Nat → Nat) (fs : List Nat) (r n j : Nat) (F' : RX.Tabs) (M' : Nat → Option (Nat → Nat)) (fr' : Nat → Nat) : Prop where
  inv : RX.Inv F' G r n
  rep : RX.Rep M' F' G
  opn : RX.Open F' G va (L - j) fr'
  tab : RX.addT F' va (L - j) (fs.drop j) = RX.addT F va L fs
  frm : RX.frT fr' (L - j) (fs.drop j) = RX.frT fr L fs
  fresh : ∀ f ∈ fs.drop j, ∀ a b, F' a b ≠ some f

set_option maxRecDepth 100000 in
set_option maxHeartbeats 4000000 in
theorem lengthen_any (g pg pb n m r b va L lo : Nat) (E : Bool × Bool × Int × Nat) (p : Bool) (fr : Nat → Nat) (T : Nat → Bool) (M : Nat → Option (Nat → Nat)) (F : RX.Tabs) (G : RX.Pags) (fs : List Nat) (w : World) (h : TT w g pg pb n m T r b M)
    (I : RX.Inv F G r n) (R : RX.Rep M F G) (O : RX.Open F G va L fr) (hTk : Tk F T) (hva : va < 140737488355328) (hlo : 1 ≤ lo) (hlL : lo ≤ L) (hfs : fs.length = L - lo ∨ fs.length < L - lo ∧ FR.NoLow (takeAll T fs) n 1) (hT : Takes T n fs) :
    Calls Tryd.prog 29 #[.pointer (some ⟨g, 0, none⟩), .agg (wl va fr L E p).toArray, .int .i64 (lo : Int)] w fun e w' =>
      (fs.length = L - lo ∧ ∃ M', e = .returned (.agg (wl va (RX.frT fr L fs) lo E p).toArray) ∧ TT w' g pg pb n m (takeAll T fs) r b M' ∧ LenAt F G va L fr fs r n (L - lo) (RX.addT F va L fs) M' (RX.frT fr L fs) ∧ But [pg, pb, b] w w') ∨
      (fs.length < L - lo ∧ e = .panicked (fault 24) ∧ TT w' g pg pb n m T r b M ∧ But [pg, pb, b] w w') := by
  have hMn : ∀ f ∈ fs, ∀ a b, F a b ≠ some f := fun f hf a b e => by
    have h1 := hTk a b f e
    rw [(hT.free f hf).2] at h1
    cases h1
  have hl4 := O.l4
  have hTake := W_hid (fun w h => take_any g pg pb n m r b (L - lo) T M fs w h hfs (by omega) hT (fun f hf => rep_none R (hMn f hf)))
  have hS0 := W_hid (show LenAt F G va L fr fs r n 0 F M fr from ⟨I, R, O, rfl, rfl, hMn⟩)
  have hnd := W_hid hT.nodup
  have hfree := W_hid hT.free
  have hn2 := I.n2
  have H := W_hid h
  have q6 : (wl va fr L E p)[6]? = some (.int .i64 (L : Int)) := rfl
  have hgl := h.tm.box.lt
  have hkt := W_hid h.tm.kt.lt
  have hpl := h.pl.lts
  have hbl := h.tm.mb.lt
  obtain ⟨d, hd⟩ : ∃ d, d = L - lo := ⟨_, rfl⟩
  rw [← hd] at hTake hfs ⊢
  have ed : (L : Int) - lo = (d : Int) := by omega
  have hL4 := W_hid (show L - d = lo ∧ d + lo = L ∧ L ≤ 4 by omega)
  have hd9 : d ≤ 4 := by omega
  clear h hTk hMn R O I hT hfs hl4 hlL hd
  go_enter Tryd.func29, Tryd.ntmps29
  go_wp2_with fail
  refine (hTake.out _ (H.out.keep (((Below.refl _ _).alloc (Nat.le_refl _) _).alloc (by simp) _))).mono ?_
  have hx0 : Hid (Blk ((w.alloc (.cells (wl va fr L E p).toArray 59)).alloc (.cells wzero.toArray 59)) w.heap.size 59 (wl va fr L E p)) := W_hid (Blk.alloc (Blk.new w _ _ rfl) _)
  have hz0 : Hid (Blk ((w.alloc (.cells (wl va fr L E p).toArray 59)).alloc (.cells wzero.toArray 59)) (w.heap.size + 1) 59 wzero) := W_hid (Blk.new (w.alloc _) _ _ (by simp))
  have hb0 : Hid (But [pg, pb, b] w ((w.alloc (.cells (wl va fr L E p).toArray 59)).alloc (.cells wzero.toArray 59))) := W_hid (((But.refl _ w).alloc _).alloc _)
  have hH0 : Hid (TT ((w.alloc (.cells (wl va fr L E p).toArray 59)).alloc (.cells wzero.toArray 59)) g pg pb n m T r b M) := W_hid (H.out.keep (((Below.refl _ _).alloc (Nat.le_refl _) _).alloc (by simp) _))
  rintro e w1 (⟨hlen, ao, cap, rfl, hown, hP1, t1⟩ | ⟨hlen, rfl, hP1, t1⟩)
  · have hx1 := W_hid (hx0.out.two t1 (by omega) (by omega))
    have hz1 := W_hid (hz0.out.two t1 (by omega) (by omega))
    have HT1 := W_hid (hH0.out.pool hP1 t1)
    have hb1 := W_hid (hb0.out.trans (But.two t1 (by simp) (by simp)))
    have how1 := W_hid (own_base (base' := w.heap.size + 2) (by simp) hown)
    clear hx0 hz0 hb0 hH0 hP1 t1 hown
    clear hTake H q6
    go_wp2_with fail
    go_loopw [18] (fun i wr => ∃ (j : Nat) (F' : RX.Tabs) (M' : Nat → Option (Nat → Nat)) (fr' : Nat → Nat), j ≤ d ∧ i = .int .i64 (j : Int) ∧ Hid (LenAt F G va L fr fs r n j F' M' fr') ∧ Hid (Blk wr w.heap.size 59 (wl va fr' (L - j) E p)) ∧ Hid (Blk wr (w.heap.size + 1) 59 wzero) ∧ Hid (wr.ownsRow (w.heap.size + 2) 22 1 (.slice ao d cap) d (ucel fs)) ∧ Hid (TT wr g pg pb n m (takeAll T fs) r b M') ∧ Hid (But [pg, pb, b] w wr)) (fun i _ => d - (intOf i).toNat)
    case atStart => exact ⟨0, F, M, fr, by omega, rfl, hS0, hx1, hz1, how1, HT1, hb1⟩
    case round =>
      obtain ⟨j, F', M', fr', hj, rfl, hS, hX, hZ, hO, HT, hB⟩ := hrel
      clear hx1 hz1 how1 HT1 hb1 hS0
      by_cases hlt : j < d
      · have hjl : j < fs.length := by omega
        obtain ⟨l, hl⟩ : ∃ l, L - j = l := ⟨_, rfl⟩
        rw [hl] at hX
        have hl2 : 2 ≤ l ∧ l ≤ 4 := by have := hL4.out; omega
        have hdrop := List.drop_eq_getElem_cons hjl
        have hS' := hS.out
        have hfn := (hfree.out fs[j] (List.getElem_mem hjl)).1
        have hfresh : ∀ a b, F' a b ≠ some fs[j] := hS'.fresh _ (by rw [hdrop]; exact List.mem_cons_self)
        have hst := RX.open_step hS'.inv hS'.rep hS'.opn (f := fs[j]) (by omega) hfresh hfn
        have hnext := W_hid (show LenAt F G va L fr fs r n (j + 1) _ _ _ from ⟨hst.1, hst.2.1, by rw [show L - (j + 1) = L - j - 1 by omega]; exact hst.2.2,
          by have := hS'.tab; rw [hdrop] at this; rw [show L - (j + 1) = L - j - 1 by omega]; exact this,
          by have := hS'.frm; rw [hdrop] at this; rw [show L - (j + 1) = L - j - 1 by omega]; exact this,
          fresh_step (by rw [← hdrop]; exact hS'.fresh) (by rw [← hdrop]; exact (List.drop_sublist j fs).nodup hnd.out)⟩)
        rw [hl] at hnext
        obtain ⟨y, hao, hy1, hy2, hrow⟩ := own_row (fs := fs) (by rw [hlen]; exact hO.out) (by omega)
        subst hao
        have hcf : wr.cell? ⟨y, j, none⟩ = some (.int .u64 ((fs[j] : Nat) : Int)) := by have := hrow j hjl; rwa [Nat.zero_add] at this
        have hflt : fs[j] < 65536 := by omega
        have hEnc := W_hid (fun w hk => Encode_yes true false 7 fs[j] (l : Int) ⟨by omega, by omega, by omega, .inl ⟨rfl, by omega, rfl, rfl⟩⟩ w hk)
        have hfrl := W_hid (RX.Way.lt hS'.inv hS'.opn.toWay l)
        have hSet := W_hid (fun w h => setw_any g pg r b va l l (EN.wd false 7 fs[j]) fr' E p M' hva (by omega) (by omega) hfrl.out w h)
        have k6 : wr.cell? ⟨w.heap.size, 6, none⟩ = some (.int .i64 (l : Int)) := hX.out.cell rfl
        generalize hfe : fs[j] = f at *
        have hlt3 : (j : Int) < d := by omega
        clear hS' hst hfresh hdrop hrow hfe
        go_wp2_with fail
        refine (hEnc.out _ HT.out.tm.kt).mono ?_
        rintro e w2 ⟨rfl, bel2⟩
        have HT2 := W_hid (HT.out.keep bel2)
        have hX2 := W_hid (hX.out.keep bel2)
        have hZ2 := W_hid (hZ.out.keep bel2)
        have hO2 := W_hid (Own.below hO.out bel2)
        have hB2 := W_hid (hB.out.keep bel2)
        have k6' : w2.cell? ⟨w.heap.size, 6, none⟩ = some (.int .i64 (l : Int)) := hX2.out.cell rfl
        clear bel2 hX hZ hO HT hB k6 hcf hEnc
        go_wp2_with (refine wpList_load_row rfl 59 _ rfl w.heap.size rfl _ _ _ _ hX2.out Tryd.underlying59 rfl (wl_info _ _ _ _ _) ?_)
        refine (hSet.out _ HT2.out.tm).mono ?_
        rintro e w3 ⟨rfl, hM3, t3⟩
        obtain ⟨M1, hM1⟩ : ∃ M1, M1 = upd M' (fr' l) (some (wset ((M' (fr' l)).getD zero) (EN.idx va l) (EN.wd false 7 f))) := ⟨_, rfl⟩
        rw [← hM1] at hM3 hnext
        have HT3 := W_hid (HT2.out.map hM3 t3)
        have hX3 := W_hid (hX2.out.two t3 (by omega) (by omega))
        have hZ3 := W_hid (hZ2.out.two t3 (by omega) (by omega))
        have hO3 := W_hid (own_two hO2.out t3 (by omega) (by omega))
        have hB3 := W_hid (hB2.out.trans (But.two t3 (by simp) (by simp)))
        obtain ⟨q, hq⟩ : ∃ q, q = l - 1 := ⟨_, rfl⟩
        have eq1 : (l : Int) - 1 = (q : Int) := by omega
        have q5 : (q : Int) < 5 := by omega
        have k6 : w3.cell? ⟨w.heap.size, 6, none⟩ = some (.int .i64 (l : Int)) := hX3.out.cell rfl
        have kq : w3.cell? ⟨w.heap.size, 1 + q, none⟩ = some (.int .u64 ((fr' q : Nat) : Int)) := hX3.out.cell (wl_get (by omega))
        have k2 : w3.cell? ⟨g, 2, none⟩ = some (.map (some b)) := HT3.out.tm.box.cell rfl
        have fX := hX3.out.fz
        have hgx : ¬ g = w.heap.size := by omega
        have hxg : ¬ w.heap.size = g := by omega
        have hq2 := W_hid hq
        replace hM1 := W_hid hM1
        clear hX2 hZ2 hO2 HT2 hB2 k6' hSet hM3 t3 hq
        go_wp2_with (refine wpList_put_b rfl _ _ _ rfl b f zero M1 rfl rfl rfl ((HT3.out.tm.mb.far (by show b ≠ w.heap.size; omega) _).far (by show b ≠ w.heap.size; omega) _) hflt ?_; intro w4 hM4 hg4 _; have hM4' := W_hid hM4; have hg4' := W_hid hg4; clear hM4 hg4)
        have tX := (((Two.refl w.heap.size b w3).setCell (p := ⟨w.heap.size, 6, none⟩) (.inl rfl) (.int .i64 (q : Int))).setCell (p := ⟨w.heap.size, 1 + q, none⟩) (.inl rfl) (.int .u64 (f : Int))).trans (two_grown (Below.refl _ _) hg4'.out).wide
        have hX4 := ((hX3.out.set 6 (.int .i64 (q : Int))).set (1 + q) (.int .u64 (f : Int))).grown hg4'.out (fun e => by have := Option.some.inj e; omega)
        have el : l = q + 1 := by have := hq2.out; omega
        rw [el, wl_put (by omega)] at hX4
        have hk0 := HT3.out.tm.kt.lt
        have hk0' := hkt.out
        have HT4 := HT3.out.map2 hM4'.out tX (by omega) (by omega) (by omega) (by omega)
        have hB4 : But [pg, pb, b] w w4 := ((hB3.out.set (p := ⟨w.heap.size, 6, none⟩) (.inr (Nat.le_refl _)) _).set (p := ⟨w.heap.size, 1 + q, none⟩) (.inr (Nat.le_refl _)) _).trans (But.two (two_grown (Below.refl _ _) hg4'.out) (by simp) (by simp))
        have hZ4 := W_hid (hZ3.out.two tX (by omega) (by omega))
        have hO4 := W_hid (own_two hO3.out tX (by omega) (by omega))
        have hnx := hnext.out
        rw [hM1.out, ← hq2.out] at hnx
        rw [hM1.out] at HT4
        have hql : q = L - (j + 1) := by have := hq2.out; omega
        rw [hql] at hX4 hnx
        have hnx' := W_hid hnx
        have hX4' := W_hid hX4
        have HT4' := W_hid HT4
        have hB4' := W_hid hB4
        clear hnx hX4 HT4 hB4 hnext tX hk0 hk0' hX3 hZ3 hO3 HT3 hB3 hg4' hM4' k6 kq k2 fX
        go_roundw
        case rel => exact ⟨j + 1, _, _, _, by omega, by go_num, hnx', hX4', hZ4, hO4, HT4', hB4'⟩
        case measure => simp [intOf]; omega
      · obtain rfl : j = d := by omega
        have e0 : fs.drop j = [] := List.drop_eq_nil_of_le (by omega)
        have hS' := hS.out
        have hT1 := hS'.tab
        have hF1 := hS'.frm
        rw [e0] at hT1 hF1
        replace hT1 : F' = RX.addT F va L fs := hT1
        replace hF1 : fr' = RX.frT fr L fs := hF1
        subst hT1
        subst hF1
        rw [hL4.out.1] at hX
        have hX' := hX
        have hZ' := hZ
        have hS2 := W_hid hS'
        clear hS hS' e0 hX hZ
        go_wp2_with (first
          | (refine wpList_load_row rfl 59 _ rfl w.heap.size rfl _ _ _ _ hX'.out Tryd.underlying59 rfl (wl_info _ _ _ _ _) ?_)
          | (refine wpList_store_b rfl 59 _ _ rfl (w.heap.size + 1) (wl va (RX.frT fr L fs) lo E p) rfl rfl _ _ hZ'.out (wl_info _ _ _ _ _) rfl (wl_one _ _ _ _ _) ?_; intro w3 hZ3 hb3 he3; have bel3 : Below (w.heap.size + 1) wr w3 := hb3 _ _ (Nat.le_refl _) (Below.refl _ _); have he3' := he3; have hZ3' := W_hid hZ3; clear hZ3 hb3 he3))
        refine bodyPost_ret (res_way rfl _ _ rfl hZ3'.out rfl) rfl (.inl ⟨hlen, M', rfl, ?_, hS2.out, ?_⟩)
        · have tX : Two (w.heap.size + 1) b wr w3 := ⟨bel3.os, bel3.tape, bel3.output, bel3.size, fun k hk h1 h2 => by rw [he3'.out]; exact setRow_other _ _ _ _ h1⟩
          have hk0' := hkt.out
          exact HT.out.map2 (HT.out.tm.mb.heap (bel3.block b (by omega))) tX (by omega) (by omega) (by omega) (by omega)
        · exact hB.out.low (bel3.mono (by omega))
  · have HT1 := W_hid (hH0.out.pool hP1 t1)
    have hb1 := W_hid (hb0.out.trans (But.two t1 (by simp) (by simp)))
    clear hx0 hz0 hb0 hH0 hP1 t1
    go_wp2
    exact ⟨rfl, .inr ⟨hlen, rfl, HT1.out, hb1.out⟩⟩
end Go.Proofs.YthiojnbnhagcgaaDoor

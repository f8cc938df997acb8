/- Stage 18, the document: New; lists compared. -/
import Derived.Test.YtjafjjfcmcpaoaaRefMmA
namespace Go.Proofs.Ytjafjjfcmcpaoaa
open Go.ChangeShapes Go.WideShapes Go.ChangeAt Go.RowKit
set_option linter.unusedVariables false
set_option linter.unusedSimpArgs false
set_option maxRecDepth 100000
namespace MC
open IN (lt_of_some)
theorem rNew_no {w : World} {c : Int} {ao : Option Addr} {n cap : Nat} (hc : I64 c) (h : ¬ newOK c n) (hn : n ≤ 9223372036854775807) :
    Calls Try.prog 11 #[.int .i64 c, .slice ao n cap] w fun e w' => e = .returned (.tuple #[.pointer none, .int .i64 2]) ∧ w = w' := by
  unfold newOK at h
  by_cases h1 : c < 1
  · go_enter Try.func11, Try.ntmps11
    go_wp2_with fail
    go_ret2
    exact ⟨rfl, rfl⟩
  · by_cases h2 : 65536 < c
    · go_enter Try.func11, Try.ntmps11
      go_wp2_with fail
      go_ret2
      exact ⟨rfl, rfl⟩
    · have h3 : (64 : Int) < (n : Int) := by omega
      go_enter Try.func11, Try.ntmps11
      go_wp2_with fail
      go_ret2
      exact ⟨rfl, rfl⟩
section
variable {lo a b : Nat} {w w' w1 : World} {gm gc : Nat} {vt : Value} {S : Ma} {L : List (Value × Th)}
theorem DMg.grow (h : DMg lo a b w gm gc vt S L) (hb : Below w.heap.size w w') : DMg lo a w'.heap.size w' gm gc vt S L := by
  have hm : ∀ k, k < w.heap.size → w'.heap[k]? = w.heap[k]? := hb.block
  have hbt := h.raw.top
  have hs := hb.size
  refine ⟨⟨(hm gc h.raw.cel.lt).trans h.raw.cel, own_move h.raw.thr fun k hv => hm k (by have := h.raw.thb k hv; omega), h.raw.gc1, by have := h.raw.gc2; omega, fun k hk => by have := h.raw.thb k hk; omega, fun x hx => (h.raw.prg x hx).keep hb, fun x hx hn k hk => ?_, h.raw.lo, Nat.le_refl _, h.raw.r8⟩, (hm gm h.box.lt).trans h.box, h.gm1, by have := h.gm2; omega, h.lt⟩
  rcases h.raw.far x hx hn k hk with h1 | ⟨h1, h2, arr, h3⟩
  · exact .inl h1
  · exact .inr ⟨h1, by omega, arr, (hm k (lt_of_some h3)).trans h3⟩
theorem DMg.pushT (h : DMg lo a b w gm gc vt S L) (hg : w.grownBy w1 vt.ownBlock) {vt' v : Value} {t : Th} (ho : w1.ownsRow a TU 10 vt' (L ++ [(v, t)]).length (tcl (L ++ [(v, t)]))) (hv : vt'.ownBlock = vt.ownBlock ∨ ∃ k, vt'.ownBlock = some k ∧ w.heap.size ≤ k)
    (hp : Own.Src w 5 v t.p.length (xcl t.p)) (hf : t.p ≠ [] → ∀ k, vb v = some k → k < lo) (h8 : t.r.length = 8) :
    DMg lo a w1.heap.size (w1.setCell ⟨gm, 1, none⟩ vt') gm gc vt' ⟨S.c, S.t ++ [t]⟩ (L ++ [(v, t)]) ∧ Win a w.heap.size w (w1.setCell ⟨gm, 1, none⟩ vt') := by
  have hgmv : vt.ownBlock ≠ some gm := fun e => by
    obtain ⟨cur, hc⟩ := own_obj h.raw.thr e
    exact obj_ne h.box hc (by decide) rfl
  have hne : ∀ k, vt.ownBlock = some k → ∀ {x : Array Value} {e : TypeId} {g : Nat}, w.heap[g]? = some (.cells x e (0, 0)) → e ≠ TU → g ≠ k := fun k hk x e g hx he => by
    obtain ⟨cur, hc⟩ := own_obj h.raw.thr hk
    exact obj_ne hx hc he
  have same : ∀ k, k < w.heap.size → k ≠ gm → some k ≠ vt.ownBlock → (w1.setCell ⟨gm, 1, none⟩ vt').heap[k]? = w.heap[k]? := fun k h1 h2 h3 => (Below.heap_setCell w1 ⟨gm, 1, none⟩ vt' k h2).trans (hg.block k h1 h3)
  have hbt := h.raw.top
  have hs := hg.size
  have hgc : some gc ≠ vt.ownBlock := fun e => hne gc e.symm h.raw.cel (by decide) rfl
  have hmc : gc ≠ gm := fun e => obj_ne h.box h.raw.cel (by decide) e.symm
  have hgm' : Blk w1 gm TD _ := h.box.grown hg (fun e => hgmv e.symm)
  have hgm1 := h.gm1
  have hgml := h.box.lt
  have hlo := h.raw.lo
  have hlow : ∀ k, k < lo → k < w.heap.size ∧ k ≠ gm ∧ some k ≠ vt.ownBlock := fun k hk => ⟨by omega, by omega, fun e => by have := Own.ge h.raw.thr k e.symm; omega⟩
  have hxk : ∀ x ∈ L, x.2.p ≠ [] → ∀ k, vb x.1 = some k → k < w.heap.size ∧ k ≠ gm ∧ some k ≠ vt.ownBlock := fun x hx hn k hk => by
    rcases h.raw.far x hx hn k hk with h1 | ⟨h1, h2, arr, h3⟩
    · exact hlow k h1
    · exact ⟨lt_of_some h3, obj_ne h3 h.box (by decide), fun e => hne k e.symm h3 (by decide) rfl⟩
  have hsz : (w1.setCell ⟨gm, 1, none⟩ vt').heap.size = w1.heap.size := by simp [World.setCell]
  refine ⟨⟨⟨(same gc h.raw.cel.lt hmc hgc).trans h.raw.cel, own_move ho fun k hk => Below.heap_setCell w1 ⟨gm, 1, none⟩ vt' k (fun e => ?_), h.raw.gc1, by have := h.raw.gc2; omega, fun k hk => own_lt ho hk, fun x hx => ?_, fun x hx hn k hk => ?_, h.raw.lo, by rw [hsz]; exact Nat.le_refl _, fun x hx => ?_⟩, hgm'.set 1 vt', h.gm1, by have := h.gm2; omega, ?_⟩, ?_⟩
  · subst e
    rcases hv with hv | ⟨k2, hv, h2⟩
    · exact hgmv (hv.symm.trans hk)
    · rw [hv] at hk
      have := Option.some.inj hk
      omega
  · rcases List.mem_append.1 hx with hx | hx
    · exact src_move (h.raw.prg x hx) fun hn k hk => by obtain ⟨h1, h2, h3⟩ := hxk x hx (xne hn) k hk; exact same k h1 h2 h3
    · obtain rfl := List.mem_singleton.1 hx
      exact src_move hp fun hn k hk => by obtain ⟨h1, h2, h3⟩ := hlow k (hf (xne hn) k hk); exact same k h1 h2 h3
  · rcases List.mem_append.1 hx with hx | hx
    · obtain ⟨h1, h2, h3⟩ := hxk x hx hn k hk
      rcases h.raw.far x hx hn k hk with h4 | ⟨h4, h5, arr, h6⟩
      · exact .inl h4
      · exact .inr ⟨h4, by omega, arr, (same k h1 h2 h3).trans h6⟩
    · obtain rfl := List.mem_singleton.1 hx
      exact .inl (hf hn k hk)
  · rcases List.mem_append.1 hx with hx | hx
    · exact h.raw.r8 x hx
    · obtain rfl := List.mem_singleton.1 hx
      exact h8
  · rw [List.map_append, h.lt]; rfl
  · exact (Win.grown hg (fun k hk => ⟨Own.ge h.raw.thr k hk, own_lt h.raw.thr hk⟩)).set (p := ⟨gm, 1, none⟩) ⟨hgm1, hgml⟩ _
end
set_option maxRecDepth 100000 in
set_option maxHeartbeats 8000000 in
theorem rNew_yes {w : World} {lo C : Nat} {ao : Option Addr} {n cap : Nat} {l : List (Value × List In)} (hl : PIn w ao n l) (h : newOK (C : Int) n) (hlw : lo ≤ w.heap.size) (hfar : ∀ x ∈ l, x.2 ≠ [] → ∀ k, vb x.1 = some k → k < lo) :
    Calls Try.prog 11 #[.int .i64 (C : Int), .slice ao n cap] w fun e w' => ∃ gm, e = .returned (.tuple #[ptr gm, .int .i64 0]) ∧ DW lo w.heap.size w'.heap.size w' gm (new C (l.map Prod.snd)) ∧ Below w.heap.size w w' := by
  obtain ⟨hc1, hc2, hn64⟩ := h
  have h64 : ¬ (64 : Int) < (n : Int) := by omega
  have hzl : (Int.natAbs (C : Int)) = C := by simp
  obtain ⟨A0, hA0⟩ : ∃ A0, (w.alloc (.cells (List.replicate C (Value.int .i64 0)).toArray TC)) = A0 := ⟨_, rfl⟩
  have hmake : ∀ W : World, (Instr.makeSlice 38 (.int .i64 (C : Int)) (.int .i64 (C : Int))).run Try.prog W = .ok (.slice (some ⟨W.heap.size, 0, none⟩) C C) (W.alloc (.cells (List.replicate C (Value.int .i64 0)).toArray TC)) := fun W => by
    obtain ⟨i0, hi, hz0, hz1, hz2, hzs, hsz⟩ := info_i64
    have hr := run_make (P := Try.prog) W 38 TC i0 (.int .i64 0) und_i64s hi hz0 .i64 .i64 (C : Int) (C : Int) (by omega) (by omega) (by rw [hz2]; omega) (by omega)
    simp only [Int.toNat_natCast, hz1, Nat.mul_one] at hr
    rw [show (Value.int .i64 0).cells = #[.int .i64 0] from rfl, made_list] at hr
    exact hr
  have hb0 : Below w.heap.size w A0 := by rw [← hA0]; exact (Below.refl _ _).alloc (Nat.le_refl _) _
  have hs0 : A0.heap.size = w.heap.size + 1 := by rw [← hA0]; simp
  obtain ⟨A, hA⟩ : ∃ A, (A0.alloc (.cells #[.slice (some ⟨w.heap.size, 0, none⟩) C C, .slice none 0 0] TD)) = A := ⟨_, rfl⟩
  have hb1 : Below w.heap.size w A := by rw [← hA]; exact hb0.alloc (by omega) _
  have hs1 : A.heap.size = w.heap.size + 2 := by rw [← hA]; simp [hs0]
  have hcel : Blk A w.heap.size TC (icl (List.replicate C 0)) := by
    rw [← hA, ← hA0]
    refine Blk.alloc ?_ _
    rw [show icl (List.replicate C 0) = List.replicate C (Value.int .i64 0) by simp [icl]]
    exact Blk.new w TC _ rfl
  have hbox : Blk A (w.heap.size + 1) TD [.slice (some ⟨w.heap.size, 0, none⟩) C C, .slice none 0 0] := by
    rw [← hA]; exact Blk.new A0 TD _ hs0.symm
  have hPM : DMg lo w.heap.size A.heap.size A (w.heap.size + 1) w.heap.size (.slice none 0 0) ⟨List.replicate C 0, []⟩ [] :=
    ⟨⟨hcel, World.ownsRow_nil _ _ _ _, Nat.le_refl _, by omega, fun k hk => by simp [Value.ownBlock] at hk, fun x hx => by simp at hx, fun x hx => by simp at hx, hlw, Nat.le_refl _, fun x hx => by simp at hx⟩,
     by rw [List.length_replicate]; exact hbox, by omega, by omega, rfl⟩
  have hn := hl.1
  obtain ⟨s, hs⟩ : ∃ s, w.heap.size = s := ⟨_, rfl⟩
  have hmw : ((Instr.makeSlice 38 (.int .i64 (C : Int)) (.int .i64 (C : Int))).run Try.prog w = .ok (.slice (some ⟨w.heap.size, 0, none⟩) C C) A0) := by rw [hmake, hA0]
  replace hPM := W_hid hPM
  replace hl := W_hid hl
  replace hn := W_hid hn
  replace hb1 := W_hid hb1
  replace hA := W_hid hA
  replace hs := W_hid hs
  replace hA0 := W_hid hA0
  clear hcel hbox hb0 hzl hmake
  go_enter Try.func11, Try.ntmps11
  go_wp2_with fail
  rw [hA.out]
  go_loopw [7] (fun i wr => ∃ (k : Nat) (vt : Value) (L : List (Value × Th)), i = .int .i64 (k : Int) ∧ k ≤ n ∧ Hid (DMg lo w.heap.size wr.heap.size wr (w.heap.size + 1) w.heap.size vt ⟨List.replicate C 0, ((l.map Prod.snd).take k).map mk⟩ L) ∧ Hid (Below w.heap.size w wr)) (fun i _ => n - (intOf i).toNat)
  case atStart => exact ⟨0, _, [], rfl, Nat.zero_le _, hPM, hb1⟩
  case round =>
    obtain ⟨k, vt, L, rfl, hkn, hP, hB⟩ := hrel
    by_cases hlt : k < n
    · have hkl : k < l.length := by have := hn.out; omega
      obtain ⟨x, hx⟩ : ∃ x, l[k] = x := ⟨_, rfl⟩
      obtain ⟨g, o, rfl, hgl, hc, hsrc, hfit, hlen⟩ := hl.out.2.2 k x (by rw [List.getElem?_eq_getElem hkl, hx])
      have hfx := hfar x (by rw [← hx]; exact List.getElem_mem hkl)
      obtain ⟨v, p⟩ := x
      simp only at hc hsrc hfit hlen hfx
      obtain ⟨pao, pcap, rfl⟩ := src_form hsrc
      have hcw : wr.cell? ⟨g, o + k, none⟩ = some (.slice pao p.length pcap) := by
        rw [World.cell?_of_block (w := w) (hB.out.block g hgl)]; exact hc
      have hkp : IntKind.i64.wrap ((k : Int) + 1) = ((k + 1 : Nat) : Int) := by rw [IntWalk.i64_in _ (by omega)]; omega
      have hi1 : (k : Int) < (n : Int) := by omega
      have hsD := hsrc.keep hB.out
      obtain ⟨pn, hpn⟩ : ∃ pn, p.length = pn := ⟨_, rfl⟩
      rw [hpn] at hcw hlen hsD hfx
      have hLk : L.length = k := by rw [hP.out.tnum]; simp; omega
      obtain ⟨ta, tc, hvt⟩ := Own.form hP.out.raw.thr
      obtain ⟨tn, htn⟩ : ∃ tn, L.length = tn := ⟨_, rfl⟩
      rw [htn] at hvt
      subst hvt
      have htk : tn ≤ 64 := by omega
      have hbm := hP.out.box
      have hBs := hB.out.size
      have hgw : g ≠ w.heap.size + 1 := by omega
      obtain ⟨E, hE⟩ : ∃ E, (wr.alloc (.cells #[.slice pao pn pcap, .int .i64 0, .int .i64 0, .int .i64 0, .int .i64 0, .int .i64 0, .int .i64 0, .int .i64 0, .int .i64 0, .int .i64 0] TU)).drew = E := ⟨_, rfl⟩
      have hbE : Below wr.heap.size wr E := by rw [← hE]; exact ((Below.refl wr.heap.size wr).alloc (Nat.le_refl _) _).drew
      have hbmE := hbm.keep hbE
      have hcE : E.cell? ⟨g, o + k, none⟩ = some (.slice pao pn pcap) := by rw [World.cell?_of_block (w := wr) (hbE.block g (by omega))]; exact hcw
      have hsE : Hid (Own.Src E 10 (.slice (some ⟨wr.heap.size, 0, none⟩) 1 1) 1 [.slice pao pn pcap, .int .i64 0, .int .i64 0, .int .i64 0, .int .i64 0, .int .i64 0, .int .i64 0, .int .i64 0, .int .i64 0, .int .i64 0]) := W_hid (.inr ⟨_, _, rfl, rfl, fun j u hu => by
        have hb := Blk.new wr TU [.slice pao pn pcap, .int .i64 0, .int .i64 0, .int .i64 0, .int .i64 0, .int .i64 0, .int .i64 0, .int .i64 0, .int .i64 0, .int .i64 0] (x := wr.heap.size) rfl
        have hb : Blk E wr.heap.size TU [.slice pao pn pcap, .int .i64 0, .int .i64 0, .int .i64 0, .int .i64 0, .int .i64 0, .int .i64 0, .int .i64 0, .int .i64 0, .int .i64 0] := by rw [← hE]; exact hb
        have := hb.cell hu
        rw [Addr.add_lit, Nat.zero_add]
        exact this⟩)
      have hoE : Hid (E.ownsRow w.heap.size TU 10 (.slice ta tn tc) tn (tcl L)) := W_hid (by have := Own.below hP.out.raw.thr hbE; rwa [htn] at this)
      have hone : Hid (∀ u ∈ ([.slice pao pn pcap, .int .i64 0, .int .i64 0, .int .i64 0, .int .i64 0, .int .i64 0, .int .i64 0, .int .i64 0, .int .i64 0, .int .i64 0] : List Value), u.oneCell' = true) := W_hid (by intro u hu; simp only [List.mem_cons, List.not_mem_nil, or_false] at hu; rcases hu with rfl | rfl | rfl | rfl | rfl | rfl | rfl | rfl | rfl | rfl <;> rfl)
      have hEs : E.heap.size = wr.heap.size + 1 := by rw [← hE]; simp
      have hS0 : wr.drew.cell? ⟨w.heap.size + 1, 1, none⟩ = some (.slice ta tn tc) ∧ wr.drew.cell? ⟨g, o + k, none⟩ = some (.slice pao pn pcap) := ⟨hbm.cell (j := 1) rfl, hcw⟩
      have hS1 : E.cell? ⟨w.heap.size + 1, 1, none⟩ = some (.slice ta tn tc) ∧ E.cell? ⟨g, o + k, none⟩ = some (.slice pao pn pcap) := ⟨hbmE.cell (j := 1) rfl, hcE⟩
      replace hx := W_hid hx
      replace hpn := W_hid hpn
      replace hc := W_hid hc
      replace hkp := W_hid hkp
      replace hLk := W_hid hLk
      replace hbm := W_hid hbm
      replace hbmE := W_hid hbmE
      replace hbE := W_hid hbE
      replace hE := W_hid hE
      replace hEs := W_hid hEs
      replace htn := W_hid htn
      replace hBs := W_hid hBs
      replace hsD := W_hid hsD
      replace hfx := W_hid hfx
      have hkp2 := hkp.out
      clear hsrc hfit hcw hcE
      go_wp2_with fail
      refine UpTil.region (S := fun w' => w'.cell? ⟨w.heap.size + 1, 1, none⟩ = some (.slice ta tn tc) ∧ w'.cell? ⟨g, o + k, none⟩ = some (.slice pao pn pcap)) (m := 14) (by kernel_rfl) hS0 (fun hHeld => ?_)
      refine ul (i := 0) (v := ptr (w.heap.size + 1)) hHeld ?_
      refine ul (i := 1) (v := ptr (w.heap.size + 1)) hHeld ?_
      refine ul (i := 2) (v := ptr (w.heap.size + 1)) hHeld ?_
      refine ul (i := 3) (v := .pointer (some ⟨w.heap.size + 1, 1, none⟩)) hHeld ?_
      refine ul (i := 4) (v := .slice ta tn tc) hHeld ?_
      refine ul (i := 5) (v := .slice (some ⟨g, o, none⟩) n cap) hHeld ?_
      refine ul (i := 6) (v := .int .i64 (k : Int)) hHeld ?_
      refine ul (i := 7) (v := .pointer (some ⟨g, o + k, none⟩)) hHeld ?_
      refine ul (i := 8) (v := .slice pao pn pcap) hHeld ?_
      refine ul (i := 9) (v := .agg #[.slice pao pn pcap, .int .i64 0, .int .i64 0, .int .i64 0, .int .i64 0, .int .i64 0, .int .i64 0, .int .i64 0, .int .i64 0, .int .i64 0]) hHeld ?_
      refine UpTil.one (i := 10) (by kernel_rfl) rfl rfl (fun K hK => ?_)
      go_simp
      rw [hE.out]
      refine hK.out _ _ (fun _ => hS1) ?_
      clear hK K
      try simp only [Act.put, List.setIfInBounds_toArray, List.set_cons_zero, List.set_cons_succ, List.getElem_toArray, List.getElem_cons_zero, List.getElem_cons_succ]
      refine UpTil.one (i := 11) (by kernel_rfl) rfl rfl (fun K hK => ?_)
      refine Own.step_app rfl (.tmp 33) (.tmp 39) 56 rfl und_uths info_uth (.slice ta tn tc) (.slice (some ⟨wr.heap.size, 0, none⟩) 1 1) rfl rfl hoE.out (by have := hEs.out; have := hBs.out; omega) hsE.out hone.out (by unfold maxLen; omega) (by omega) ?_
      intro v2 w2 ho2 hg2 hob2
      have hg3 : wr.grownBy w2 (Value.ownBlock (.slice ta tn tc)) := by
        have hb := hbE.out
        exact ⟨hg2.os.trans hb.os, hg2.tape.trans hb.tape, hg2.output.trans hb.output, Nat.le_trans hb.size hg2.size, fun k hk hr => (hg2.block k (Nat.lt_of_lt_of_le hk hb.size) hr).trans (hb.block k hk)⟩
      have hbm2 := Blk.grown (w := E) hbmE.out hg2 (fun e => by
        obtain ⟨cur, hc⟩ := own_obj hP.out.raw.thr e.symm
        exact obj_ne hbm.out hc (by decide) rfl)
      have hc2' : w2.cell? ⟨g, o + k, none⟩ = some (.slice pao pn pcap) := Own.cellg hg2 hS1.2 (fun e => by
        have := Own.ge hoE.out g e.symm
        omega)
      have hS2 : w2.cell? ⟨w.heap.size + 1, 1, none⟩ = some (.slice ta tn tc) ∧ w2.cell? ⟨g, o + k, none⟩ = some (.slice pao pn pcap) := ⟨hbm2.cell (j := 1) rfl, hc2'⟩
      obtain ⟨ta2, tc2, rfl⟩ := Own.form ho2
      have hfm2 := hbm2.fz
      have hpush := hP.out.pushT hg3 (v := .slice pao pn pcap) (t := mk p) (vt' := .slice ta2 (tn + 1) tc2) (by
        have := ho2
        rw [List.length_append, List.length_singleton, htn.out, tcl_app, tcl_one, mk_row]
        exact this) (hob2.imp_right fun h => ⟨_, h, by have := hEs.out; omega⟩) (by
        show Own.Src wr 5 (.slice pao pn pcap) p.length (xcl p)
        rw [hpn.out]
        exact hsD.out) hfx.out (by simp [mk])
      replace ho2 := W_hid ho2
      refine hK.out _ _ (fun _ => hS2) ?_
      clear hK K
      try simp only [Act.put, List.setIfInBounds_toArray, List.set_cons_zero, List.set_cons_succ, List.getElem_toArray, List.getElem_cons_zero, List.getElem_cons_succ]
      refine UpTil.one (i := 12) (by kernel_rfl) rfl rfl (fun K hK => ?_)
      go_simp
      refine hK.out _ _ (fun _ => hS2) ?_
      clear hK K
      try simp only [Act.put, List.setIfInBounds_toArray, List.set_cons_zero, List.set_cons_succ, List.getElem_toArray, List.getElem_cons_zero, List.getElem_cons_succ]
      refine UpTil.one (i := 13) (by kernel_rfl) rfl rfl (fun K hK => ?_)
      go_simp
      refine hK.out _ _ (fun _ => hS2) ?_
      clear hK K
      try simp only [Act.put, List.setIfInBounds_toArray, List.set_cons_zero, List.set_cons_succ, List.getElem_toArray, List.getElem_cons_zero, List.getElem_cons_succ]
      refine UpTil.last (by kernel_rfl) rfl rfl (by kernel_rfl) ?_
      replace hpush := W_hid hpush
      clear hS0 hS1 hHeld
      go_simp
      have hPF := hpush.out.1
      have hWF := hpush.out.2
      have hFs : (w2.setCell ⟨w.heap.size + 1, 1, none⟩ (.slice ta2 (tn + 1) tc2)).heap.size = w2.heap.size := by simp [World.setCell]
      rw [← hFs] at hPF
      have htake : ((l.map Prod.snd).take (k + 1)).map mk = ((l.map Prod.snd).take k).map mk ++ [mk p] := by
        rw [List.take_succ_eq_append_getElem (by simpa using hkl), List.map_append]
        simp [hx.out]
      rw [← htake] at hPF
      have hBF : Below w.heap.size w (w2.setCell ⟨w.heap.size + 1, 1, none⟩ (.slice ta2 (tn + 1) tc2)) := hB.out.trans (hWF.below hBs.out (Nat.le_refl _))
      replace hPF := W_hid hPF
      replace hBF := W_hid hBF
      clear hpush hWF hFs htake hS2 hfm2 ho2 hg3 hg2 hob2 hc2' hbm2
      go_wp2_with fail
      exact ⟨⟨k + 1, _, _, by simp [hkp2], by omega, hPF, hBF⟩, by simp [intOf]; omega⟩
    · have hkn2 : k = n := by omega
      subst hkn2
      have e : (l.map Prod.snd).take k = l.map Prod.snd := List.take_of_length_le (by have := hn.out; simp; omega)
      rw [e] at hP
      go_wp2_with fail
      go_ret2
      exact ⟨_, rfl, ⟨_, _, _, hP.out⟩, hB.out⟩
end MC
end Go.Proofs.Ytjafjjfcmcpaoaa

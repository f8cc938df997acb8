/- Contracts of package proc: Exit, Wait. -/
import Derived.Test.YtahcpimpmedbiaaPrcKid
namespace Go.Proofs.Ytahcpimpmedbiaa
open Go.ChangeShapes Go.WideShapes Go.ChangeAt Go.RowKit Go.Maps
set_option linter.unusedVariables false
set_option linter.unusedSimpArgs false
set_option maxRecDepth 100000
namespace PC
open IS (ptr I64 Nums upd)
open IN (Keeps lt_of_some)

section
variable {base : Nat} {w w' : World} {tb mb N : Nat} {M : Int → Option Nat} {L : List Pr} {X : Nat → Prop}
set_option maxRecDepth 100000 in
set_option maxHeartbeats 4000000 in
theorem Exit_any (h : TW base w tb N L X) (hG : Good N L) (p c : Int) (hp : I64 p) : Calls Try.prog 20 #[.pointer (some ⟨tb, 0, none⟩), .int .i64 p, .int .i64 c] w fun e w' => e = .returned (.int .i64 (exitR L p c).1) ∧ TO base w tb N (exitR L p c).2 X w' := by
  have hid := W_hid (h.same (Below.refl _ _))
  obtain ⟨mb, M, hT, hX⟩ := h
  unfold exitR
  cases hr : runs L p with
  | false =>
    rw [if_pos rfl]
    have hc := running_no hT hp hr
    clear hT hX hr hG
    go_enter Try.func20, Try.ntmps20
    go_wp2_with (go_at_call 33; refine hc.mono ?_; rintro e w' ⟨rfl, rfl⟩)
    go_ret
    exact ⟨rfl, hid.out⟩
  | true =>
    rw [if_neg (by simp)]
    obtain ⟨x, hx, hst⟩ := run_of hr
    obtain ⟨g, hM⟩ := hT.some' hx
    have hc := running_yes hT hp hM hx hst
    by_cases hp1 : p = 1
    · rw [if_pos hp1]
      subst hp1
      clear hT hX hr hG hM hx hst
      go_enter Try.func20, Try.ntmps20
      go_wp2_with (go_at_call 33; refine hc.mono ?_; rintro e w' ⟨rfl, rfl⟩)
      go_ret
      exact ⟨rfl, hid.out⟩
    · rw [if_neg hp1]
      have hne : (p == 1) = false := by simp [hp1]
      have hk := W_hid (children_any hT hG p 0)
      have H := W_hid hT
      have HG := W_hid hG
      have HX := W_hid hX
      have hMg := W_hid hM
      have hxx := W_hid hx
      obtain ⟨n, hn⟩ : ∃ n, (kids L p 0).length = n := ⟨_, rfl⟩
      have hn1024 : n ≤ 1024 := by
        have := List.length_filter_le (kid p 0) L
        unfold kids at hn
        have := hG.len; have := hG.top; omega
      rw [hn] at hk
      replace hn := W_hid hn
      clear hT hX hr hM hx hst hG
      go_enter Try.func20, Try.ntmps20
      go_wp2_with (first
        | (go_at_call 33; refine hc.mono ?_; rintro e w' ⟨rfl, rfl⟩)
        | (go_at_call 35; refine hk.out.mono ?_; rintro e w1 ⟨v, rfl, hr1, hb1⟩; obtain ⟨av, cv, rfl, hnm, hrow⟩ := row_ptr hr1 (by rw [List.length_map]; exact hn.out); have hrow := W_hid hrow; have hb1 := W_hid hb1; clear hr1))
      have hnm2 := hnm
      unfold maxLen at hnm2
      go_loopw [26] (fun i wr => ∃ k : Nat, i = .int .i64 (k : Int) ∧ k ≤ n ∧ TM base wr tb mb M N (Sx L ((kids L p 0).take k)) ∧ Keeps base (fun j _ => TX tb mb M j) w wr ∧ (∀ j, w.heap.size ≤ j → j < w1.heap.size → wr.heap[j]? = w1.heap[j]?) ∧ w1.heap.size ≤ wr.heap.size) (fun i _ => n - (intOf i).toNat)
      case atStart =>
        exact ⟨0, rfl, Nat.zero_le _, (H.out.keep hb1.out).congr fun q => (Sx_nil L q).symm, Keeps.new hb1.out H.out.base_le, fun _ _ _ => rfl, Nat.le_refl _⟩
      case round =>
        obtain ⟨k, rfl, hkn, hTr, hKr, hfr, hsz⟩ := hrel
        by_cases hlt : k < n
        · have hkl : k < (kids L p 0).length := by rw [hn.out]; exact hlt
          obtain ⟨gr, rfl, hg1, hg2, hg3, hg4, hcell⟩ := hrow.out k hlt
          obtain ⟨y, hy⟩ : ∃ y, (kids L p 0)[k] = y := ⟨_, rfl⟩
          have hyL : y ∈ L := by rw [← hy]; exact (List.mem_filter.1 (List.getElem_mem hkl)).1
          have hgy := asc_get HG.out.asc hyL
          obtain ⟨gy, hMy⟩ := H.out.some' hgy
          have hptr : wr.cell? ⟨gr, k, none⟩ = some (.pointer (some ⟨gy, 0, none⟩)) := by
            rw [World.cell?_of_block (w := w1) (hfr gr hg1 hg2)]
            refine hcell _ ?_
            rw [List.getElem?_map, List.getElem?_eq_getElem hkl, hy]
            simp [hMy, ptr]
          have hnk : ∀ z ∈ (kids L p 0).take k, z.pid ≠ y.pid := by
            intro z hz e
            have hpw : Asc (kids L p 0) := HG.out.asc.filter _
            obtain ⟨i, hi, rfl⟩ := List.getElem_of_mem hz
            rw [List.length_take] at hi
            rw [List.getElem_take, ← hy] at e
            have := List.pairwise_iff_getElem.1 hpw i k (by omega) hkl (by omega)
            omega
          have hst := Sx_step (ks := (kids L p 0).take k) HG.out.asc hyL hnk
          have hset := hTr.set (y := { y with par := 1 }) hMy hst.1 1 (.int .i64 1) rfl rfl
          have hfzr := (hTr.node _ _ _ hMy hst.1).fz
          have c1y := (hTr.node _ _ _ hMy hst.1).cell (j := 1) rfl
          have hgyl := H.out.lt hMy
          have hnext : Hid (TM base (wr.setCell ⟨gy, 1, none⟩ (.int .i64 1)) tb mb M N (Sx L ((kids L p 0).take (k + 1))) ∧ Keeps base (fun j _ => TX tb mb M j) w (wr.setCell ⟨gy, 1, none⟩ (.int .i64 1)) ∧ (∀ j, w.heap.size ≤ j → j < w1.heap.size → (wr.setCell ⟨gy, 1, none⟩ (.int .i64 1)).heap[j]? = w1.heap[j]?)) := W_hid (by
            refine ⟨hset.1.congr fun q => ?_, hKr.trans hset.2, fun j hj1 hj2 => ?_⟩
            · rw [List.take_succ_eq_append_getElem hkl, hy]; exact (hst.2 q).symm
            · rw [Below.heap_setCell _ _ _ _ (by show j ≠ gy; omega)]; exact hfr j hj1 hj2)
          have hi1 : ((k : Int) < (n : Int)) := by omega
          have hwr : IntKind.i64.wrap ((k : Int) + 1) = ((k + 1 : Nat) : Int) := by rw [IntWalk.i64_in _ (by omega)]; omega
          have hc2 : (n : Int) ≤ (cv : Int) := by omega
          replace hTr := W_hid hTr
          replace hset := W_hid hset
          replace hst := W_hid hst
          replace hMy := W_hid hMy
          replace hgy := W_hid hgy
          replace hy := W_hid hy
          replace hfr := W_hid hfr
          replace hKr := W_hid hKr
          replace hcell := W_hid hcell
          go_wp2_with fail
          go_roundw
          case rel => exact ⟨k + 1, by simp [hwr], by omega, hnext.out.1, hnext.out.2.1, hnext.out.2.2, by simpa [World.setCell] using hsz⟩
          case measure => simp [intOf, hwr]; omega
        · obtain rfl : k = n := by omega
          have htk : (kids L p 0).take k = kids L p 0 := List.take_of_length_le (by rw [hn.out]; exact Nat.le_refl _)
          rw [htk] at hTr
          have hTr2 := hTr.congr fun q => Sx_all HG.out.asc p q
          have hxp : (fun r => (get L r).map (setPar p)) p = some (setPar p x) := by simp [hxx.out]
          have hxpid := (get_some hxx.out).2
          obtain ⟨s1, k1⟩ := hTr2.set (y := { setPar p x with st := 2 }) hMg.out hxp 2 (.int .i64 2) rfl (by show (setPar p x).pid = p; rw [setPar_pid]; exact hxpid)
          obtain ⟨s2, k2⟩ := s1.set (y := { setPar p x with st := 2, code := c }) hMg.out (if_pos rfl) 3 (.int .i64 c) rfl (by show (setPar p x).pid = p; rw [setPar_pid]; exact hxpid)
          have hbx := hTr2.node _ _ _ hMg.out hxp
          have hfz := hbx.fz
          have d2 := hbx.cell (j := 2) rfl
          have d3 := hbx.cell (j := 3) rfl
          have hend : Hid (TO base w tb N (exitL L p c) X ((wr.setCell ⟨g, 2, none⟩ (.int .i64 2)).setCell ⟨g, 3, none⟩ (.int .i64 c))) := W_hid (by
            refine ⟨TX tb mb M, ⟨mb, M, s2.congr fun q => ?_, fun k => Iff.rfl⟩, keeps_iff ((hKr.trans k1).trans k2) fun k hk => (HX.out k).2 hk, fun k hk => .inl ((HX.out k).2 hk)⟩
            rw [get_exit HG.out.asc hxx.out]
            unfold updS
            by_cases e : q = p
            · rw [if_pos e, if_pos e]
            · rw [if_neg e, if_neg e, if_neg e])
          replace hTr := W_hid hTr
          replace hTr2 := W_hid hTr2
          replace s1 := W_hid s1
          replace s2 := W_hid s2
          replace k1 := W_hid k1
          replace k2 := W_hid k2
          replace hfr := W_hid hfr
          replace hKr := W_hid hKr
          replace hbx := W_hid hbx
          go_wp2_with fail
          go_ret
          exact ⟨rfl, hend.out⟩
end
end PC
end Go.Proofs.Ytahcpimpmedbiaa

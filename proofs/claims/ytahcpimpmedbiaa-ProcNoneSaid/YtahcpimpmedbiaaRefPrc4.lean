/- The document's Exit, Wait, Same of a table of processes. -/
import Derived.Test.YtahcpimpmedbiaaRefPrc3
namespace Go.Proofs.Ytahcpimpmedbiaa
open Go.ChangeShapes Go.WideShapes Go.ChangeAt Go.RowKit Go.Maps
set_option linter.unusedVariables false
set_option linter.unusedSimpArgs false
set_option maxRecDepth 100000
namespace PC
open IS (I64)
open IN (Keeps lt_of_some)

/-- The first k with another parent. -/
def Qx (p : Int) (E : List Pr) (k : Nat) : List Pr := (E.take k).map (setPar p) ++ E.drop k
theorem Qx_len (p : Int) (E : List Pr) (k : Nat) : (Qx p E k).length = E.length := by
  unfold Qx
  rw [List.length_append, List.length_map, List.length_take, List.length_drop]
  omega
theorem Qx_zero (p : Int) (E : List Pr) : Qx p E 0 = E := by simp [Qx]
theorem Qx_all (p : Int) (E : List Pr) : Qx p E E.length = E.map (setPar p) := by simp [Qx]
theorem Qx_at (p : Int) (E : List Pr) (k : Nat) (hk : k < E.length) (hk' : k < (Qx p E k).length) : (Qx p E k)[k] = E[k] := by
  have h : (Qx p E k)[k]? = E[k]? := by
    unfold Qx
    rw [List.getElem?_append_right (by simp; omega), List.length_map, List.length_take, Nat.min_eq_left (by omega), Nat.sub_self, List.getElem?_drop, Nat.add_zero]
  rw [List.getElem?_eq_getElem hk', List.getElem?_eq_getElem hk] at h
  exact Option.some.inj h
theorem Qx_step (p : Int) (E : List Pr) (k : Nat) (hk : k < E.length) : (Qx p E k).set k (setPar p E[k]) = Qx p E (k + 1) := by
  unfold Qx
  have h1 : ((E.take k).map (setPar p)).length = k := by simp; omega
  rw [List.set_append_right _ _ (by omega), h1, Nat.sub_self, List.drop_eq_getElem_cons hk, List.set_cons_zero, List.take_succ_eq_append_getElem hk, List.map_append]
  simp
section
variable {base : Nat} {w w' : World} {rb N : Nat} {v : Value} {L : List Pr} {Y : Nat → Prop}
set_option maxRecDepth 100000 in
set_option maxHeartbeats 4000000 in
theorem rpExit_any (h : DW base w rb N L Y) (hG : Good N L) (p c : Int) : Calls Try.prog 25 #[.pointer (some ⟨rb, 0, none⟩), .int .i64 p, .int .i64 c] w fun e w' => e = .returned (.int .i64 (exitR L p c).1) ∧ DO base w rb N (exitR L p c).2 Y w' := by
  have hid := W_hid (h.same (Below.refl _ _))
  obtain ⟨v, hM, hY⟩ := h
  have hlen : L.length ≤ 1024 := by have := hG.len; have := hG.top; omega
  have hruns := rpruns_any p hM hlen
  unfold runR at hruns
  unfold exitR
  cases hr : runs L p with
  | false =>
    rw [if_pos rfl]
    rw [hr, if_neg (by simp)] at hruns
    clear hM hY hG hr
    go_enter Try.func25, Try.ntmps25
    go_wp2_with (go_at_call 37; refine hruns.mono ?_; rintro e w' ⟨rfl, rfl⟩)
    go_ret
    exact ⟨rfl, hid.out⟩
  | true =>
    rw [if_neg (by simp)]
    rw [hr, if_pos rfl] at hruns
    obtain ⟨hp, hst⟩ := runs_pos hr
    by_cases hp1 : p = 1
    · rw [if_pos hp1]
      subst hp1
      obtain ⟨q, hq⟩ : ∃ q, pos L 1 = q := ⟨_, rfl⟩
      rw [hq] at hruns
      have hd : decide ((q : Int) < 0) = false := by simp
      clear hM hY hG hr hst hp hq
      go_enter Try.func25, Try.ntmps25
      go_wp2_with (go_at_call 37; refine hruns.mono ?_; rintro e w' ⟨rfl, rfl⟩)
      go_ret
      exact ⟨rfl, hid.out⟩
    · rw [if_neg hp1]
      have hne : (p == 1) = false := by simp [hp1]
      obtain ⟨g, m, cap, rfl, hm, hpn, hnc, hcm, hbg, hgr, hgl, hrl, hgf, hrf, c0, c1, e0, e1, e2, e3, e4⟩ := hM.opened hp
      have hpid := pos_eq hp
      obtain ⟨hM1, hK1⟩ := hM.set hm hp 2 (.int .i64 2) (by omega) { L[pos L p] with st := 2 } rfl
      have hp2 : pos L p < (L.set (pos L p) { L[pos L p] with st := 2 }).length := by rw [List.length_set]; exact hp
      have hat2 : (L.set (pos L p) { L[pos L p] with st := 2 })[pos L p] = { L[pos L p] with st := 2 } := by simp
      obtain ⟨hM2, hK2⟩ := hM1.set (by rw [List.length_set]; exact hm) hp2 3 (.int .i64 c) (by omega) (setEnd p c L[pos L p]) (by rw [hat2]; unfold setEnd; rw [if_pos hpid]; rfl)
      rw [List.set_set, set_map hG.asc (f := setEnd p c) (fun x hx => if_neg hx) hp] at hM2
      have hEnd : (L.map (setEnd p c)).map (setPar p) = exitL L p c := by rw [List.map_map]; rfl
      obtain ⟨u2, e2'⟩ : ∃ u, w.cell? ⟨g, pos L p * 5 + 2, none⟩ = some (.int .i64 u) := ⟨_, e2⟩
      obtain ⟨u3, e3'⟩ : ∃ u, w.cell? ⟨g, pos L p * 5 + 3, none⟩ = some (.int .i64 u) := ⟨_, e3⟩
      obtain ⟨q, hq⟩ : ∃ q, pos L p = q := ⟨_, rfl⟩
      rw [hq] at hruns hpn hM2 e2' e3' hK1 hK2
      have hd : decide ((q : Int) < 0) = false := by simp
      obtain ⟨E, hE⟩ : ∃ E, L.map (setEnd p c) = E := ⟨_, rfl⟩
      rw [hE] at hM2 hEnd
      have hEl : E.length = m := by rw [← hE, List.length_map]; exact hm
      obtain ⟨w1, hw1⟩ : ∃ w1, (w.setCell ⟨g, q * 5 + 2, none⟩ (.int .i64 2)).setCell ⟨g, q * 5 + 3, none⟩ (.int .i64 c) = w1 := ⟨_, rfl⟩
      have hM3 := hM2
      rw [hw1] at hM3
      have hK3 := hK1.trans hK2
      rw [hw1] at hK3
      have hM3 := W_hid hM3
      have hK3 := W_hid hK3
      have hEl2 := W_hid hEl
      have hY := W_hid hY
      rw [hm] at hlen
      have hw1' := W_hid hw1
      clear hM2 hK1 hK2 hM1 hM hG hr hst hq hat2 hp2 hE hpid hm e0 e1 e2 e3 e4 hEl hw1 hp
      go_enter Try.func25, Try.ntmps25
      go_wp2_with (go_at_call 37; refine hruns.mono ?_; rintro e w' ⟨rfl, rfl⟩)
      rw [hw1'.out]
      go_loopw [8] (fun i wr => ∃ k : Nat, k ≤ m ∧ i = .int .i64 (k : Int) ∧ DM base wr rb N (.slice (some ⟨g, 0, none⟩) m cap) (Qx p E k) ∧ Keeps base (fun j _ => DX rb (.slice (some ⟨g, 0, none⟩) m cap) j) w wr) (fun i _ => m - (intOf i).toNat)
      case atStart => exact ⟨0, Nat.zero_le _, rfl, by rw [Qx_zero]; exact hM3.out, hK3.out⟩
      case round =>
        obtain ⟨k, hk, rfl, hMk, hKk⟩ := hrel
        have hwk : IntKind.i64.wrap ((k : Int) + 1) = (k : Int) + 1 := IntWalk.i64_in _ (by omega)
        by_cases hlt : k < m
        · have hkE : k < E.length := by rw [hEl2.out]; exact hlt
          have hkq : k < (Qx p E k).length := by rw [Qx_len]; exact hkE
          obtain ⟨g', n', cap', hv, hn', -, -, -, -, -, -, -, fg, -, -, k1, -, f1, -⟩ := hMk.opened hkq
          simp only [Value.slice.injEq, Option.some.injEq, Addr.mk.injEq, and_true, true_and] at hv
          obtain ⟨rfl, rfl, rfl⟩ := hv
          have hkm : (k : Int) < (m : Int) := by omega
          rw [Qx_at p E k hkE hkq] at f1
          have hstep := Qx_step p E k hkE
          by_cases hpar : E[k].par = p
          · have hset := hMk.set hn' hkq 1 (.int .i64 1) (by omega) (setPar p E[k]) (by rw [Qx_at p E k hkE hkq]; unfold setPar; rw [if_pos hpar]; rfl)
            rw [hstep] at hset
            rw [hpar] at f1
            have hset1 := W_hid hset.1
            have hset2 := W_hid (hKk.trans hset.2)
            replace hMk := W_hid hMk
            replace hKk := W_hid hKk
            clear hn' hset hpar hstep
            go_wp2_with fail
            go_roundw
            case rel => exact ⟨k + 1, by omega, by go_num, hset1.out, hset2.out⟩
            case measure => simp [intOf]; omega
          · have hsame : Qx p E (k + 1) = Qx p E k := by
              rw [← hstep]
              have : setPar p E[k] = (Qx p E k)[k] := by rw [Qx_at p E k hkE hkq]; unfold setPar; rw [if_neg hpar]
              rw [this, List.set_getElem_self]
            obtain ⟨a, ha⟩ : ∃ a, E[k].par = a := ⟨_, rfl⟩
            rw [ha] at f1 hpar
            have hne2 : (a == p) = false := by simp [hpar]
            replace hMk := W_hid hMk
            replace hKk := W_hid hKk
            replace hsame := W_hid hsame
            clear hn' hpar hstep ha
            go_wp2_with fail
            go_roundw
            case rel => exact ⟨k + 1, by omega, by go_num, by rw [hsame.out]; exact hMk.out, hKk.out⟩
            case measure => simp [intOf]; omega
        · obtain rfl : k = m := by omega
          have k1 := hMk.box.cell (j := 1) rfl
          have hMe := hMk
          rw [← hEl2.out, Qx_all, hEnd] at hMe
          rw [hEl2.out] at hMe
          have hfin : Hid (DO base w rb N (exitL L p c) Y wr) := W_hid ⟨_, ⟨_, hMe, fun k => Iff.rfl⟩, keeps_iff hKk fun k hk => (hY.out k).2 hk, fun k hk => .inl ((hY.out k).2 hk)⟩
          clear hMe hMk hKk
          go_wp2_with fail
          go_ret
          exact ⟨rfl, hfin.out⟩
end

theorem prc_neq (a b c d e : Int) (w : World) : (binOp .neq 43 (.agg #[.int .i64 a, .int .i64 b, .int .i64 c, .int .i64 d, .int .i64 e]) (.agg #[.int .i64 a, .int .i64 b, .int .i64 c, .int .i64 d, .int .i64 e])).run Try.prog w = .ok (.bool false) w := by
  simp [go_sem]
theorem prow_at {w : World} {base : Nat} {v : Value} {l : List Pr} (h : w.ownsRow base 43 5 v l.length (pcl l)) : ∃ ao cap, v = .slice ao l.length cap ∧ ∀ i (hi : i < l.length), ∃ blk, ao = some ⟨blk, 0, none⟩ ∧ blk < w.heap.size ∧ ∀ m u, (prow l[i])[m]? = some u → w.cell? ⟨blk, i * 5 + m, none⟩ = some u := by
  rcases h.2 with ⟨rfl, h0⟩ | ⟨g, cap, cur, rfl, hb, hg, h1, h2, h3, h4⟩
  · exact ⟨none, 0, by rw [h0], fun i hi => by omega⟩
  · refine ⟨_, cap, rfl, fun i hi => ⟨g, rfl, lt_of_some hg, fun m u hu => ?_⟩⟩
    have hm : m < 5 := by
      rcases Nat.lt_or_ge m 5 with hlt | hge
      · exact hlt
      · rw [List.getElem?_eq_none (by simp [prow]; omega)] at hu; cases hu
    have := h.cells (g := g) rfl (i * 5 + m) u (by rw [pcl_get l i hi m hm]; exact hu)
    rw [Addr.add_lit, Nat.zero_add] at this
    exact this
set_option maxRecDepth 100000 in
set_option maxHeartbeats 4000000 in
theorem pSame_yes (v1 v2 : Value) (B1 B2 : Nat) (L : List Pr) (w : World) (hl : L.length ≤ 1024) (h1 : w.ownsRow B1 43 5 v1 L.length (pcl L)) (h2 : w.ownsRow B2 43 5 v2 L.length (pcl L)) :
    Calls Try.prog 14 #[v1, v2] w fun e w' => e = .returned (.bool true) ∧ Below w.heap.size w w' := by
  obtain ⟨x1, c1, rfl, H1⟩ := prow_at h1
  obtain ⟨x2, c2, rfl, H2⟩ := prow_at h2
  have H1 := W_hid H1
  have H2 := W_hid H2
  obtain ⟨N, hN⟩ : ∃ N, L.length = N := ⟨_, rfl⟩
  rw [hN] at hl ⊢
  replace hN := W_hid hN
  have he : ((N : Int) != (N : Int)) = false := by simp
  clear h1 h2
  go_enter Try.func14, Try.ntmps14
  go_wp2
  go_loopw [5] (fun i wr => ∃ k : Nat, k ≤ N ∧ i = .int .i64 k ∧ Below w.heap.size w wr) (fun i _ => N - (intOf i).toNat)
  case atStart => exact ⟨0, Nat.zero_le _, rfl, Below.refl _ _⟩
  case round =>
    obtain ⟨k, hk, rfl, bel⟩ := hrel
    by_cases hlt : k < N
    · have hkl : k < L.length := by rw [hN.out]; exact hlt
      obtain ⟨b1, rfl, hb1, g⟩ := H1.out k hkl
      obtain ⟨b2, rfl, hb2, g'⟩ := H2.out k hkl
      obtain ⟨⟨xa, xb, xc, xd, xe⟩, hx⟩ : ∃ x, L[k] = x := ⟨_, rfl⟩
      rw [hx] at g g'
      have kk : ∀ {b m : Nat} {u : Value}, b < w.heap.size → w.cell? ⟨b, m, none⟩ = some u → wr.cell? ⟨b, m, none⟩ = some u := fun {b m u} hb hc => by rw [bel.cell (p := ⟨b, m, none⟩) hb]; exact hc
      have i0 := kk hb1 (g 0 _ rfl)
      have i1 := kk hb1 (g 1 _ rfl)
      have i2 := kk hb1 (g 2 _ rfl)
      have i3 := kk hb1 (g 3 _ rfl)
      have i4 := kk hb1 (g 4 _ rfl)
      have j0 := kk hb2 (g' 0 _ rfl)
      have j1 := kk hb2 (g' 1 _ rfl)
      have j2 := kk hb2 (g' 2 _ rfl)
      have j3 := kk hb2 (g' 3 _ rfl)
      have j4 := kk hb2 (g' 4 _ rfl)
      rw [Nat.add_zero] at i0 j0
      have hq := prc_neq xa xb xc xd xe
      clear g g' kk hkl hx
      go_wp2
      go_quiet (fail)
      go_wp2
      go_roundw
      case rel => exact ⟨k + 1, by omega, by go_num, below_drewN bel _⟩
      case measure => simp [intOf]; omega
    · obtain rfl : k = N := by omega
      go_wp2
      go_ret
      exact ⟨rfl, bel⟩
end PC
end Go.Proofs.Ytahcpimpmedbiaa

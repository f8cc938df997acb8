/- The document's at, level, off, last. -/
import Derived.Test.YtmikgkelmdgckaaRefSch
import Derived.Test.YtmikgkelmdgckaaSchCat
import Derived.Test.YtmikgkelmdgckaaSchWts
import Derived.StillTailTactics
namespace Go.Proofs.Ytmikgkelmdgckaa
open Go.ChangeShapes Go.WideShapes Go.ChangeAt Go.RowKit
set_option linter.unusedVariables false
set_option linter.unusedSimpArgs false
set_option maxRecDepth 100000
namespace SD
open IN (Keeps lt_of_some)

def atK (P : List Pr) (p : Int) : Nat := match get P p with | some _ => low P p | none => P.length
def atI (P : List Pr) (p : Int) : Int := match get P p with | some _ => (low P p : Int) | none => -1
theorem atK_ne {P : List Pr} (h : Asc P) {p : Int} : ∀ j (hj : j < P.length), j < atK P p → P[j].pid ≠ p := by
  intro j hj hk
  unfold atK at hk
  cases hg : get P p with
  | none => exact get_none.1 hg _ (List.getElem_mem hj)
  | some x =>
    rw [hg] at hk
    intro e
    have := (pos_low h hg j hj).1 e
    simp only at hk
    omega
theorem atK_eq {P : List Pr} (h : Asc P) {p : Int} : ∀ j (hj : j < P.length), j = atK P p → P[j].pid = p := by
  intro j hj hk
  unfold atK at hk
  cases hg : get P p with
  | none => rw [hg] at hk; simp only at hk; omega
  | some x => rw [hg] at hk; exact (pos_low h hg j hj).2 hk
theorem atK_le (P : List Pr) (p : Int) : atK P p ≤ P.length := by
  unfold atK
  split
  · exact low_le P p
  · exact Nat.le_refl _
theorem atI_eq {P : List Pr} (h : Asc P) (p : Int) : atI P p = if atK P p < P.length then (atK P p : Int) else -1 := by
  unfold atI atK
  cases hg : get P p with
  | none => simp
  | some x => simp only; rw [if_pos (get_at h hg).1]
theorem app_one {w V : World} {v : Value} {m : Nat} {xs : List Value} (ho : V.ownsRow w.heap.size TI 1 v m xs) (hb : Below w.heap.size w V) (a : Int) :
    (V.alloc (.cells #[.int .i64 a] TI)).ownsRow w.heap.size TI 1 v m xs ∧ Own.Src (V.alloc (.cells #[.int .i64 a] TI)) 1 (.slice (some ⟨V.heap.size, 0, none⟩) 1 1) 1 (icl [a]) ∧ Below w.heap.size w (V.alloc (.cells #[.int .i64 a] TI)) :=
  ⟨Own.below ho ((Below.refl _ _).alloc (Nat.le_refl _) _), .inr ⟨_, _, rfl, rfl, fun j u hj => one_new rfl (.int .i64 a) TI j u hj⟩, hb.alloc hb.size _⟩
section
variable {base : Nat} {w w' : World} {rb : Nat} {vp vl : Value} {P : List Pr} {L : List Int}
theorem rat_any (p : Int) (h : DM base w rb vp vl P L) (ha : Asc P) (hlen : P.length ≤ 60000) :
    Calls Try.prog 52 #[ptr rb, .int .i64 p] w fun e w' => e = .returned (.int .i64 (atI P p)) ∧ w = w' := by
  have c7 := h.box.cell (j := 0) rfl
  obtain ⟨ao, cap, hv⟩ := Own.form h.row
  have hE := W_hid (fun i (hi : i < P.length) => h.opened hi)
  rw [hv] at hE
  subst hv
  obtain ⟨n, hn⟩ : ∃ n, P.length = n := ⟨_, rfl⟩
  have hle := atK_le P p
  have hne := W_hid (atK_ne ha (p := p))
  have heq := W_hid (atK_eq ha (p := p))
  rw [atI_eq ha]
  obtain ⟨K, hK⟩ : ∃ K, atK P p = K := ⟨_, rfl⟩
  rw [hK] at hne heq hle ⊢
  rw [hn] at c7 hle hlen ⊢
  replace hn := W_hid hn
  clear h hK
  go_enter Try.func52, Try.ntmps52
  go_wp2_with fail
  go_loopw [5] (fun i wr => ∃ k : Nat, k ≤ K ∧ i = .int .i64 (k : Int) ∧ w = wr) (fun i _ => n - (intOf i).toNat)
  case atStart => exact ⟨0, Nat.zero_le _, rfl, rfl⟩
  case round =>
    obtain ⟨k, hk, rfl, hwr⟩ := hrel
    subst hwr
    by_cases hlt : k < n
    · have hkq : k < P.length := by rw [hn.out]; exact hlt
      obtain ⟨g, n', cap', hv, hn', -, -, -, -, -, -, -, -, -, -, e0, -⟩ := hE.out k hkq
      simp only [Value.slice.injEq] at hv
      obtain ⟨rfl, -, -⟩ := hv
      clear hn' n'
      by_cases hkK : k < K
      · have hx := hne.out k hkq hkK
        obtain ⟨a, ha⟩ : ∃ a, P[k].pid = a := ⟨_, rfl⟩
        rw [ha] at e0 hx
        clear ha hkq
        go_wp2_with fail
        go_roundw
        case rel => exact ⟨k + 1, by omega, by go_num, by first | trivial | rfl⟩
        case measure => simp [intOf]; omega
      · obtain rfl : k = K := by omega
        have hx := heq.out k hkq rfl
        rw [hx] at e0
        clear hx hkq
        go_wp2_with fail
        go_ret
        exact ⟨by first | rfl | exact ret_int (if_pos hlt).symm | simp [hlt], by first | trivial | rfl⟩
    · obtain rfl : k = K := by omega
      have hkN : k = n := by omega
      replace hkN := W_hid hkN
      have hge : (n : Int) ≤ (k : Int) := by omega
      go_wp2_with fail
      go_ret
      exact ⟨by first | rfl | exact ret_int (if_neg hlt).symm | simp [hlt], by first | trivial | rfl⟩
theorem rlevel_any (n : Int) (hn : -20 ≤ n ∧ n ≤ 19) (w : World) :
    Calls Try.prog 56 #[.int .i64 n] w fun e w' => e = .returned (.int .i64 (lev n)) ∧ w = w' := by
  obtain ⟨k, hk⟩ : ∃ k, lev n = k := ⟨_, rfl⟩
  have hl : (n + 20).tdiv 8 = (k : Int) := by rw [← hk, Int.tdiv_eq_ediv_of_nonneg (by omega)]; unfold lev; omega
  rw [hk]
  obtain ⟨m, hm⟩ : ∃ m, n + 20 = m := ⟨_, rfl⟩
  rw [hm] at hl
  have hm0 : 0 ≤ m ∧ m ≤ 39 := by omega
  have hd : m / 8 = (k : Int) := by rw [← hl, Int.tdiv_eq_ediv_of_nonneg (by omega)]
  replace hk := W_hid hk
  go_enter Try.func56, Try.ntmps56
  go_wp2_with fail
  go_ret
  exact ⟨by first | rfl | exact ret_int (by assumption), rfl⟩
set_option maxRecDepth 100000 in
set_option maxHeartbeats 4000000 in
theorem roff_any (p : Int) (h : DM base w rb vp vl P L) (hlen : L.length ≤ 60000) :
    Calls Try.prog 55 #[ptr rb, .int .i64 p] w fun e w' => e = .returned (.tuple #[]) ∧
      ∃ vl', DM base w' rb vp vl' P (off L p) ∧ Keeps base (fun k _ => DX rb vp vl k) w w' ∧ ∀ k, DX rb vp vl' k → DX rb vp vl k ∨ w.heap.size ≤ k := by
  have hend : Hid (∀ (w1 : World) (v1 : Value) (m : Nat), Below w.heap.size w w1 → w1.ownsRow w.heap.size TI 1 v1 m (icl (off (L.take L.length) p)) →
      ∃ vl', DM base (w1.setCell ⟨rb, 1, none⟩ v1) rb vp vl' P (off L p) ∧ Keeps base (fun k _ => DX rb vp vl k) w (w1.setCell ⟨rb, 1, none⟩ v1) ∧ ∀ k, DX rb vp vl' k → DX rb vp vl k ∨ w.heap.size ≤ k) := W_hid fun w1 v1 m hb ho => by
    rw [List.take_length] at ho
    have hm : m = (off L p).length := by have := ho.1; rw [icl_len] at this; omega
    subst hm
    exact ⟨v1, h.newList ⟨hb.os, hb.tape, hb.output, hb.size, fun k hk _ => hb.block k hk⟩ (Own.low h.base_le ho) fun b hv => .inr (Own.ge ho b hv)⟩
  have hat : Hid (∀ W, Below w.heap.size w W → ∀ j (hj : j < L.length), ∃ g n cap, vl = .slice (some ⟨g, 0, none⟩) n cap ∧ W.cell? ⟨g, j, none⟩ = some (.int .i64 L[j])) := W_hid fun W hW j hj => by
    obtain ⟨ao, cap, e, -, hat⟩ := list_at (h.keep hW).lst
    obtain ⟨g, rfl, h1, -⟩ := hat j hj
    exact ⟨g, _, cap, e, h1⟩
  have hrl := W_hid h.box.lt
  have hbx : Hid (∀ W, Below w.heap.size w W → W.cell? ⟨rb, 1, none⟩ = some vl ∧ ∀ j, W.frozen? ⟨rb, j, none⟩ = false) := W_hid fun W hW => ⟨(h.keep hW).box.cell (j := 1) rfl, (h.keep hW).box.fz⟩
  obtain ⟨ao, cap, hv⟩ := Own.form h.lst
  have hcap := list_at h.lst
  obtain ⟨n, hn⟩ : ∃ n, L.length = n := ⟨_, rfl⟩
  rw [hn] at hv hlen hend
  subst hv
  have hbd : Hid (0 < n → n ≤ cap ∧ cap ≤ 9223372036854775807) := W_hid fun h0 => by
    obtain ⟨ao', cap', e, -, hx⟩ := hcap
    simp only [Value.slice.injEq] at e
    obtain ⟨rfl, -, rfl⟩ := e
    obtain ⟨g, -, -, h3, h4, -⟩ := hx 0 (by omega)
    rw [hn] at h3
    exact ⟨h3, h4⟩
  replace hn := W_hid hn
  clear h hcap
  go_enter Try.func55, Try.ntmps55
  go_wp2_with fail
  go_loopw [4, 5] (fun v i wr => ∃ k m : Nat, k ≤ n ∧ m ≤ k ∧ i = .int .i64 (k : Int) ∧ Hid (wr.ownsRow w.heap.size TI 1 v m (icl (off (L.take k) p))) ∧ Hid (Below w.heap.size w wr)) (fun _ i _ => n - (intOf i).toNat)
  case atStart => exact ⟨0, 0, Nat.zero_le _, Nat.le_refl _, rfl, W_hid (World.ownsRow_nil _ _ _ _), W_hid (Below.refl _ _)⟩
  case round =>
    obtain ⟨k, m, hk, hmk, rfl, ho, hb⟩ := hrel
    obtain ⟨y1, yf⟩ := hbx.out _ hb.out
    by_cases hlt : k < n
    · have hkl : k < L.length := by rw [hn.out]; exact hlt
      obtain ⟨g, n', cap', e, y2⟩ := hat.out _ hb.out k hkl
      simp only [Value.slice.injEq] at e
      obtain ⟨rfl, rfl, rfl⟩ := e
      obtain ⟨q1, q2⟩ := hbd.out (by omega)
      obtain ⟨a4, c4, rfl⟩ := Own.form ho.out
      have hbs := hb.out.size
      by_cases hp : L[k] = p
      · have hnx : Hid (off (L.take (k + 1)) p = off (L.take k) p) := W_hid (by rw [take_succ_off hkl, if_pos hp, List.append_nil])
        rw [hp] at y2
        clear hp hkl
        go_wp2_with fail
        go_roundw
        case rel => exact ⟨k + 1, m, by omega, by omega, by go_num, W_hid (by rw [hnx.out]; exact ho.out), hb⟩
        case measure => simp [intOf]; omega
      · have hnx : Hid (off (L.take (k + 1)) p = off (L.take k) p ++ [L[k]]) := W_hid (by rw [take_succ_off hkl, if_neg hp])
        obtain ⟨a, ha⟩ : ∃ a, L[k] = a := ⟨_, rfl⟩
        rw [ha] at y2 hnx hp
        clear ha hkl
        obtain ⟨hoA, hsA, hbA⟩ := app_one ho.out hb.out a
        replace hoA := W_hid hoA
        replace hsA := W_hid hsA
        replace hbA := W_hid hbA
        have hsz := hbA.out.size
        go_wp2_with (at_builtin; refine Own.wpList_app rfl (.tmp 24) (.tmp 32) 30 rfl und_ints info_int (.slice a4 m c4) (.slice (some ⟨wr.heap.size, 0, none⟩) 1 1) rfl rfl hoA.out hsz hsA.out (icl_one [a]) (by unfold maxLen; omega) (by omega) ?_; intro v' w' ho' hg' hv'; have hbn := W_hid (below_row hbA.out hsz hg' fun g hg => Own.ge hoA.out g hg); replace ho' := W_hid ho'; replace hg' := W_hid hg'; replace hv' := W_hid hv')
        go_roundw
        case rel => exact ⟨k + 1, m + 1, by omega, by omega, by go_num, W_hid (by have := ho'.out; rw [hnx.out, icl_app]; exact this), hbn⟩
        case measure => simp [intOf]; omega
    · obtain rfl : k = n := by omega
      obtain ⟨a4, c4, rfl⟩ := Own.form ho.out
      go_wp2_with fail
      go_end0
      exact ⟨rfl, hend.out _ _ _ hb.out ho.out⟩
set_option maxRecDepth 100000 in
set_option maxHeartbeats 4000000 in
theorem rlast_any (p : Int) (h : DM base w rb vp vl P L) (hlen : L.length ≤ 60000) :
    Calls Try.prog 53 #[ptr rb, .int .i64 p] w fun e w' => e = .returned (.tuple #[]) ∧
      ∃ vl', DM base w' rb vp vl' P (off L p ++ [p]) ∧ Keeps base (fun k _ => DX rb vp vl k) w w' ∧ ∀ k, DX rb vp vl' k → DX rb vp vl k ∨ w.heap.size ≤ k := by
  have cO := W_hid (roff_any p h hlen)
  have hofl : (off L p).length ≤ 60000 := Nat.le_trans (off_len L p) hlen
  have hstep : Hid (∀ (w1 : World) (v1 : Value), DM base w1 rb vp v1 P (off L p) → Keeps base (fun k _ => DX rb vp vl k) w w1 → (∀ k, DX rb vp v1 k → DX rb vp vl k ∨ w.heap.size ≤ k) →
      ∃ ao m cap, v1 = .slice ao m cap ∧ m ≤ 60000 ∧ w1.cell? ⟨rb, 1, none⟩ = some (.slice ao m cap) ∧ (w1.alloc (.cells #[.int .i64 p] TI)).ownsRow base TI 1 (.slice ao m cap) m (icl (off L p)) ∧ Own.Src (w1.alloc (.cells #[.int .i64 p] TI)) 1 (.slice (some ⟨w1.heap.size, 0, none⟩) 1 1) 1 (icl [p]) ∧ base ≤ (w1.alloc (.cells #[.int .i64 p] TI)).heap.size ∧
        ∀ (w2 : World) (v2 : Value), (w1.alloc (.cells #[.int .i64 p] TI)).grownBy w2 (Value.slice ao m cap).ownBlock → w2.ownsRow base TI 1 v2 (m + 1) (icl (off L p) ++ icl [p]) → (v2.ownBlock = (Value.slice ao m cap).ownBlock ∨ v2.ownBlock = some (w1.alloc (.cells #[.int .i64 p] TI)).heap.size) →
          w2.cell? ⟨rb, 1, none⟩ = some (.slice ao m cap) ∧ (∀ j, w2.frozen? ⟨rb, j, none⟩ = false) ∧
          ∃ vl', DM base (w2.setCell ⟨rb, 1, none⟩ v2) rb vp vl' P (off L p ++ [p]) ∧ Keeps base (fun k _ => DX rb vp vl k) w (w2.setCell ⟨rb, 1, none⟩ v2) ∧ ∀ k, DX rb vp vl' k → DX rb vp vl k ∨ w.heap.size ≤ k) := W_hid fun w1 v1 hM hK hn => by
    obtain ⟨ao, cap, e⟩ := Own.form hM.lst
    have hA : Below w1.heap.size w1 (w1.alloc (.cells #[.int .i64 p] TI)) := (Below.refl _ _).alloc (Nat.le_refl _) _
    have hMA := hM.keep hA
    have hown := hMA.lst
    rw [e] at hown
    refine ⟨ao, _, cap, e, hofl, by rw [← e]; exact hM.box.cell rfl, hown, .inr ⟨_, _, rfl, rfl, fun j u hj => one_new rfl (.int .i64 p) TI j u hj⟩, hMA.base_le, ?_⟩
    intro w2 v2 hg ho hv
    rw [← e] at hg hv ⊢
    have hb2 : Blk w2 rb DQ [vp, v1] := hMA.box.grown hg (fun e2 => (hMA.lr e2.symm).1 rfl)
    refine ⟨hb2.cell rfl, hb2.fz, ?_⟩
    rw [← icl_app] at ho
    rw [show (off L p).length + 1 = (off L p ++ [p]).length by simp] at ho
    obtain ⟨h1, h2, h3⟩ := hMA.newList hg ho fun b hb => by
      rcases hv with hv | hv
      · exact .inl (hv ▸ hb)
      · rw [hv] at hb; cases hb; exact .inr (Nat.le_refl _)
    refine ⟨v2, h1, keeps_two (hK.trans (Keeps.new hA hM.base_le |> fun k => (k : Keeps base (fun k _ => DX rb vp vl k) w1 _))) h2 hn, fun k hk => ?_⟩
    rcases h3 k hk with h4 | h4
    · exact hn k h4
    · exact .inr (Nat.le_trans hK.size (Nat.le_trans hA.size h4))
  clear h
  go_enter Try.func53, Try.ntmps53
  go_wp2_with (first
    | (go_at_call 55; refine cO.out.mono ?_; rintro e w1 ⟨rfl, v1, hM, hK, hn⟩; obtain ⟨ao, m, cap, rfl, hm, y1, hoA, hsA, hbA, hfin⟩ := hstep.out _ _ hM hK hn; replace hoA := W_hid hoA; replace hsA := W_hid hsA; replace hfin := W_hid hfin; replace hM := W_hid hM; replace hK := W_hid hK; replace hn := W_hid hn)
    | (at_builtin; refine Own.wpList_app rfl (.tmp 11) (.tmp 13) 30 rfl und_ints info_int (.slice ao m cap) (.slice (some ⟨w1.heap.size, 0, none⟩) 1 1) rfl rfl hoA.out hbA hsA.out (icl_one [p]) (by unfold maxLen; omega) (by omega) ?_; intro v2 w2 ho2 hg2 hv2; obtain ⟨u1, u0, hE⟩ := hfin.out w2 v2 hg2 ho2 hv2; obtain ⟨a2, c2, rfl⟩ := Own.form ho2; replace hE := W_hid hE; replace ho2 := W_hid ho2; replace hg2 := W_hid hg2; replace hv2 := W_hid hv2))
  go_end0
  exact ⟨rfl, hE.out⟩
end
end SD
end Go.Proofs.Ytmikgkelmdgckaa

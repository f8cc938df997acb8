/- The document's Ready. -/
import Derived.Test.YtmikgkelmdgckaaRefSch3
import Derived.BigQuiet
namespace Go.Proofs.Ytmikgkelmdgckaa
open Go.ChangeShapes Go.WideShapes Go.ChangeAt Go.RowKit
set_option linter.unusedVariables false
set_option linter.unusedSimpArgs false
set_option maxRecDepth 100000
namespace SD
open IN (Keeps lt_of_some)
theorem bdrew {B : Nat} {w w' : World} (h : Below B w w') (n : Nat) : Below B w (w'.drewN n) := ⟨h.os, h.tape, h.output, h.size, h.block⟩
theorem lst_step {P : List Pr} {L : List Int} {i k : Nat} (hi : i < L.length) : lst P (L.take (i + 1)) k = lst P (L.take i) k ++ (if levP P L[i] = k then [L[i]] else []) := by
  rw [List.take_succ_eq_append_getElem hi]
  unfold lst
  rw [List.filter_append]
  congr 1
  by_cases h : levP P L[i] = k
  · simp [h]
  · simp [h]
theorem lst_take_le (P : List Pr) (L : List Int) (i k : Nat) : (lst P (L.take i) k).length ≤ L.length := Nat.le_trans (List.length_filter_le _ _) (by rw [List.length_take]; omega)
section
variable {base : Nat} {w : World} {rb : Nat} {S : Qs} {Y : Nat → Prop} {c : Nat}
set_option maxRecDepth 100000 in
set_option maxHeartbeats 8000000 in
theorem rReady_any (h : DW base w rb S Y) (hG : Good c S) (hc : c ≤ 50000) : Calls Try.prog 57 #[ptr rb] w fun e w' => ∃ v, e = .returned v ∧ w'.ownsRow w.heap.size TI 1 v (ready S).length (icl (ready S)) ∧ Below w.heap.size w w' := by
  obtain ⟨vp, vl, hM, hY⟩ := h
  have hlen : S.P.length ≤ 60000 := by have := hG.len; omega
  have hll : S.L.length ≤ 50000 := by have := hG.llen; omega
  obtain ⟨ao, cap, hv⟩ := Own.form hM.lst
  obtain ⟨n, hn⟩ : ∃ n, S.L.length = n := ⟨_, rfl⟩
  have hT := cat_len (ls := lst S.P S.L) (c := n) fun k => by have := lst_len S k; omega
  have hTT : Hid (∀ k, k ≤ 5 → (cat (lst S.P S.L) k).length ≤ 250000) := W_hid fun k hk => by
    have := hT k
    have : k * n ≤ 5 * 50000 := Nat.mul_le_mul hk (by omega)
    omega
  have htk : Hid (∀ i k, (lst S.P (S.L.take i) k).length ≤ 50000) := W_hid fun i k => Nat.le_trans (lst_take_le _ _ _ _) hll
  have hbx : Hid (∀ W, Below w.heap.size w W → W.cell? ⟨rb, 1, none⟩ = some (.slice ao n cap)) := W_hid fun W hW => by rw [← hn, ← hv]; exact (hM.keep hW).box.cell (j := 1) rfl
  have hrd : Hid (∀ i (hi : i < S.L.length), ∃ (g nP capP gl q : Nat) (x : Int) (l : Nat), ao = some ⟨gl, 0, none⟩ ∧ n ≤ cap ∧ cap ≤ 9223372036854775807 ∧ (q : Int) < (nP : Int) ∧ nP ≤ capP ∧ capP ≤ 9223372036854775807 ∧ lst S.P (S.L.take (i + 1)) = (fun k => lst S.P (S.L.take i) k ++ (if l = k then [S.L[i]] else [])) ∧
      ∀ W, Below w.heap.size w W → W.cell? ⟨rb, 0, none⟩ = some (.slice (some ⟨g, 0, none⟩) nP capP) ∧ W.cell? ⟨gl, i, none⟩ = some (.int .i64 S.L[i]) ∧ W.cell? ⟨g, q * 4 + 1, none⟩ = some (.int .i64 x) ∧
        Calls Try.prog 52 #[ptr rb, .int .i64 S.L[i]] W (fun e w' => e = .returned (.int .i64 (q : Int)) ∧ W = w') ∧ Calls Try.prog 56 #[.int .i64 x] W (fun e w' => e = .returned (.int .i64 (l : Nat)) ∧ W = w')) := W_hid fun i hi => by
    obtain ⟨x, hx, -⟩ := (hG.mem S.L[i]).1 (List.getElem_mem hi)
    obtain ⟨hlow, he⟩ := get_at hG.asc hx
    obtain ⟨g, nP, capP, e, hnP, h2, h3, h4, -⟩ := hM.opened hlow
    obtain ⟨ao', cap', e', -, hat⟩ := list_at hM.lst
    rw [hv] at e'
    simp only [Value.slice.injEq, true_and] at e'
    obtain ⟨rfl, rfl⟩ := e'
    obtain ⟨gl, rfl, -, h6, h7, -⟩ := hat i hi
    refine ⟨g, nP, capP, gl, low S.P S.L[i], x.nice, lev x.nice, rfl, by rw [← hn]; exact h6, h7, h2, h3, h4, ?_, fun W hW => ?_⟩
    · funext k
      rw [lst_step hi, levP_some hx]
    · have hMW := hM.keep hW
      obtain ⟨g2, n2, cap2, e2, -, -, -, -, -, -, -, -, -, -, y1, -, y3, -⟩ := hMW.opened hlow
      rw [e] at e2
      simp only [Value.slice.injEq, Option.some.injEq, Addr.mk.injEq, and_true] at e2
      obtain ⟨rfl, rfl, rfl⟩ := e2
      rw [he] at y3
      obtain ⟨ao3, cap3, e3, -, hat3⟩ := list_at hMW.lst
      rw [hv] at e3
      simp only [Value.slice.injEq, true_and] at e3
      obtain ⟨rfl, rfl⟩ := e3
      obtain ⟨gl3, e4, y4, -⟩ := hat3 i hi
      simp only [Option.some.injEq, Addr.mk.injEq, and_true] at e4
      subst e4
      have hA := rat_any S.L[i] hMW hG.asc hlen
      unfold atI at hA
      rw [hx] at hA
      exact ⟨y1, y4, y3, hA, rlevel_any x.nice (hG.get_ok hx).2.1 W⟩
  have hwl := W_hid hM.box.lt
  rw [ready_cat]
  have hallk : Hid (∀ k, cat (lst S.P S.L) k ++ lst S.P (S.L.take n) k = cat (lst S.P S.L) (k + 1)) := W_hid fun k => by rw [← hn, List.take_length]; rfl
  have hzk : Hid (∀ k, cat (lst S.P S.L) k ++ lst S.P (S.L.take 0) k = cat (lst S.P S.L) k) := W_hid fun k => by simp [lst]
  replace hn := W_hid hn
  clear hM hY hv hT hG
  go_enter Try.func57, Try.ntmps57
  go_wp2_with fail
  go_loopw [3, 4, 5] (fun v i _ wr => ∃ k m : Nat, k ≤ 5 ∧ i = .int .i64 (k : Int) ∧ Hid (wr.ownsRow w.heap.size TI 1 v m (icl (cat (lst S.P S.L) k))) ∧ Hid (Below w.heap.size w wr)) (fun _ i _ _ => 5 - (intOf i).toNat)
  case atStart => exact ⟨0, 0, Nat.zero_le _, rfl, W_hid (World.ownsRow_nil _ _ _ _), W_hid (Below.refl _ _)⟩
  case round =>
    obtain ⟨k, m, hk, rfl, ho, hb⟩ := hrel
    by_cases hlt : k < 5
    · have hd5 : decide ((k : Int) < 5) = true := by simp; omega
      go_wp2_with fail
      go_loopw [3, 5] (fun v i wr => ∃ j m : Nat, j ≤ n ∧ i = .int .i64 (j : Int) ∧ Hid (wr.ownsRow w.heap.size TI 1 v m (icl (cat (lst S.P S.L) k ++ lst S.P (S.L.take j) k))) ∧ Hid (Below w.heap.size w wr)) (fun _ i _ => n - (intOf i).toNat)
      case atStart => exact ⟨0, m, Nat.zero_le _, rfl, W_hid (by rw [hzk.out]; exact ho.out), hb⟩
      case round =>
        obtain ⟨j, m, hj, rfl, ho, hb⟩ := hrel
        have y1 := hbx.out _ hb.out
        by_cases hjn : j < n
        · have hjl : j < S.L.length := by rw [hn.out]; exact hjn
          obtain ⟨g, nP, capP, gl, q, x, l, rfl, p1, p2, p3, p4, p5, hls, hW⟩ := hrd.out j hjl
          obtain ⟨z0, z1, z2, -, -⟩ := hW wr hb.out
          have cA := W_hid (fun t => Calls.quiet_of_same ((hW _ (bdrew hb.out t)).2.2.2.1.mono fun e w' h => ⟨h.1, h.2.symm⟩))
          have cL := W_hid (fun t => Calls.quiet_of_same ((hW _ (bdrew hb.out t)).2.2.2.2.mono fun e w' h => ⟨h.1, h.2.symm⟩))
          have hWd := W_hid (fun t => hW _ (bdrew hb.out t))
          replace hls := W_hid (congrFun hls k)
          clear hW
          obtain ⟨a, ha⟩ : ∃ a, S.L[j] = a := ⟨_, rfl⟩
          rw [ha] at z1 cA hls hWd
          clear ha hjl
          have hm6 : m ≤ 300000 := by
            have h1 := ho.out.1
            have h2 := hTT.out k (by omega)
            have h3 := htk.out j k
            rw [icl_len, List.length_append] at h1
            omega
          by_cases hlk : l = k
          · rw [if_pos hlk] at hls
            have hek : (l : Int) = (k : Int) := by omega
            clear hlk
            go_wp2_with fail
            go_quiet (first | (go_at_call 52; exact cA.out _) | (go_at_call 56; exact cL.out _))
            obtain ⟨x0, x1, x2, -, -⟩ := hWd.out nq
            have x3 := hbx.out _ (bdrew hb.out nq)
            have ho2 : (wr.drewN nq).ownsRow w.heap.size TI 1 _ m _ := ho.out
            have hb2 := bdrew hb.out nq
            obtain ⟨V, hV⟩ : ∃ V, wr.drewN nq = V := ⟨_, rfl⟩
            rw [hV] at x0 x1 x2 x3 ho2 hb2 ⊢
            obtain ⟨a4, c4, rfl⟩ := Own.form ho2
            obtain ⟨hoA, hsA, hbA⟩ := app_one ho2 hb2 a
            replace hoA := W_hid hoA
            replace hsA := W_hid hsA
            replace hbA := W_hid hbA
            have hsz := hbA.out.size
            replace hV := W_hid hV
            replace ho2 := W_hid ho2
            replace hb2 := W_hid hb2
            go_wp2_with (at_builtin; refine Own.wpList_app rfl (.tmp 38) (.tmp 46) 30 rfl und_ints info_int (.slice a4 m c4) (.slice (some ⟨V.heap.size, 0, none⟩) 1 1) rfl rfl hoA.out hsz hsA.out (icl_one [a]) (by unfold maxLen; omega) (by omega) ?_; intro v' w' ho' hg' hv'; have hbn := W_hid (below_row hbA.out hsz hg' fun g hg => Own.ge hoA.out g hg); replace ho' := W_hid ho'; replace hg' := W_hid hg'; replace hv' := W_hid hv')
            go_roundw
            case rel => exact ⟨j + 1, m + 1, by omega, by go_num, W_hid (by have := ho'.out; rw [hls.out, ← List.append_assoc, icl_app (_ ++ _) [a]]; exact this), hbn⟩
            case measure => simp [intOf]; omega
          · have hne : ¬ (l : Int) = (k : Int) := by omega
            rw [if_neg hlk, List.append_nil] at hls
            clear hlk
            go_wp2_with fail
            go_quiet (first | (go_at_call 52; exact cA.out _) | (go_at_call 56; exact cL.out _))
            go_wp2_with fail
            go_roundw
            case rel => exact ⟨j + 1, m, by omega, by go_num, W_hid (by rw [hls.out]; exact ho.out), W_hid (bdrew hb.out nq)⟩
            case measure => simp [intOf]; omega
        · obtain rfl : j = n := by omega
          go_wp2_with fail
          go_roundw
          case rel => exact ⟨k + 1, m, by omega, by go_num, W_hid (by rw [← hallk.out]; exact ho.out), hb⟩
          case measure => simp [intOf]; omega
    · obtain rfl : k = 5 := by omega
      obtain ⟨a3, c3, rfl⟩ := Own.form ho.out
      have hm : m = (cat (lst S.P S.L) 5).length := by have := ho.out.1; rw [icl_len] at this; omega
      subst hm
      go_wp2_with fail
      go_ret
      exact ⟨_, rfl, ho.out, hb.out⟩
end
end SD
end Go.Proofs.Ytmikgkelmdgckaa

/- Contracts of package sched: Share, Lot. -/
import Derived.Test.YtmikgkelmdgckaaSchOps
import Derived.Test.YtmikgkelmdgckaaSchLotM
namespace Go.Proofs.Ytmikgkelmdgckaa
open Go.ChangeShapes Go.WideShapes Go.ChangeAt Go.RowKit
set_option linter.unusedVariables false
set_option linter.unusedSimpArgs false
set_option maxRecDepth 100000
namespace SD
open IN (Keeps lt_of_some)
open FM (one)
/-- slices.Index. -/
theorem index_any {base n : Nat} {v : Value} {l : List Int} (p : Int) (w : World) (h : w.ownsRow base TI 1 v n (icl l)) (hn : n ≤ 60000) :
    Calls Try.prog 18 #[v, .int .i64 p] w fun e w' => e = .returned (.int .i64 (idxI l p)) ∧ w = w' := by
  obtain ⟨ao, cap, rfl, hl, hat⟩ := list_at h
  have hle := idx_le l p
  have hne : Hid (∀ j (hj : j < l.length), j < idx l p → p ≠ l[j]) := W_hid fun j hj h => (idx_ne hj h).symm
  have heq : Hid (∀ j (hj : j < l.length), j = idx l p → l[j] = p) := W_hid fun j hj e => by subst e; exact idx_eq hj
  unfold idxI
  obtain ⟨K, hK⟩ : ∃ K, idx l p = K := ⟨_, rfl⟩
  rw [hK] at hne heq hle ⊢
  rw [hl] at hle ⊢
  have hat := W_hid hat
  replace hl := W_hid hl
  clear h hK
  go_enter Try.func18, Try.ntmps18
  go_wp2_with fail
  go_loopw [5, 8] (fun _ i wr => ∃ k : Nat, k ≤ K ∧ i = .int .i64 (k : Int) ∧ w = wr) (fun _ i _ => n - (intOf i).toNat)
  case atStart => exact ⟨0, Nat.zero_le _, rfl, rfl⟩
  case round =>
    obtain ⟨k, hk, rfl, hwr⟩ := hrel
    subst hwr
    by_cases hlt : k < n
    · have hkl : k < l.length := by rw [hl.out]; exact hlt
      obtain ⟨g, rfl, e0, -⟩ := hat.out k hkl
      by_cases hkK : k < K
      · have hx := hne.out k hkl hkK
        obtain ⟨a, ha⟩ : ∃ a, l[k] = a := ⟨_, rfl⟩
        rw [ha] at e0 hx
        clear ha hkl
        go_wp2_with fail
        go_roundw
        case rel => exact ⟨k + 1, by omega, by go_num, by first | trivial | rfl⟩
        case measure => simp [intOf]; omega
      · obtain rfl : k = K := by omega
        have hx := heq.out k hkl rfl
        rw [hx] at e0
        clear hkl hx
        go_wp2_with fail
        go_ret
        exact ⟨by first | exact ret_int (if_pos hlt).symm | simp [hlt], by first | trivial | rfl⟩
    · obtain rfl : k = K := by omega
      have hkN : k = n := by omega
      replace hkN := W_hid hkN
      have hge : (n : Int) ≤ (k : Int) := by omega
      go_wp2_with fail
      go_ret
      exact ⟨by first | exact ret_int (if_neg hlt).symm | simp [hlt], by first | trivial | rfl⟩
theorem mem_rpid {c : Nat} {S : Qs} (h : Good c S) {p : Int} {x : Pr} (hx : get S.P p = some x) (hon : x.on = true) : idx (rpid S.P) p < (rpid S.P).length := by
  unfold idx
  rw [List.findIdx_lt_length]
  refine ⟨p, ?_, by simp⟩
  unfold rpid rl
  rw [List.mem_map]
  exact ⟨x, List.mem_filter.2 ⟨(get_some hx).1, hon⟩, (get_some hx).2⟩
section
variable {base : Nat} {w : World} {qb : Nat} {S : Qs} {X : Nat → Prop} {c : Nat}
set_option maxRecDepth 100000 in
set_option maxHeartbeats 4000000 in
theorem Share_any (h : QW base w qb S X) (hG : Good c S) (hc : c ≤ 50000) (p : Int) : Calls Try.prog 8 #[ptr qb, .int .i64 p] w fun e w' => e = .returned (.tuple #[.float .f64 (shrR S p).1, .int .i64 (shrR S p).2]) ∧ QO base w qb S X w' := by
  have hid := W_hid (fun w' (hb : Below w.heap.size w w') => h.same hb)
  obtain ⟨nb, vr, vl, hM, hX⟩ := h
  have hlen : S.P.length ≤ 60000 := by have := hG.len; omega
  cases hg : get S.P p with
  | none =>
    rw [show shrR S p = (0, 19) by unfold shrR; rw [hg]]
    have hf := W_hid (find_no hM hG.asc hlen p hg)
    clear hM hX hg
    go_enter Try.func8, Try.ntmps8
    go_wp2_with (go_at_call 13; refine hf.out.mono ?_; rintro e w1 ⟨rfl, hb⟩; have hb := W_hid hb)
    go_ret2
    exact ⟨rfl, hid.out _ hb.out⟩
  | some x =>
    obtain ⟨g, hv⟩ := hM.block hG.asc hg
    have hf := W_hid (find_yes hM hG.asc hlen p hg hv)
    have hfd := W_hid (fun w1 (hb : Below w.heap.size w w1) => (hM.keep hb).found hG.asc hg hv)
    cases hon : x.on with
    | false =>
      rw [hon] at hfd
      simp only [Bool.not_false] at hfd
      rw [show shrR S p = (0, 2) by unfold shrR; rw [hg]; simp [hon]]
      obtain ⟨K, hK⟩ : ∃ K, low S.P p = K := ⟨_, rfl⟩
      rw [hK] at hf hfd
      clear hM hX hg hK hon
      go_enter Try.func8, Try.ntmps8
      go_wp2_with (go_at_call 13; refine hf.out.mono ?_; rintro e w1 ⟨rfl, hb⟩; obtain ⟨-, -, -, y2, -⟩ := hfd.out w1 hb; have hb := W_hid hb)
      go_ret2
      exact ⟨rfl, hid.out _ hb.out⟩
    | true =>
      rw [hon] at hfd
      simp only [Bool.not_true] at hfd
      rw [show shrR S p = shareR (idx (rpid S.P) p : Nat) (wl S.P) by unfold shrR; rw [hg]; simp [hon]]
      have hii : idxI (rpid S.P) p = (idx (rpid S.P) p : Nat) := by unfold idxI; rw [if_pos (mem_rpid hG hg hon)]
      have hwl := wl_range hG.nice
      have hw := W_hid (fun w1 (hb : Below w.heap.size w w1) => weights_any (hM.keep hb) hlen hG.nice)
      have hrl : (rl S.P).length ≤ 60000 := Nat.le_trans (rl_len _) hlen
      have hsh : Hid (∀ w1 w2 vp vo, Below w.heap.size w w1 → Below w1.heap.size w1 w2 → w2.ownsRow w1.heap.size TI 1 vp (rl S.P).length (icl (rpid S.P)) → w2.ownsRow w1.heap.size TF 1 vo (rl S.P).length (fcel (wl S.P)) →
          Calls Try.prog 18 #[vp, .int .i64 p] w2 fun e w3 => e = .returned (.int .i64 (idx (rpid S.P) p : Nat)) ∧ Calls Try.prog 17 #[.int .i64 (idx (rpid S.P) p : Nat), vo] w3 fun e w4 => e = .returned (.tuple #[.float .f64 (shareR (idx (rpid S.P) p : Nat) (wl S.P)).1, .int .i64 (shareR (idx (rpid S.P) p : Nat) (wl S.P)).2]) ∧ Below w.heap.size w w4) := W_hid fun w1 w2 vp vo b1 b2 hp ho => by
        rw [← hii]
        refine (index_any p w2 hp hrl).mono ?_
        rintro e w3 ⟨rfl, rfl⟩
        obtain ⟨ao, cap, rfl, hfs⟩ := fsl_of ho (wl_len _) fun x hx => by have := (hwl x hx).2; unfold p2 at this; omega
        refine ⟨rfl, (share_any _ ao _ cap _ w2 hfs).mono ?_⟩
        rintro e w4 ⟨rfl, b4⟩
        exact ⟨rfl, (b1.trans (bel_mono b2 b1.size)).trans (bel_mono b4 (Nat.le_trans b1.size b2.size))⟩
      obtain ⟨K, hK⟩ : ∃ K, low S.P p = K := ⟨_, rfl⟩
      rw [hK] at hf hfd
      obtain ⟨I, hI⟩ : ∃ I, idx (rpid S.P) p = I := ⟨_, rfl⟩
      rw [hI] at hsh ⊢
      obtain ⟨r1, hr1⟩ : ∃ r, (shareR (I : Nat) (wl S.P)).1 = r := ⟨_, rfl⟩
      obtain ⟨r2, hr2⟩ : ∃ r, (shareR (I : Nat) (wl S.P)).2 = r := ⟨_, rfl⟩
      rw [hr1, hr2] at hsh ⊢
      clear hM hX hg hK hon hii hI hr1 hr2 hwl
      go_enter Try.func8, Try.ntmps8
      go_wp2_with (first
        | (go_at_call 13; refine hf.out.mono ?_; rintro e w1 ⟨rfl, hb⟩; obtain ⟨-, -, -, y2, -⟩ := hfd.out w1 hb; have cW := W_hid (hw.out _ hb); have hb := W_hid hb)
        | (go_at_call 16; refine cW.out.mono ?_; rintro e w2 ⟨vp, vo, rfl, hp, ho, hb2⟩; have cI := W_hid (hsh.out _ _ _ _ hb.out hb2 hp ho); replace hp := W_hid hp; replace ho := W_hid ho; replace hb2 := W_hid hb2)
        | (go_at_call 18; refine cI.out.mono ?_; rintro e w3 ⟨rfl, cS⟩; have cS := W_hid cS)
        | (go_at_call 17; refine cS.out.mono ?_; rintro e w4 ⟨rfl, hb4⟩; have hb4 := W_hid hb4))
      go_ret2
      exact ⟨rfl, hid.out _ hb4.out⟩
end
end SD
end Go.Proofs.Ytmikgkelmdgckaa

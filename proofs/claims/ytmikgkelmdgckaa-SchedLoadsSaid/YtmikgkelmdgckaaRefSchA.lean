/- The document's Share; Same. -/
import Derived.Test.YtmikgkelmdgckaaRefSch9
namespace Go.Proofs.Ytmikgkelmdgckaa
open Go.ChangeShapes Go.WideShapes Go.ChangeAt Go.RowKit
set_option linter.unusedVariables false
set_option linter.unusedSimpArgs false
set_option maxRecDepth 100000
namespace SD
open IN (Keeps lt_of_some)
open FM (one)
theorem not_rpid {c : Nat} {S : Qs} (h : Good c S) {p : Int} {x : Pr} (hx : get S.P p = some x) (hon : x.on = false) : ¬ idx (rpid S.P) p < (rpid S.P).length := by
  unfold idx
  rw [List.findIdx_lt_length]
  rintro ⟨q, hq, hqp⟩
  simp only [decide_eq_true_eq] at hqp
  subst hqp
  unfold rpid rl at hq
  rw [List.mem_map] at hq
  obtain ⟨y, hy, hyp⟩ := hq
  obtain ⟨hy1, hy2⟩ := List.mem_filter.1 hy
  have := asc_get h.asc hy1
  rw [hyp, hx] at this
  cases this
  rw [hon] at hy2
  cases hy2
section
variable {base : Nat} {w : World} {rb : Nat} {S : Qs} {Y : Nat → Prop} {c : Nat}
set_option maxRecDepth 100000 in
set_option maxHeartbeats 4000000 in
theorem rShare_any (h : DW base w rb S Y) (hG : Good c S) (hc : c ≤ 50000) (p : Int) : Calls Try.prog 41 #[ptr rb, .int .i64 p] w fun e w' => e = .returned (.tuple #[.float .f64 (shrR S p).1, .int .i64 (shrR S p).2]) ∧ DO base w rb S Y w' := by
  have hid := W_hid (fun w' (hb : Below w.heap.size w w') => h.same hb)
  obtain ⟨vp, vl, hM, hY⟩ := h
  have hlen : S.P.length ≤ 60000 := by have := hG.len; omega
  have hat := rat_any p hM hG.asc hlen
  unfold atI at hat
  cases hg : get S.P p with
  | none =>
    rw [show shrR S p = (0, 19) by unfold shrR; rw [hg]]
    rw [hg] at hat
    replace hat := W_hid hat
    clear hM hY hg
    go_enter Try.func41, Try.ntmps41
    go_wp2_with (go_at_call 52; refine hat.out.mono ?_; rintro e w' ⟨rfl, rfl⟩)
    go_ret2
    exact ⟨rfl, hid.out _ (Below.refl _ _)⟩
  | some x =>
    rw [hg] at hat
    have hwl := wl_range hG.nice
    have hw := W_hid (rweights_any hM hlen hG.nice)
    have hrl : (rl S.P).length ≤ 60000 := Nat.le_trans (rl_len _) hlen
    have hres : shrR S p = if idx (rpid S.P) p < (rl S.P).length then shareR (idx (rpid S.P) p : Nat) (wl S.P) else (0, 2) := by
      unfold shrR
      rw [hg, ← rpid_len]
      cases hon : x.on with
      | true => rw [if_pos (mem_rpid hG hg hon)]; simp [hon]
      | false => rw [if_neg (not_rpid hG hg hon)]; simp [hon]
    rw [hres]
    have hle := idx_le (rpid S.P) p
    have hne : Hid (∀ j (hj : j < (rpid S.P).length), j < idx (rpid S.P) p → (rpid S.P)[j] ≠ p) := W_hid fun j hj h => idx_ne hj h
    have heq : Hid (∀ j (hj : j < (rpid S.P).length), j = idx (rpid S.P) p → (rpid S.P)[j] = p) := W_hid fun j hj e => by subst e; exact idx_eq hj
    have hsh : Hid (∀ (w2 : World) (v1 v2 : Value), Below w.heap.size w w2 → w2.ownsRow w.heap.size TI 1 v1 (rl S.P).length (icl (rpid S.P)) → w2.ownsRow w.heap.size TF 1 v2 (rl S.P).length (fcel (wl S.P)) →
        (∃ ao cap, v1 = .slice ao (rl S.P).length cap ∧ ∀ j (hj : j < (rpid S.P).length), ∃ g, ao = some ⟨g, 0, none⟩ ∧ (rl S.P).length ≤ cap ∧ cap ≤ 9223372036854775807 ∧ w2.cell? ⟨g, j, none⟩ = some (.int .i64 (rpid S.P)[j])) ∧
        ∀ i : Nat, Calls Try.prog 64 #[.int .i64 (i : Int), v2] w2 fun e w4 => e = .returned (.tuple #[.float .f64 (shareR (i : Int) (wl S.P)).1, .int .i64 (shareR (i : Int) (wl S.P)).2]) ∧ Below w.heap.size w w4) := W_hid fun w2 v1 v2 b2 hp ho => by
      obtain ⟨ao, cap, rfl, hl, hat⟩ := list_at hp
      obtain ⟨a1, c1, rfl, hfs⟩ := fsl_of ho (wl_len _) fun x hx => by have := (hwl x hx).2; unfold p2 at this; omega
      refine ⟨⟨ao, cap, rfl, fun j hj => ?_⟩, fun i => (rshare_any (i : Int) a1 _ c1 _ w2 hfs).mono ?_⟩
      · obtain ⟨g, e1, e2, e3, e4, -⟩ := hat j hj
        exact ⟨g, e1, e3, e4, e2⟩
      · rintro e w4 ⟨rfl, b4⟩
        exact ⟨rfl, b2.trans (bel_mono b4 b2.size)⟩
    obtain ⟨q, hq⟩ : ∃ q, low S.P p = q := ⟨_, rfl⟩
    rw [hq] at hat
    have hd0 : decide ((q : Int) < 0) = false := by simp
    obtain ⟨K, hK⟩ : ∃ K, idx (rpid S.P) p = K := ⟨_, rfl⟩
    rw [hK] at hle hne heq ⊢
    rw [rpid_len] at hle
    obtain ⟨n, hn⟩ : ∃ n, (rl S.P).length = n := ⟨_, rfl⟩
    have hnp : Hid ((rpid S.P).length = n) := W_hid (by rw [rpid_len, hn])
    rw [hn] at hle hrl hsh hw ⊢
    obtain ⟨R, hR⟩ : ∃ R, (if K < n then shareR (K : Int) (wl S.P) else (0, 2)) = R := ⟨_, rfl⟩
    rw [hR]
    replace hR := W_hid hR
    replace hat := W_hid hat
    clear hM hY hg hq hK hres hwl hn
    go_enter Try.func41, Try.ntmps41
    go_wp2_with (first
      | (go_at_call 52; refine hat.out.mono ?_; rintro e w' ⟨rfl, rfl⟩)
      | (go_at_call 61; refine hw.out.mono ?_; rintro e w2 ⟨v1, v2, rfl, hp, ho, hb2⟩; obtain ⟨⟨ao, cap, rfl, hcl⟩, cS⟩ := hsh.out _ _ _ hb2 hp ho; have cS := W_hid (cS K); replace hcl := W_hid hcl; replace hp := W_hid hp; replace ho := W_hid ho; replace hb2 := W_hid hb2))
    go_loopw [9] (fun i wr => ∃ k : Nat, k ≤ K ∧ i = .int .i64 (k : Int) ∧ w2 = wr) (fun i _ => n - (intOf i).toNat)
    case atStart => exact ⟨0, Nat.zero_le _, rfl, rfl⟩
    case round =>
      obtain ⟨k, hk, rfl, hwr⟩ := hrel
      subst hwr
      by_cases hlt : k < n
      · have hkl : k < (rpid S.P).length := by rw [hnp.out]; exact hlt
        obtain ⟨g, rfl, q1, q2, e0⟩ := hcl.out k hkl
        by_cases hkK : k < K
        · have hx := hne.out k hkl hkK
          obtain ⟨a, ha⟩ : ∃ a, (rpid S.P)[k] = a := ⟨_, rfl⟩
          rw [ha] at e0 hx
          clear ha hkl
          go_wp2_with fail
          go_roundw
          case rel => exact ⟨k + 1, by omega, by go_num, by first | trivial | rfl⟩
          case measure => simp [intOf]; omega
        · obtain rfl : k = K := by omega
          have hx := heq.out k hkl rfl
          rw [hx] at e0
          clear hkl hx
          have hR2 := hR.out
          rw [if_pos hlt] at hR2
          rw [hR2] at cS
          clear hR2
          go_wp2_with (go_at_call 64; refine cS.out.mono ?_; rintro e w4 ⟨rfl, hb4⟩; have hb4 := W_hid hb4)
          go_ret2
          exact ⟨rfl, hid.out _ hb4.out⟩
      · obtain rfl : k = K := by omega
        have hkN : k = n := by omega
        replace hkN := W_hid hkN
        have hge : (n : Int) ≤ (k : Int) := by omega
        have hR2 := hR.out
        rw [if_neg hlt] at hR2
        subst hR2
        go_wp2_with fail
        go_ret2
        exact ⟨rfl, hid.out _ hb2.out⟩
end
end SD
end Go.Proofs.Ytmikgkelmdgckaa

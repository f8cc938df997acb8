/- Stage 18: slices.Clone, Live, Run. -/
import Derived.Test.YtjafjjfcmcpaoaaMmAsk
namespace Go.Proofs.Ytjafjjfcmcpaoaa
open Go.ChangeShapes Go.WideShapes Go.ChangeAt Go.RowKit
set_option linter.unusedVariables false
set_option linter.unusedSimpArgs false
set_option maxRecDepth 100000
namespace MC
open IN (lt_of_some)

theorem own_empty (w : World) (e : TypeId) (size : Nat) : (w.alloc (.cells #[] e)).ownsRow w.heap.size e size (.slice (some ⟨w.heap.size, 0, none⟩) 0 0) 0 [] :=
  ⟨by simp, .inr ⟨w.heap.size, 0, #[], rfl, Nat.le_refl _, heap_alloc_new w _, Nat.le_refl _, Nat.zero_le _, by simp, by simp⟩⟩
theorem own_src {w : World} {base e size n : Nat} {v : Value} {xs : List Value} (h : w.ownsRow base e size v n xs) : Own.Src w size v n xs := by
  obtain ⟨ao, cap, rfl⟩ := Own.form h
  have := Own.src_take h rfl n (Nat.le_refl _)
  rwa [List.take_of_length_le (by rw [h.1]; exact Nat.le_refl _)] at this
theorem cloneI_any {w : World} {v : Value} {n : Nat} {ys : List Value} (h : Own.Src w 1 v n ys) (h1 : ∀ u ∈ ys, u.oneCell' = true) (hn : n ≤ 60000) :
    Calls Try.prog 33 #[v] w fun e w' => ∃ v', e = .returned v' ∧ w'.ownsRow w.heap.size TI 1 v' n ys ∧ Below w.heap.size w w' := by
  rcases h with ⟨rfl, rfl, rfl⟩ | ⟨ad, c, rfl, h2, h3⟩
  · have hb : ∀ w, (binOp .eql 23 (.slice none 0 0) (.slice none 0 0)).run Try.prog w = .ok (.bool true) w := fun w => by kernel_rfl
    go_enter Try.func33, Try.ntmps33
    go_wp2_with fail
    go_ret
    exact ⟨_, rfl, World.ownsRow_nil _ _ _ _, Below.refl _ _⟩
  · have hb : ∀ w, (binOp .eql 23 (.slice (some ad) n c) (.slice none 0 0)).run Try.prog w = .ok (.bool false) w := fun w => by kernel_rfl
    have hsrc := W_hid (fun (X : Obj) => Own.Src.keep (.inr ⟨ad, c, rfl, h2, h3⟩ : Own.Src w 1 (.slice (some ad) n c) n ys) ((Below.refl w.heap.size w).alloc (Nat.le_refl _) X))
    have hown := W_hid (own_empty w TI 1)
    replace h1 := W_hid h1
    clear h2 h3
    go_enter Try.func33, Try.ntmps33
    go_wp2_with (at_builtin; refine Own.wpList_app rfl (.tmp 5) (.tmp 6) 23 rfl und_ints info_int (.slice (some ⟨w.heap.size, 0, none⟩) 0 0) (.slice (some ad) n c) rfl rfl hown.out (by simp) (hsrc.out _) h1.out (by unfold maxLen; omega) (by omega) ?_; intro v4 w4 ho4 hg4 hob4; have ho4 := W_hid ho4; have hg4 := W_hid hg4; clear hob4)
    go_ret
    refine ⟨_, rfl, by have := ho4.out; rwa [Nat.zero_add, List.nil_append] at this, ?_⟩
    exact ((Below.refl w.heap.size w).alloc (Nat.le_refl _) _).grown hg4.out (by simp) (fun j hj => by simp [Value.ownBlock] at hj; omega)
theorem cloneX_any {w : World} {v : Value} {n : Nat} {ys : List Value} (h : Own.Src w 5 v n ys) (h1 : ∀ u ∈ ys, u.oneCell' = true) (hn : n ≤ 3518437208883) :
    Calls Try.prog 36 #[v] w fun e w' => ∃ v', e = .returned v' ∧ w'.ownsRow w.heap.size TX 5 v' n ys ∧ Below w.heap.size w w' := by
  rcases h with ⟨rfl, rfl, rfl⟩ | ⟨ad, c, rfl, h2, h3⟩
  · have hb : ∀ w, (binOp .eql 39 (.slice none 0 0) (.slice none 0 0)).run Try.prog w = .ok (.bool true) w := fun w => by kernel_rfl
    go_enter Try.func36, Try.ntmps36
    go_wp2_with fail
    go_ret
    exact ⟨_, rfl, World.ownsRow_nil _ _ _ _, Below.refl _ _⟩
  · have hb : ∀ w, (binOp .eql 39 (.slice (some ad) n c) (.slice none 0 0)).run Try.prog w = .ok (.bool false) w := fun w => by kernel_rfl
    have hsrc := W_hid (fun (X : Obj) => Own.Src.keep (.inr ⟨ad, c, rfl, h2, h3⟩ : Own.Src w 5 (.slice (some ad) n c) n ys) ((Below.refl w.heap.size w).alloc (Nat.le_refl _) X))
    have hown := W_hid (own_empty w TX 5)
    replace h1 := W_hid h1
    clear h2 h3
    go_enter Try.func36, Try.ntmps36
    go_wp2_with (at_builtin; refine Own.wpList_app rfl (.tmp 5) (.tmp 6) 39 rfl und_inss info_ins (.slice (some ⟨w.heap.size, 0, none⟩) 0 0) (.slice (some ad) n c) rfl rfl hown.out (by simp) (hsrc.out _) h1.out (by unfold maxLen; omega) (by omega) ?_; intro v4 w4 ho4 hg4 hob4; have ho4 := W_hid ho4; have hg4 := W_hid hg4; clear hob4)
    go_ret
    refine ⟨_, rfl, by have := ho4.out; rwa [Nat.zero_add, List.nil_append] at this, ?_⟩
    exact ((Below.refl w.heap.size w).alloc (Nat.le_refl _) _).grown hg4.out (by simp) (fun j hj => by simp [Value.ownBlock] at hj; omega)

section
variable {lo a b : Nat} {w w' : World} {gm : Nat} {S : Ma}
theorem Live_any (h : PW lo a b w gm S) (hS : S.t.length ≤ 64) : Calls Try.prog 17 #[ptr gm] w fun e w' => ∃ v, e = .returned v ∧ w'.ownsRow w.heap.size TI 1 v (live S.t).length (ncl (live S.t)) ∧ Below w.heap.size w w' := by
  obtain ⟨gc, vt, vl, L, h⟩ := h
  have m0 := h.box.cell (j := 0) rfl
  have m2 := h.box.cell (j := 2) rfl
  have hno := W_hid (none_some m0)
  have hcl := W_hid (cloneI_any (own_src h.liv) (icl_one _) (by have := live_len S.t; omega))
  obtain ⟨al, cl, rfl⟩ := Own.form h.liv
  clear h
  go_enter Try.func17, Try.ntmps17
  go_wp2_with (first | (go_at_call 27; refine hno.out.mono ?_; rintro e w' ⟨rfl, rfl⟩) | (go_at_call 33; refine hcl.out.mono ?_; rintro e w' ⟨v', rfl, ho, hb⟩))
  go_ret
  exact ⟨_, rfl, ho, hb⟩
/-- A list of numbers in memory, as the walk wants it. -/
def Nu (w : World) (ao : Option Addr) (n : Nat) (l : List Int) : Prop := n = l.length ∧ n ≤ 9223372036854775807 ∧ ∀ j x, l[j]? = some x → I64 x ∧ ∃ g o, ao = some ⟨g, o, none⟩ ∧ g < w.heap.size ∧ w.cell? ⟨g, o + j, none⟩ = some (.int .i64 x)
theorem Nu.moved {ao : Option Addr} {n : Nat} {l : List Int} (h : Nu w ao n l) (hs : w.heap.size ≤ w'.heap.size) (hk : ∀ k, (∃ x, ao = some x ∧ x.block = k) → w'.heap[k]? = w.heap[k]?) : Nu w' ao n l := by
  refine ⟨h.1, h.2.1, fun j x hj => ?_⟩
  obtain ⟨hi, g, o, ha, hl, hc⟩ := h.2.2 j x hj
  exact ⟨hi, g, o, ha, by omega, by rw [World.cell?_of_block (w := w) (hk g ⟨_, ha, rfl⟩)]; exact hc⟩
theorem go_take (S : Ma) (l : List Int) (k : Nat) (hk : k < l.length) (hd : (go S (l.take k)).2 = k) : go S (l.take (k + 1)) = (match pick (go S (l.take k)).1 l[k] with | none => ((go S (l.take k)).1, k) | some i => (step (go S (l.take k)).1 i, k + 1)) := by
  rw [List.take_succ_eq_append_getElem hk, go_append, if_pos (by rw [hd, List.length_take]; omega)]
  simp only [go]
  rcases pick (go S (l.take k)).1 l[k] with _ | i
  · simp only [List.length_take, Prod.mk.injEq, true_and]; omega
  · simp only [List.length_take, Prod.mk.injEq, true_and]; omega
theorem go_stays (S : Ma) (l : List Int) (k : Nat) (hk : k < l.length) (hd : (go S (l.take k)).2 = k) (hn : pick (go S (l.take k)).1 l[k] = none) : go S l = ((go S (l.take k)).1, k) := by
  have h1 := go_take S l k hk hd
  rw [hn] at h1
  have h2 : go S l = go S (l.take (k + 1) ++ l.drop (k + 1)) := by rw [List.take_append_drop]
  rw [h2, go_append, if_neg (by rw [h1, List.length_take]; simp only; omega), h1]
set_option maxRecDepth 100000 in
set_option maxHeartbeats 4000000 in
theorem Run_any {N : Nat} {ao : Option Addr} {n cap : Nat} {l : List Int} (h : PW lo a b w gm S) (hF : Fit N S) (hl : Nu w ao n l) (hlo : 0 < n → ∀ x, ao = some x → x.block < a ∨ b ≤ x.block) :
    Calls Try.prog 24 #[ptr gm, .slice ao n cap] w fun e w' => e = .returned (.int .i64 ((go S l).2 : Int)) ∧ PW lo a b w' gm (go S l).1 ∧ Win a b w w' := by
  have hn := hl.1
  have hn63 := hl.2.1
  replace h := W_hid h
  replace hF := W_hid hF
  replace hl := W_hid hl
  replace hn := W_hid hn
  go_enter Try.func24, Try.ntmps24
  go_wp2_with fail
  go_loopw [9] (fun i wr => ∃ k : Nat, i = .int .i64 (k : Int) ∧ k ≤ n ∧ Hid ((go S (l.take k)).2 = k) ∧ Hid (PW lo a b wr gm (go S (l.take k)).1) ∧ Hid (Win a b w wr)) (fun i _ => n - (intOf i).toNat)
  case atStart => exact ⟨0, rfl, Nat.zero_le _, W_hid rfl, h, W_hid (Win.refl _ _ _)⟩
  case round =>
    obtain ⟨k, rfl, hkn, hd, hP, hW⟩ := hrel
    by_cases hlt : k < n
    · have hkl : k < l.length := by have := hn.out; omega
      have hget : l[k]? = some l[k] := List.getElem?_eq_getElem hkl
      obtain ⟨hi64, g, o, rfl, hgl, hc⟩ := hl.out.2.2 k _ hget
      have hc2 : wr.cell? ⟨g, o + k, none⟩ = some (.int .i64 l[k]) := by
        rw [World.cell?_of_block (w := w) (hW.out.block g hgl (hlo (by omega) _ rfl))]; exact hc
      have hkp : IntKind.i64.wrap ((k : Int) + 1) = ((k + 1 : Nat) : Int) := by rw [IntWalk.i64_in _ (by omega)]; omega
      have hi1 : (k : Int) < (n : Int) := by omega
      have hF2 := go_fit hF.out (l.take k)
      have hst := W_hid (Step_any hP.out hF2 hi64)
      have htk := go_take S l k hkl hd.out
      obtain ⟨q, hq⟩ : ∃ q, l[k] = q := ⟨_, rfl⟩
      rw [hq] at hc2 hst htk
      by_cases hp : pick (go S (l.take k)).1 q = none
      · have hone : one (go S (l.take k)).1 q = ((go S (l.take k)).1, -1) := by unfold one; rw [hp]
        have hsy := go_stays S l k hkl hd.out (by rw [hq]; exact hp)
        rw [hone] at hst
        replace hsy := W_hid hsy
        replace hq := W_hid hq
        replace htk := W_hid htk
        clear hone hp hget
        go_wp2_with (go_at_call 12; refine hst.out.mono ?_; rintro e w2 ⟨rfl, hp2, hw2⟩)
        refine bodyPost_ret (results_tmp rfl _ _ _) rfl ?_
        rw [hsy.out]
        exact ⟨rfl, hp2, hW.out.trans hw2⟩
      · obtain ⟨i, hi⟩ := Option.ne_none_iff_exists'.1 hp
        have hone : one (go S (l.take k)).1 q = (step (go S (l.take k)).1 i, (i : Int)) := by unfold one; rw [hi]
        rw [hone] at hst
        rw [hi] at htk
        have hne : ¬ ((i : Int) = -1) := by omega
        replace hq := W_hid hq
        replace htk := W_hid htk
        replace hkp := W_hid hkp
        clear hone hp hget hi
        have hkp2 := hkp.out
        go_wp2_with (go_at_call 12; refine hst.out.mono ?_; rintro e w2 ⟨rfl, hp2, hw2⟩)
        refine ⟨⟨k + 1, by simp [hkp2], by omega, W_hid (by rw [htk.out]), W_hid (by rw [htk.out]; exact hp2), W_hid (hW.out.trans hw2)⟩, by simp [intOf]; omega⟩
    · have hk : k = n := by omega
      subst hk
      have e : l.take k = l := List.take_of_length_le (by have := hn.out; omega)
      rw [e] at hd hP
      go_wp2_with fail
      go_ret
      exact ⟨by rw [hd.out]; rfl, hP.out, hW.out⟩
end
end MC
end Go.Proofs.Ytjafjjfcmcpaoaa

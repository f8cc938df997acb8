/- The law MemKeeps of layer 18 (package haywardlaw18): for every input it returns true, and its arguments read as before. No further condition. -/
import Derived.Test.YtjafjjfcmcpaoaaMmBoth
import Derived.Test.YtjafjjfcmcpaoaaMmTwo
import Derived.Deep.RegionHeld3
namespace Go.Proofs.Ytjafjjfcmcpaoaa
open Go.ChangeShapes Go.WideShapes Go.ChangeAt Go.RowKit
set_option linter.unusedVariables false
set_option linter.unusedSimpArgs false
set_option maxRecDepth 100000
open MC
open IN (lt_of_some)

/-- Both machines, made behind B. -/
def KJ (B : Nat) (w0 W : World) (ga gd : Nat) (S : Ma) : Prop := (∃ a1 b1 a2 b2, B ≤ a1 ∧ b1 ≤ a2 ∧ PW w0.heap.size a1 b1 W ga S ∧ DW w0.heap.size a2 b2 W gd S) ∧ w0.heap.size ≤ B ∧ Below w0.heap.size w0 W
theorem KJ.set {B : Nat} {w0 W : World} {ga gd : Nat} {S : Ma} (h : KJ B w0 W ga gd S) {p : Addr} (hp : w0.heap.size ≤ p.block ∧ p.block < B) (u : Value) : KJ B w0 (W.setCell p u) ga gd S := by
  obtain ⟨⟨a1, b1, a2, b2, h1, h2, h3, h4⟩, h5, h6⟩ := h
  have hw : Win p.block (p.block + 1) W (W.setCell p u) := (Win.refl _ _ W).set ⟨Nat.le_refl _, by omega⟩ u
  have h3b := h3.ab'
  exact ⟨⟨a1, b1, a2, b2, h1, h2, h3.win hw (.inr (by omega)) (by omega), h4.win hw (.inr (by omega)) (by omega)⟩, h5, h6.trans (hw.below h6.size hp.1)⟩
theorem KJ.j {B N : Nat} {w0 W : World} {ga gd : Nat} {S : Ma} (h : KJ B w0 W ga gd S) (hF : Fit N S) : J w0 W ga gd N S S := by
  obtain ⟨⟨a1, b1, a2, b2, h1, h2, h3, h4⟩, h5, h6⟩ := h
  exact ⟨⟨a1, b1, a2, b2, by omega, h2, h3, h4⟩, h6, hF, hF⟩
theorem one_progW {W : World} {v : Value} {p : List In} (hs : Own.Src W 5 v p.length (xcl p)) (hf : ∀ y ∈ p, InFit y) (hn : p.length ≤ 3518437208880) :
    PIn (W.alloc (.cells #[v] 39)) (some ⟨W.heap.size, 0, none⟩) 1 [(v, p)] := by
  refine ⟨rfl, by decide, fun j x hj => ?_⟩
  have : j = 0 := by have := (List.getElem?_eq_some_iff.1 hj).1; simp at this; omega
  subst this
  simp only [List.getElem?_cons_zero, Option.some.injEq] at hj
  subst hj
  exact ⟨W.heap.size, 0, rfl, by simp, (Blk.new W 39 [v] rfl).cell rfl, hs.keep ((Below.refl _ _).alloc (Nat.le_refl _) _), hf, hn⟩
set_option maxRecDepth 100000 in
set_option maxHeartbeats 8000000 in
theorem MemKeeps_walk (o0 : Option Addr) (n0 c0 : Nat) (l0 : List In) (a1 : Option Addr) (len1 cap1 : Nat) (z1 : List Int) (w : World) (w0 : IA w o0 n0 c0 l0) (w1 : IsRow .i64 w a1 len1 cap1 z1) (s1 : cap1 * 8 ≤ 140737488351232) :
    Calls Try.prog 6 #[.slice o0 n0 c0, .slice a1 len1 cap1] w fun e w' => e = .returned (.bool true) ∧ Below w.heap.size w w' := by
  obtain ⟨hU, hU2, hU3⟩ := nu_row w1
  clear w1
  have hF : Fit 5 (new 5 [l0]) := new_fit (fun p hp => by
    obtain rfl := List.mem_singleton.1 hp
    exact ⟨w0.2.2.1, by have := w0.1; have := w0.2.2.2; omega⟩) (by simp)
  obtain ⟨S0, hS0⟩ : ∃ S, new 5 [l0] = S := ⟨_, rfl⟩
  have hn0 := w0.1
  have hnb := w0.2.2.2
  have hsrc := W_hid (fun W (hb : Below w.heap.size w W) => w0.2.1.keep hb)
  have hlo : ∀ k, l0 ≠ [] → vb (.slice o0 n0 c0) = some k → k < w.heap.size := fun k hne hk => src_lt (by have := w0.2.1; rw [hn0] at this; rw [hn0]; exact this) hne hk
  have hp := W_hid (fun (W : World) v (hw : w.heap.size ≤ W.heap.size) (hs : Own.Src W 5 v l0.length (xcl l0)) => New_yes (lo := w.heap.size) (C := 5) (cap := 1) (one_progW hs w0.2.2.1 (by omega)) ⟨by decide, by decide, by omega⟩ (by simp; omega))
  have hd := W_hid (fun (W : World) (hb : Below w.heap.size w W) => rNew_yes (lo := w.heap.size) (C := 5) (cap := 1) (one_progW (v := .slice o0 n0 c0) (p := l0) (by have := w0.2.1.keep hb; rw [hn0] at this; rw [hn0]; exact this) w0.2.2.1 (by omega)) ⟨by decide, by decide, by omega⟩ (by have := hb.size; simp; omega) (fun x hx => by obtain rfl := List.mem_singleton.1 hx; exact fun hne k hk => hlo k hne hk))
  simp only [List.map_cons, List.map_nil, hS0] at hp hd
  rw [hS0] at hF
  obtain ⟨Xo, hmk, hmo⟩ := Own.make_room (t := 39) und_inss info_ins n0 (n0 : Int) rfl (by omega) (by omega)
  replace hmo := W_hid hmo
  replace hF := W_hid hF
  replace hU := W_hid hU
  replace hS0 := W_hid hS0
  replace hlo := W_hid hlo
  replace hn0 := W_hid hn0
  have hone := W_hid (xcl_one l0)
  clear w0
  go_enter Try.func6, Try.ntmps6
  go_wp2_with fail
  refine (shown_any _).mono ?_
  rintro e w1 ⟨rfl, b1⟩
  have hB2 : Below w1.heap.size w1 (w1.alloc Xo) := (Below.refl _ _).alloc (Nat.le_refl _) _
  have hrow0 := W_hid (hmo.out w1 w1.heap.size (Nat.le_refl _))
  have hs1 := W_hid (hsrc.out (w1.alloc Xo) (b1.trans (hB2.mono b1.size)))
  have hv2 : w1.heap.size ≤ (w1.alloc Xo).heap.size := hB2.size
  replace b1 := W_hid b1
  replace hB2 := W_hid hB2
  replace hv2 := W_hid hv2
  go_wp2_with (at_builtin; refine Own.wpList_app rfl (.tmp 17) (.tmp 18) 39 rfl und_inss info_ins (.slice (some ⟨w1.heap.size, 0, none⟩) 0 n0) (.slice o0 n0 c0) rfl rfl hrow0.out hv2.out hs1.out hone.out (by unfold maxLen; omega) (by omega) ?_; intro x4 w4 ho4 hg4 hob4; have hB4 := W_hid (hB2.out.grown hg4 hv2.out (fun k hk => Own.ge hrow0.out k hk)); rw [Nat.zero_add, List.nil_append] at ho4; obtain ⟨a4, c4, rfl⟩ := Own.form ho4; have ho4 := W_hid ho4; clear hg4 hob4)
  have b4 : Below w.heap.size w w4 := b1.out.trans (hB4.out.mono b1.out.size)
  have hs4 : Own.Src w4 5 (.slice a4 n0 c4) l0.length (xcl l0) := by have := own_src ho4.out; rw [hn0.out] at this; rw [hn0.out]; exact this
  refine (hp.out w4 (.slice a4 n0 c4) b4.size hs4).mono ?_
  rintro e w5 ⟨ga, rfl, hP, b5⟩
  have hal4 : Below w4.heap.size w4 (w4.alloc (.cells #[.slice a4 n0 c4] 39)) := (Below.refl _ _).alloc (Nat.le_refl _) _
  have b45 : Below w4.heap.size w4 w5 := hal4.trans (b5.mono (by simp))
  have hbT : Blk w5 w4.heap.size 39 [.slice a4 n0 c4] := (Blk.new w4 39 [.slice a4 n0 c4] rfl).below b5 (by simp)
  have ho5 := Own.below ho4.out b45
  have b05 : Below w.heap.size w w5 := b4.trans (b45.mono b4.size)
  have hw1s := b1.out.size
  have hw4s := hB4.out.size
  have hw45 := b45.size
  clear hs4
  go_wp2_with fail
  refine (hd.out w5 b05).mono ?_
  rintro e w6 ⟨gd, rfl, hD, b6⟩
  have hal5 : Below w5.heap.size w5 (w5.alloc (.cells #[.slice o0 n0 c0] 39)) := (Below.refl _ _).alloc (Nat.le_refl _) _
  have b56 : Below w5.heap.size w5 w6 := hal5.trans (b6.mono (by simp))
  obtain ⟨B, hB⟩ : ∃ B, w4.heap.size + 1 = B := ⟨_, rfl⟩
  have hK : KJ B w w6 ga gd S0 := ⟨⟨_, _, _, _, by rw [← hB]; simp, by simp, hP.keep b56, hD⟩, by omega, b05.trans (b56.mono b05.size)⟩
  have hbT6 := hbT.keep b56
  have ho6 := Own.below ho5 b56
  replace hK := W_hid hK
  replace hbT6 := W_hid hbT6
  replace ho6 := W_hid ho6
  replace hB := W_hid hB
  have hgt : w.heap.size ≤ w4.heap.size ∧ w4.heap.size < B := ⟨by omega, by have := hB.out; omega⟩
  have hown4 : ∀ k, Value.ownBlock (.slice a4 n0 c4) = some k → w1.heap.size ≤ k ∧ k < w4.heap.size := fun k hk => ⟨Own.ge ho4.out k hk, own_lt ho4.out hk⟩
  replace hown4 := W_hid hown4
  obtain ⟨gt, hgtE⟩ : ∃ gt, w4.heap.size = gt := ⟨_, rfl⟩
  rw [hgtE] at hbT6 hgt hown4 ⊢
  replace hgtE := W_hid hgtE
  clear hbT ho5 hP hD b5 b6 hal4 hal5 b45 b56 hp hd hs1 hrow0 hB2 hv2 hsrc hw45 hw4s ho4 hB4 b4 b05
  go_wp2_with fail
  go_loopw [12] (fun i wr => ∃ (k : Nat) (xs : List Value), i = .int .i64 (k : Int) ∧ k ≤ n0 ∧ Hid (KJ B w wr ga gd S0) ∧ Hid (Blk wr gt 39 [.slice a4 n0 c4]) ∧ Hid (wr.ownsRow w1.heap.size TX 5 (.slice a4 n0 c4) n0 xs)) (fun i _ => n0 - (intOf i).toNat)
  case atStart => exact ⟨0, _, rfl, Nat.zero_le _, hK, hbT6, ho6⟩
  case round =>
    clear hK hbT6 ho6
    obtain ⟨k, xs, rfl, hkn, hK, hbT, hoR⟩ := hrel
    by_cases hlt : k < n0
    · obtain ⟨g, rfl⟩ : ∃ g, a4 = some ⟨g, 0, none⟩ := by
        rcases hoR.out.2 with ⟨h1, h2⟩ | ⟨gl, cap', cur, h1, -⟩
        · omega
        · simp only [Value.slice.injEq] at h1; exact ⟨gl, h1.1⟩
      have hgo := hown4.out g rfl
      have hxl := hoR.out.1
      have hc : ∀ m, m < 5 → ∃ u, wr.cell? ⟨g, k * 5 + m, none⟩ = some u := fun m hm => by
        have hj : k * 5 + m < xs.length := by rw [hxl]; omega
        refine ⟨xs[k * 5 + m], ?_⟩
        have := hoR.out.cells (g := g) rfl (k * 5 + m) _ (List.getElem?_eq_getElem hj)
        rwa [Addr.add_lit, Nat.zero_add] at this
      obtain ⟨u0, e0⟩ := hc 0 (by omega)
      obtain ⟨u1, e1⟩ := hc 1 (by omega)
      obtain ⟨u2, e2⟩ := hc 2 (by omega)
      obtain ⟨u3, e3⟩ := hc 3 (by omega)
      obtain ⟨u4, e4⟩ := hc 4 (by omega)
      rw [Nat.add_zero] at e0
      have hfz : ∀ j, wr.frozen? ⟨g, j, none⟩ = false := fun j => hoR.out.frozenAt j
      have hkp : IntKind.i64.wrap ((k : Int) + 1) = ((k + 1 : Nat) : Int) := by rw [IntWalk.i64_in _ (by omega)]; omega
      have hi1 : (k : Int) < (n0 : Int) := by omega
      replace hkp := W_hid hkp
      have hkp2 := hkp.out
      clear hc hxl
      go_wp2_with fail
      have r1 := (((((hoR.out.stored (k * 5) (.int .i64 0)).1.stored (k * 5 + 1) (.int .i64 0)).1.stored (k * 5 + 2) (.int .i64 0)).1.stored (k * 5 + 3) (.int .i64 0)).1.stored (k * 5 + 4) (.int .i64 0)).1
      have hpb : w.heap.size ≤ g ∧ g < B := ⟨by omega, by omega⟩
      have K1 := ((((hK.out.set (p := ⟨g, k * 5, none⟩) hpb (.int .i64 0)).set (p := ⟨g, k * 5 + 1, none⟩) hpb (.int .i64 0)).set (p := ⟨g, k * 5 + 2, none⟩) hpb (.int .i64 0)).set (p := ⟨g, k * 5 + 3, none⟩) hpb (.int .i64 0)).set (p := ⟨g, k * 5 + 4, none⟩) hpb (.int .i64 0)
      have hgne : gt ≠ g := by omega
      have T1 := ((((hbT.out.far (p := ⟨g, k * 5, none⟩) hgne (.int .i64 0)).far (p := ⟨g, k * 5 + 1, none⟩) hgne (.int .i64 0)).far (p := ⟨g, k * 5 + 2, none⟩) hgne (.int .i64 0)).far (p := ⟨g, k * 5 + 3, none⟩) hgne (.int .i64 0)).far (p := ⟨g, k * 5 + 4, none⟩) hgne (.int .i64 0)
      exact ⟨⟨k + 1, _, by simp [hkp2], by omega, W_hid K1, W_hid T1, W_hid r1⟩, by simp [intOf]; omega⟩
    · have hk0 := hbT.out.cell (j := 0) rfl
      have hkf := hbT.out.fz
      have K2 := hK.out.set (p := ⟨gt, 0, none⟩) hgt (.slice none 0 0)
      have hJ0 := W_hid (K2.j hF.out)
      clear K2
      go_wp2_with fail
      obtain ⟨W, hW⟩ : ∃ W, wr.setCell ⟨gt, 0, none⟩ (.slice none 0 0) = W := ⟨_, rfl⟩
      rw [hW] at hJ0 ⊢
      clear hW hk0 hkf hbT hoR hK
      go_loopw [13] (fun i wr => ∃ (k : Nat) (S : Ma), i = .int .i64 (k : Int) ∧ k ≤ len1 ∧ k ≤ 100 ∧ Hid (J w wr ga gd 5 S S)) (fun i _ => 100 - (intOf i).toNat)
      case atStart => exact ⟨0, S0, rfl, Nat.zero_le _, Nat.zero_le _, hJ0⟩
      case round =>
        clear hJ0
        obtain ⟨k2, S, rfl, hk1, hk2, hJ⟩ := hrel
        by_cases hlt2 : k2 < len1 ∧ k2 < 100
        · obtain ⟨hlt3, hlt4⟩ := hlt2
          have hkl : k2 < (z1.take len1).length := by have := hU.out.1; omega
          obtain ⟨hi64, g, o, rfl, hgl, hc⟩ := hU.out.2.2 k2 _ (List.getElem?_eq_getElem hkl)
          obtain ⟨q, hq⟩ : ∃ q, (z1.take len1)[k2] = q := ⟨_, rfl⟩
          rw [hq] at hc hi64
          have hcw := W_hid (fun W (h : Below w.heap.size w W) => (by rw [World.cell?_of_block (w := w) (h.block g hgl)]; exact hc : W.cell? ⟨g, o + k2, none⟩ = some (.int .i64 q)))
          have hkp : IntKind.i64.wrap ((k2 : Int) + 1) = ((k2 + 1 : Nat) : Int) := by rw [IntWalk.i64_in _ (by omega)]; omega
          have hi1 : (k2 : Int) < (len1 : Int) := by omega
          have hi2 : (k2 : Int) < 100 := by omega
          obtain ⟨T, A, hTA⟩ : ∃ T A, one S q = (T, A) := ⟨_, _, rfl⟩
          have hst := W_hid (fun W (h : J w W ga gd 5 S S) => h.pStep hi64)
          have hst2 := W_hid (fun W (h : J w W ga gd 5 (one S q).1 S) => h.dStep hi64)
          rw [hTA] at hst hst2
          have hA := W_hid (fun W (h : J w W ga gd 5 T T) => h.pAt 0)
          have hA2 := W_hid (fun W (h : J w W ga gd 5 T T) => h.dAt 0)
          obtain ⟨X, hX⟩ : ∃ X, atM T 0 = X := ⟨_, rfl⟩
          rw [hX] at hA hA2
          replace hX := W_hid hX
          replace hTA := W_hid hTA
          replace hq := W_hid hq
          replace hc := W_hid hc
          replace hkp := W_hid hkp
          have hkp2 := hkp.out
          have q0 : wr.drew.cell? ⟨g, o + k2, none⟩ = some (.int .i64 q) := hcw.out wr hJ.out.bel
          have J0 := W_hid (hJ.out.keep (Below.refl _ _).drew)
          clear hi64
          go_wp2_with fail
          refine wp_region_held_drew (S := (fun W => W.cell? ⟨g, o + k2, none⟩ = some (.int .i64 q))) (by kernel_rfl) q0 (fun hHeld => ?_)
          refine wpAnyH_take (i := 0) (v := ptr ga) rfl (by kernel_rfl) (by kernel_rfl) (by kernel_rfl) (fun _ _ _ h => h) (Or.inl ⟨by rfl, fun w0 hs => ?_⟩) hHeld ?_
          · go_simp
          try simp only [Act.put, List.setIfInBounds_toArray, List.set_cons_zero, List.set_cons_succ, List.getElem_toArray, List.getElem_cons_zero, List.getElem_cons_succ]
          refine wpAnyH_take (i := 1) (v := .slice (some ⟨g, o, none⟩) len1 cap1) rfl (by kernel_rfl) (by kernel_rfl) (by kernel_rfl) (fun _ _ _ h => h) (Or.inl ⟨by rfl, fun w0 hs => ?_⟩) hHeld ?_
          · go_simp
          try simp only [Act.put, List.setIfInBounds_toArray, List.set_cons_zero, List.set_cons_succ, List.getElem_toArray, List.getElem_cons_zero, List.getElem_cons_succ]
          refine wpAnyH_take (i := 2) (v := .int .i64 (k2 : Int)) rfl (by kernel_rfl) (by kernel_rfl) (by kernel_rfl) (fun _ _ _ h => h) (Or.inl ⟨by rfl, fun w0 hs => ?_⟩) hHeld ?_
          · go_simp
          try simp only [Act.put, List.setIfInBounds_toArray, List.set_cons_zero, List.set_cons_succ, List.getElem_toArray, List.getElem_cons_zero, List.getElem_cons_succ]
          refine wpAnyH_take (i := 3) (v := .pointer (some ⟨g, o + k2, none⟩)) rfl (by kernel_rfl) (by kernel_rfl) (by kernel_rfl) (fun _ _ _ h => h) (Or.inl ⟨by rfl, fun w0 hs => ?_⟩) hHeld ?_
          · go_simp
          try simp only [Act.put, List.setIfInBounds_toArray, List.set_cons_zero, List.set_cons_succ, List.getElem_toArray, List.getElem_cons_zero, List.getElem_cons_succ]
          refine wpAnyH_take (i := 4) (v := .int .i64 q) rfl (by kernel_rfl) (by kernel_rfl) (by kernel_rfl) (fun _ _ _ h => h) (Or.inl ⟨by rfl, fun w0 hs => ?_⟩) hHeld ?_
          · go_simp
          try simp only [Act.put, List.setIfInBounds_toArray, List.set_cons_zero, List.set_cons_succ, List.getElem_toArray, List.getElem_cons_zero, List.getElem_cons_succ]
          refine wpAnyH_take (i := 6) (v := ptr gd) rfl (by kernel_rfl) (by kernel_rfl) (by kernel_rfl) (fun _ _ _ h => h) (Or.inl ⟨by rfl, fun w0 hs => ?_⟩) hHeld ?_
          · go_simp
          try simp only [Act.put, List.setIfInBounds_toArray, List.set_cons_zero, List.set_cons_succ, List.getElem_toArray, List.getElem_cons_zero, List.getElem_cons_succ]
          refine wpAnyH_take (i := 7) (v := .slice (some ⟨g, o, none⟩) len1 cap1) rfl (by kernel_rfl) (by kernel_rfl) (by kernel_rfl) (fun _ _ _ h => h) (Or.inl ⟨by rfl, fun w0 hs => ?_⟩) hHeld ?_
          · go_simp
          try simp only [Act.put, List.setIfInBounds_toArray, List.set_cons_zero, List.set_cons_succ, List.getElem_toArray, List.getElem_cons_zero, List.getElem_cons_succ]
          refine wpAnyH_take (i := 8) (v := .int .i64 (k2 : Int)) rfl (by kernel_rfl) (by kernel_rfl) (by kernel_rfl) (fun _ _ _ h => h) (Or.inl ⟨by rfl, fun w0 hs => ?_⟩) hHeld ?_
          · go_simp
          try simp only [Act.put, List.setIfInBounds_toArray, List.set_cons_zero, List.set_cons_succ, List.getElem_toArray, List.getElem_cons_zero, List.getElem_cons_succ]
          refine wpAnyH_take (i := 9) (v := .pointer (some ⟨g, o + k2, none⟩)) rfl (by kernel_rfl) (by kernel_rfl) (by kernel_rfl) (fun _ _ _ h => h) (Or.inl ⟨by rfl, fun w0 hs => ?_⟩) hHeld ?_
          · go_simp
          try simp only [Act.put, List.setIfInBounds_toArray, List.set_cons_zero, List.set_cons_succ, List.getElem_toArray, List.getElem_cons_zero, List.getElem_cons_succ]
          refine wpAnyH_take (i := 10) (v := .int .i64 q) rfl (by kernel_rfl) (by kernel_rfl) (by kernel_rfl) (fun _ _ _ h => h) (Or.inl ⟨by rfl, fun w0 hs => ?_⟩) hHeld ?_
          · go_simp
          try simp only [Act.put, List.setIfInBounds_toArray, List.set_cons_zero, List.set_cons_succ, List.getElem_toArray, List.getElem_cons_zero, List.getElem_cons_succ]
          refine wpAnyH_ready (rs := [5]) (by kernel_rfl) (by simp) ?_
          refine AllReadyH.cons rfl (fun K hK => ?_) AllReadyH.nil
          go_simp
          refine (hst.out _ J0.out).mono ?_
          rintro e v1 ⟨rfl, j1⟩
          have q1 := hcw.out _ j1.bel
          replace j1 := W_hid j1
          refine hK.out _ _ q1 (fun hHeld1 => ?_)
          clear hK K
          try simp only [Act.put, List.setIfInBounds_toArray, List.set_cons_zero, List.set_cons_succ, List.getElem_toArray, List.getElem_cons_zero, List.getElem_cons_succ]
          refine wpAnyH_ready (rs := [11]) (by kernel_rfl) (by simp) ?_
          refine AllReadyH.cons rfl (fun K hK => ?_) AllReadyH.nil
          go_simp
          refine (hst2.out _ j1.out).mono ?_
          rintro e v2 ⟨rfl, j2⟩
          have q2 := hcw.out _ j2.bel
          replace j2 := W_hid j2
          refine hK.out _ _ q2 (fun hHeld2 => ?_)
          clear hK K
          try simp only [Act.put, List.setIfInBounds_toArray, List.set_cons_zero, List.set_cons_succ, List.getElem_toArray, List.getElem_cons_zero, List.getElem_cons_succ]
          refine wpAnyH_take (i := 12) (v := .bool false) rfl (by kernel_rfl) (by kernel_rfl) (by kernel_rfl) (fun _ _ _ h => h) (Or.inl ⟨by rfl, fun w0 hs => ?_⟩) hHeld2 ?_
          · go_simp
          try simp only [Act.put, List.setIfInBounds_toArray, List.set_cons_zero, List.set_cons_succ, List.getElem_toArray, List.getElem_cons_zero, List.getElem_cons_succ]
          refine wpAnyH_take (i := 13) (v := .bool false) rfl (by kernel_rfl) (by kernel_rfl) (by kernel_rfl) (fun _ _ _ h => h) (Or.inl ⟨by rfl, fun w0 hs => ?_⟩) hHeld2 ?_
          · go_simp
          try simp only [Act.put, List.setIfInBounds_toArray, List.set_cons_zero, List.set_cons_succ, List.getElem_toArray, List.getElem_cons_zero, List.getElem_cons_succ]
          refine wpAnyH_take (i := 14) (v := ptr ga) rfl (by kernel_rfl) (by kernel_rfl) (by kernel_rfl) (fun _ _ _ h => h) (Or.inl ⟨by rfl, fun w0 hs => ?_⟩) hHeld2 ?_
          · go_simp
          try simp only [Act.put, List.setIfInBounds_toArray, List.set_cons_zero, List.set_cons_succ, List.getElem_toArray, List.getElem_cons_zero, List.getElem_cons_succ]
          refine wpAnyH_take (i := 16) (v := ptr gd) rfl (by kernel_rfl) (by kernel_rfl) (by kernel_rfl) (fun _ _ _ h => h) (Or.inl ⟨by rfl, fun w0 hs => ?_⟩) hHeld2 ?_
          · go_simp
          try simp only [Act.put, List.setIfInBounds_toArray, List.set_cons_zero, List.set_cons_succ, List.getElem_toArray, List.getElem_cons_zero, List.getElem_cons_succ]
          refine wpAnyH_ready (rs := [15]) (by kernel_rfl) (by simp) ?_
          refine AllReadyH.cons rfl (fun K hK => ?_) AllReadyH.nil
          go_simp
          refine (hA.out _ j2.out).mono ?_
          rintro e v3 ⟨rfl, j3⟩
          have q3 := hcw.out _ j3.bel
          replace j3 := W_hid j3
          refine hK.out _ _ q3 (fun hHeld3 => ?_)
          clear hK K
          try simp only [Act.put, List.setIfInBounds_toArray, List.set_cons_zero, List.set_cons_succ, List.getElem_toArray, List.getElem_cons_zero, List.getElem_cons_succ]
          refine wpAnyH_ready (rs := [17]) (by kernel_rfl) (by simp) ?_
          refine AllReadyH.cons rfl (fun K hK => ?_) AllReadyH.nil
          go_simp
          refine (hA2.out _ j3.out).mono ?_
          rintro e v4 ⟨rfl, rfl⟩
          have j4 := j3
          refine hK.out _ _ q3 (fun hHeld4 => ?_)
          clear hK K
          try simp only [Act.put, List.setIfInBounds_toArray, List.set_cons_zero, List.set_cons_succ, List.getElem_toArray, List.getElem_cons_zero, List.getElem_cons_succ]
          refine wpAnyH_take (i := 18) (v := .bool false) rfl (by kernel_rfl) (by kernel_rfl) (by kernel_rfl) (fun _ _ _ h => h) (Or.inl ⟨by rfl, fun w0 hs => ?_⟩) hHeld4 ?_
          · go_simp
          try simp only [Act.put, List.setIfInBounds_toArray, List.set_cons_zero, List.set_cons_succ, List.getElem_toArray, List.getElem_cons_zero, List.getElem_cons_succ]
          refine wpAnyH_take (i := 19) (v := .bool false) rfl (by kernel_rfl) (by kernel_rfl) (by kernel_rfl) (fun _ _ _ h => h) (Or.inl ⟨by rfl, fun w0 hs => ?_⟩) hHeld4 ?_
          · go_simp
          try simp only [Act.put, List.setIfInBounds_toArray, List.set_cons_zero, List.set_cons_succ, List.getElem_toArray, List.getElem_cons_zero, List.getElem_cons_succ]
          refine wpAnyH_done (by kernel_rfl) ?_ _
          go_wp2_with fail
          exact ⟨⟨k2 + 1, T, by simp [hkp2], by omega, by omega, j4⟩, by simp [intOf]; omega⟩
        · have hex : (len1 : Int) ≤ (k2 : Int) ∨ ((k2 : Int) < (len1 : Int) ∧ (100 : Int) ≤ (k2 : Int)) := by omega
          rcases hex with hex | ⟨hex1, hex2⟩ <;> (
            go_wp2_with fail
            go_ret
            exact ⟨rfl, hJ.out.bel⟩)
set_option maxRecDepth 100000 in
theorem MemKeeps_lifted (os : Os) (started : os.Started) (H : Type) (enc : TypeId × Value → H) :
    ReturnsInHanded {} Try.checked os 6 .any (Rows.memKeepsSpec.pre6 enc Try.prog Try.f6 Rows.memKeepsRow.domain false) (Rows.memKeepsSpec.post enc Try.prog Try.f6 false true false false) := by
  refine returnsInHanded_of_change_sized (C := Try.checked) (by kernel_rfl) started (by kernel_rfl) Try.func6
    (ChangeSpec.witness6 (enc := enc) (C := Try.checked) false ⟨#[], #[.slice none 0 0, .slice none 0 0], []⟩ 8 (by kernel_rfl) (by kernel_rfl) (by kernel_rfl) (by kernel_rfl)) ?_
  intro W base args ds gs before hval0 hW hcnd hsz0 _
  have hsz : (DataW.weightsEach Try.prog (Try.f6.params.toList ++ Rows.memKeepsSpec.plain.varTypes Try.prog) (ds ++ gs)).all (· ≤ reachBytes) = true := hsz0
  clear hsz0
  have hval : ∀ (j : Nat) t v, Try.f6.params[j]? = some t → args[j]? = some v → Value.okWide Try.prog W .any base t v := hval0
  have hW' := hW
  obtain ⟨p, q, hA0, hV, rfl, hfz, hnd⟩ := hW
  have hA : DataW.TrodAll enc Try.prog W 0 (fun _ => true) true Try.f6.params.toList args.toList ds p := hA0
  rw [Try.params6] at hA hval hsz
  obtain ⟨v0, vs0, d0, ds0, p0, q0, hargs, rfl, rfl, h0, r0⟩ := trodAll_cons hA
  obtain ⟨v1, vs1, d1, ds1, p1, q1, rfl, rfl, rfl, h1, r1⟩ := trodAll_cons r0
  obtain ⟨rfl, rfl, rfl⟩ := trodAll_nil r1
  obtain rfl : args = #[v0, v1] := by cases args; simp_all
  obtain ⟨rfl, rfl⟩ := trodVars_none hV
  have k0 := h0
  have lt0 : ∀ x ∈ p0, x.block < W.heap.size := by obtain ⟨m, hm⟩ := k0; exact DataW.trod_lt m _ _ _ hm
  obtain ⟨o0, n0, c0, l0, rfl, w0⟩ := open_ins (hval 0 39 v0 rfl rfl) h0 fun q hq => of_decide_eq_true (List.all_eq_true.1 hsz _ (DataW.weights_mem_each (j := 0) (t := 39) rfl rfl q hq))
  obtain ⟨a1, len1, cap1, rfl⟩ := okWide_slice Try.underlying23 (hval 1 23 v1 rfl rfl)
  have k1 := h1
  have lt1 : ∀ x ∈ p1, x.block < W.heap.size := by obtain ⟨m, hm⟩ := k1; exact DataW.trod_lt m _ _ _ hm
  obtain ⟨z1, w1, s1⟩ : ∃ zs, IsRow .i64 W a1 len1 cap1 zs ∧ cap1 * 8 ≤ 140737488351232 := by
    obtain ⟨fuel, hf⟩ := h1
    rcases open_ints Try.underlying23 Try.underlying3 (by kernel_rfl) hf with ⟨hcs, _⟩ | ⟨x, l, c, zs, hcs, _, hl, hm, hz, hx, hcell, hwz⟩
    · simp [Value.cells] at hcs
      obtain ⟨rfl, rfl, rfl⟩ := hcs
      exact ⟨[], .inl ⟨rfl, rfl, rfl, rfl⟩, by simp⟩
    · simp [Value.cells] at hcs
      obtain ⟨rfl, rfl, rfl⟩ := hcs
      have hs := sized_slice hsz (j := 1) (t := 23) (e := 3) rfl (congrArg some (Prod.mk.inj hx).1) Try.underlying23
      rw [show Try.prog.bytesOf 3 = 8 from by kernel_rfl] at hs
      have hz2 : zs.length = cap1 := by simpa using hz
      simp only [lits, List.length_map, List.length_take, List.length_drop, reachBytes] at hs
      exact ⟨zs, .inr ⟨_, rfl, hl, hm, hz2, hcell, hwz⟩, by omega⟩
  clear hA0 hval0
  refine (MemKeeps_walk o0 n0 c0 l0 a1 len1 cap1 z1 W w0 w1 s1).mono fun e W' ⟨he, bel⟩ => ?_
  subst he
  exact ⟨_, rfl, _, _, _, [], _, [], hW', trodAll_mk1 (shut_bool Try.underlying4 _), (trodAll_cons_mk (Below.trod laidOut (by kernel_rfl) (of_decide_eq_true (by kernel_rfl)) k0 bel lt0) (trodAll_cons_mk (Below.trod laidOut (by kernel_rfl) (of_decide_eq_true (by kernel_rfl)) k1 bel lt1) trodAll_mk0)), rfl, bel.frame _, fun h => by cases h⟩

/-- The given statement of MemKeeps. -/
theorem MemKeeps_holds : Rows.MemKeepsSaid :=
  OpenClaim.holds_of_wide 6 Try.f6 rfl rfl rfl rfl rfl rfl rfl ⟨rfl, rfl, rfl, rfl, rfl⟩ rfl rfl rfl rfl rfl (by kernel_rfl) Try.func6 (by kernel_rfl)
    (of_decide_eq_true (by kernel_rfl)) (by unfold Func.isWrapper; first | (rw [if_pos (by decide +kernel)]; kernel_rfl) | (rw [if_neg (by decide +kernel)]; exact ⟨rfl, rfl⟩))
    (fun os started H enc _ => MemKeeps_lifted os started H enc)

end Go.Proofs.Ytjafjjfcmcpaoaa

/- The law MemSums of layer 18 (package haywardlaw18): for every input it returns true, and its arguments read as before. No further condition. -/
import Derived.Test.YtjafjjfcmcpaoaaMmSum
import Derived.Test.YtjafjjfcmcpaoaaMmTwo
namespace Go.Proofs.Ytjafjjfcmcpaoaa
open Go.ChangeShapes Go.WideShapes Go.ChangeAt Go.RowKit
set_option linter.unusedVariables false
set_option linter.unusedSimpArgs false
set_option maxRecDepth 100000
open MC
open IN (lt_of_some)

theorem info_sl : Own.Info Try.prog 39 (.slice none 0 0) 1 24 := Own.info_of (by kernel_rfl) rfl (by decide)
theorem und_sls : Try.prog.underlying 22 = some (.slice 39) := by kernel_rfl
/-- One machine, and what was there before. -/
structure JS (w0 w : World) (g N : Nat) (S : Ma) : Prop where
  ex : ∃ a b, w0.heap.size ≤ a ∧ PW w0.heap.size a b w g S
  bel : Below w0.heap.size w0 w
  ft : Fit N S
section
variable {w0 w w' : World} {g N : Nat} {S : Ma}
theorem JS.keep (h : JS w0 w g N S) (hb : Below w.heap.size w w') : JS w0 w' g N S := by
  obtain ⟨a, b, h1, h2⟩ := h.ex
  exact ⟨⟨a, b, h1, h2.keep hb⟩, h.bel.trans (hb.mono h.bel.size), h.ft⟩
theorem JS.step (h : JS w0 w g N S) {q : Int} (hq : I64 q) : Calls Try.prog 12 #[ptr g, .int .i64 q] w fun e w' => e = .returned (.int .i64 (one S q).2) ∧ JS w0 w' g N (one S q).1 := by
  obtain ⟨a, b, h1, h2⟩ := h.ex
  refine (Step_any h2 h.ft hq).mono ?_
  rintro e w' ⟨rfl, h5, hw⟩
  exact ⟨rfl, ⟨a, b, h1, h5⟩, h.bel.trans (hw.below h.bel.size h1), one_fit h.ft q⟩
theorem JS.cell (h : JS w0 w g N S) (i : Int) : Calls Try.prog 19 #[ptr g, .int .i64 i] w fun e w' => e = .returned (.int .i64 (cellM S i)) ∧ w = w' := by
  obtain ⟨a, b, h1, h2⟩ := h.ex
  exact Cell_any h2 i
theorem JS.live (h : JS w0 w g N S) : Calls Try.prog 17 #[ptr g] w fun e w' => ∃ ao cap, e = .returned (.slice ao (live S.t).length cap) ∧ JS w0 w' g N S := by
  obtain ⟨a, b, h1, h2⟩ := h.ex
  refine (Live_any h2 h.ft.n).mono ?_
  rintro e w' ⟨v, rfl, ho, hb⟩
  obtain ⟨ao, cap, rfl⟩ := Own.form ho
  exact ⟨ao, cap, rfl, h.keep hb⟩
end
theorem add_law2 (w : World) (n : Int) : Calls Try.prog 23 #[.int .i64 n] w fun e w' => e = .returned (.slice (some ⟨w.heap.size, 0, none⟩) 2 2) ∧ w' = w.alloc (.cells (xcl (addP n)).toArray TX) := by
  go_enter Try.func23, Try.ntmps23
  go_wp2_with fail
  go_ret
  exact ⟨rfl, rfl⟩
/-- Programs in memory that the law made. -/
def TL (w0 w : World) (L : List (Value × List In)) : Prop := ∀ x ∈ L, ∃ (g : Nat) (n : Int), x = (.slice (some ⟨g, 0, none⟩) 2 2, addP n) ∧ I64 n ∧ w0.heap.size ≤ g ∧ Blk w g TX (xcl (addP n))
theorem TL.keep {w0 w w' : World} {L : List (Value × List In)} (h : TL w0 w L) (hb : Below w.heap.size w w') : TL w0 w' L := fun x hx => by
  obtain ⟨g, n, h1, h2, h3, h4⟩ := h x hx
  exact ⟨g, n, h1, h2, h3, h4.keep hb⟩
theorem TL.grown {w0 w w' : World} {L : List (Value × List In)} {row : Option Nat} (h : TL w0 w L) (hg : w.grownBy w' row) (hr : ∀ k, row = some k → ∃ arr e, e ≠ TX ∧ w.heap[k]? = some (.cells arr e (0, 0))) : TL w0 w' L := fun x hx => by
  obtain ⟨g, n, h1, h2, h3, h4⟩ := h x hx
  refine ⟨g, n, h1, h2, h3, h4.grown hg fun e => ?_⟩
  obtain ⟨arr, e', he, hc⟩ := hr g e.symm
  exact obj_ne h4 hc he.symm rfl
theorem TL.src {w0 w : World} {L : List (Value × List In)} (h : TL w0 w L) {x : Value × List In} (hx : x ∈ L) : Own.Src w 5 x.1 x.2.length (xcl x.2) ∧ (∀ y ∈ x.2, InFit y) ∧ x.2.length ≤ 3518437208880 := by
  obtain ⟨g, n, rfl, h2, h3, h4⟩ := h x hx
  refine ⟨.inr ⟨_, _, rfl, rfl, fun j u hu => ?_⟩, addP_fit h2, by simp [addP]⟩
  rw [Addr.add_lit, Nat.zero_add]
  exact h4.cell hu
theorem tl_pin {w0 w : World} {base n cap : Nat} {ao : Option Addr} {L : List (Value × List In)} (h : w.ownsRow base 39 1 (.slice ao n cap) n (L.map Prod.fst)) (hL : TL w0 w L) (hn : n ≤ 60) : PIn w ao n L := by
  have hlen : L.length = n := by have := h.1; simpa using this
  refine ⟨hlen.symm, by omega, fun j x hj => ?_⟩
  obtain ⟨h1, h2, h3⟩ := hL.src (List.mem_of_getElem? hj)
  rcases h.2 with ⟨h5, h6⟩ | ⟨g, c2, cur, h5, hb, hg, -⟩
  · have := (List.getElem?_eq_some_iff.1 hj).1
    omega
  · simp only [Value.slice.injEq, true_and] at h5
    obtain ⟨rfl, rfl⟩ := h5
    refine ⟨g, 0, rfl, lt_of_some hg, ?_, h1, h2, h3⟩
    have := h.cells (g := g) rfl j x.1 (by rw [List.getElem?_map, hj]; rfl)
    rwa [Addr.add_lit] at this
set_option maxRecDepth 100000 in
set_option maxHeartbeats 8000000 in
theorem MemSums_walk (a0 : Option Addr) (len0 cap0 : Nat) (z0 : List Int) (a1 : Option Addr) (len1 cap1 : Nat) (z1 : List Int) (w : World) (w0 : IsRow .i64 w a0 len0 cap0 z0) (w1 : IsRow .i64 w a1 len1 cap1 z1) (s0 : cap0 * 8 ≤ 140737488351232) (s1 : cap1 * 8 ≤ 140737488351232) :
    Calls Try.prog 4 #[.slice a0 len0 cap0, .slice a1 len1 cap1] w fun e w' => e = .returned (.bool true) ∧ Below w.heap.size w w' := by
  obtain ⟨hU, hU2, hU3⟩ := nu_row w0
  obtain ⟨hV, hV2, hV3⟩ := nu_row w1
  clear w0 w1
  obtain ⟨Z, hZ⟩ : ∃ Z, z0.take len0 = Z := ⟨_, rfl⟩
  rw [hZ] at hU
  have hzl := hU.1
  have hadd := W_hid (fun W n => add_law2 W n)
  replace hU := W_hid hU
  replace hV := W_hid hV
  replace hZ := W_hid hZ
  replace hzl := W_hid hzl
  go_enter Try.func4, Try.ntmps4
  go_wp2_with fail
  refine (shown_any _).mono ?_
  rintro e w1 ⟨rfl, b1⟩
  replace b1 := W_hid b1
  go_wp2_with fail
  go_loopw [6, 7, 8] (fun v s i wr => ∃ (k : Nat) (L : List (Value × List In)), i = .int .i64 (k : Int) ∧ s = .int .i64 (ws (Z.take k)) ∧ k ≤ len0 ∧ k ≤ 60 ∧ Hid (wr.ownsRow w1.heap.size 39 1 v k (L.map Prod.fst)) ∧ Hid (TL w wr L) ∧ Hid (L.map Prod.snd = (Z.take k).map addP) ∧ Hid (Below w.heap.size w wr) ∧ w1.heap.size ≤ wr.heap.size) (fun _ _ i _ => 60 - (intOf i).toNat)
  case atStart => exact ⟨0, [], rfl, rfl, Nat.zero_le _, Nat.zero_le _, W_hid (World.ownsRow_nil _ _ _ _), W_hid (fun x hx => by simp at hx), W_hid rfl, b1, Nat.le_refl _⟩
  case round =>
    obtain ⟨k, L, rfl, rfl, hk1, hk2, hor, hTL, hLe, hB, hsz⟩ := hrel
    obtain ⟨va, vc, rfl⟩ := Own.form hor.out
    by_cases hlt : k < len0 ∧ k < 60
    · obtain ⟨hlt1, hlt2⟩ := hlt
      have hkl : k < Z.length := by have := hzl.out; omega
      obtain ⟨hi64, g, o, rfl, hgl, hc⟩ := hU.out.2.2 k _ (List.getElem?_eq_getElem hkl)
      obtain ⟨q, hq⟩ : ∃ q, Z[k] = q := ⟨_, rfl⟩
      rw [hq] at hc hi64
      have hcw := W_hid (fun W (h : Below w.heap.size w W) => (by rw [World.cell?_of_block (w := w) (h.block g hgl)]; exact hc : W.cell? ⟨g, o + k, none⟩ = some (.int .i64 q)))
      have hkp : IntKind.i64.wrap ((k : Int) + 1) = ((k + 1 : Nat) : Int) := by rw [IntWalk.i64_in _ (by omega)]; omega
      have hi1 : (k : Int) < (len0 : Int) := by omega
      have hi2 : (k : Int) < 60 := by omega
      obtain ⟨s, hs⟩ : ∃ s, ws (Z.take k) = s := ⟨_, rfl⟩
      obtain ⟨s', hs'⟩ : ∃ s', IntKind.i64.wrap (s + q) = s' := ⟨_, rfl⟩
      have hws : ws (Z.take (k + 1)) = s' := by
        rw [List.take_succ_eq_append_getElem hkl, ws_snoc, hs, hq]; exact hs'
      have c1 := hcw.out wr hB.out
      rw [hs]
      replace hs := W_hid hs
      replace hws := W_hid hws
      replace hkp := W_hid hkp
      replace hc := W_hid hc
      have hkp2 := hkp.out
      have hBs := hB.out.size
      go_wp2_with fail
      refine (hadd.out _ q).mono ?_
      rintro e v1 ⟨rfl, hv1⟩
      have hb1 : Below wr.heap.size wr v1 := by rw [hv1]; exact (Below.refl _ _).alloc (Nat.le_refl _) _
      have hbk : Blk v1 wr.heap.size TX (xcl (addP q)) := by rw [hv1]; exact Blk.new wr TX _ rfl
      have hB1 := hB.out.trans (hb1.mono hB.out.size)
      have hor1 := Own.below hor.out hb1
      have hTL1 : TL w v1 (L ++ [(.slice (some ⟨wr.heap.size, 0, none⟩) 2 2, addP q)]) := fun x hx => by
        rcases List.mem_append.1 hx with hx | hx
        · exact hTL.out.keep hb1 x hx
        · obtain rfl := List.mem_singleton.1 hx
          exact ⟨_, q, rfl, hi64, hBs, hbk⟩
      have hv1s := hb1.size
      have hal : Below v1.heap.size v1 (v1.alloc (.cells #[.slice (some ⟨wr.heap.size, 0, none⟩) 2 2] 39)) := (Below.refl _ _).alloc (Nat.le_refl _) _
      have hoA := W_hid (Own.below hor1 hal)
      have hTA := hTL1.keep hal
      have hsA : Hid (Own.Src (v1.alloc (.cells #[.slice (some ⟨wr.heap.size, 0, none⟩) 2 2] 39)) 1 (.slice (some ⟨v1.heap.size, 0, none⟩) 1 1) 1 [.slice (some ⟨wr.heap.size, 0, none⟩) 2 2]) := W_hid (.inr ⟨_, _, rfl, rfl, fun j u hu => by
        have hb := Blk.new v1 39 [.slice (some ⟨wr.heap.size, 0, none⟩) 2 2] (x := v1.heap.size) rfl
        have := hb.cell hu
        rw [Addr.add_lit, Nat.zero_add]
        exact this⟩)
      have hone1 : Hid (∀ u ∈ ([.slice (some ⟨wr.heap.size, 0, none⟩) 2 2] : List Value), u.oneCell' = true) := W_hid (by intro u hu; simp only [List.mem_singleton] at hu; subst hu; rfl)
      have hBA := W_hid (hB1.trans (hal.mono hB1.size))
      have hcell2 := W_hid (fun W (h : Below w.heap.size w W) => hcw.out W h)
      have hsz1 : w1.heap.size ≤ (v1.alloc (.cells #[.slice (some ⟨wr.heap.size, 0, none⟩) 2 2] 39)).heap.size := by have := hal.size; omega
      have hb1s := b1.out.size
      have hsz1 := W_hid hsz1
      replace hTA := W_hid hTA
      replace hTL1 := W_hid hTL1
      replace hbk := W_hid hbk
      replace hv1 := W_hid hv1
      obtain ⟨gq, hgq⟩ : ∃ gq, wr.heap.size = gq := ⟨_, rfl⟩
      rw [hgq] at hTA hsA hone1 hBA hoA hsz1 ⊢
      replace hgq := W_hid hgq
      clear hb1 hB1 hor1 hal hTL1 c1
      go_wp2_with (at_builtin; refine Own.wpList_app rfl (.tmp 24) (.tmp 30) 22 rfl und_sls info_sl (.slice va k vc) (.slice (some ⟨v1.heap.size, 0, none⟩) 1 1) rfl rfl hoA.out hsz1.out hsA.out hone1.out (by unfold maxLen; omega) (by omega) ?_; intro x4 w4 ho4 hg4 hob4; have hT4 := W_hid (hTA.out.grown hg4 (fun k2 hk2 => by
          obtain ⟨cur, hc4⟩ := own_obj hoA.out hk2
          exact ⟨cur, _, by decide, hc4⟩)); have hB4 := W_hid (hBA.out.grown hg4 hBA.out.size (fun k2 hk2 => by have := Own.ge hoA.out k2 hk2; omega)); have c2 := hcell2.out w4 hB4.out; have hs4 := hg4.size; have ho4 := W_hid ho4; clear hob4)
      have hsz4 : w1.heap.size ≤ w4.heap.size := Nat.le_trans hsz1.out hs4
      refine ⟨⟨k + 1, L ++ [(.slice (some ⟨gq, 0, none⟩) 2 2, addP q)], by simp [hkp2], by rw [hws.out], by omega, by omega, W_hid ?_, hT4, W_hid ?_, hB4, hsz4⟩, by simp [intOf]; omega⟩
      · have := ho4.out
        rw [List.map_append]
        exact this
      · rw [List.map_append, hLe.out, List.take_succ_eq_append_getElem hkl, List.map_append, hq]; rfl
    · have hex : (len0 : Int) ≤ (k : Int) ∨ ((k : Int) < (len0 : Int) ∧ (60 : Int) ≤ (k : Int)) := by omega
      have hPin := W_hid (tl_pin hor.out hTL.out hk2)
      obtain ⟨l, hl⟩ : ∃ l, Z.take k = l := ⟨_, rfl⟩
      have hlk : l.length = k := by rw [← hl, List.length_take]; have := hzl.out; omega
      have hI : ∀ n ∈ l, I64 n := fun n hn => by
        rw [← hl] at hn
        obtain ⟨j, hj, rfl⟩ := List.getElem_of_mem (List.mem_of_mem_take hn)
        exact (hU.out.2.2 j _ (List.getElem?_eq_getElem hj)).1
      have hSum := sums_new l
      have hF : Fit 3 (new 3 (l.map addP)) := new_fit (fun p hp => by
        obtain ⟨n, hn, rfl⟩ := List.mem_map.1 hp
        exact ⟨addP_fit (hI n hn), by simp [addP]⟩) (by simp; omega)
      have hNew := W_hid (New_yes (lo := w.heap.size) (C := 3) (cap := vc) hPin.out ⟨by decide, by decide, by omega⟩ hB.out.size)
      rw [hLe.out, hl] at hNew
      have hlf : lf (new 3 (l.map addP)).t ≤ 120 := by
        have := lf_le (new 3 (l.map addP)).t
        have h2 : (new 3 (l.map addP)).t.length = k := by simp [new, hlk]
        omega
      have hSum : Sums l (new 3 (l.map addP)) := hSum
      obtain ⟨S0, hS0⟩ : ∃ S, new 3 (l.map addP) = S := ⟨_, rfl⟩
      rw [hS0] at hNew hF hSum hlf
      rw [hl]
      obtain ⟨s, hs⟩ : ∃ s, ws l = s := ⟨_, rfl⟩
      rw [hs]
      replace hs := W_hid hs
      replace hl := W_hid hl
      replace hlk := W_hid hlk
      replace hI := W_hid hI
      replace hSum := W_hid hSum
      replace hF := W_hid hF
      replace hS0 := W_hid hS0
      replace hlf := W_hid hlf
      rcases hex with hex | ⟨hex1, hex2⟩ <;> (
        go_wp2_with fail
        refine hNew.out.mono ?_
        rintro e v2 ⟨g, rfl, hP, b2⟩
        have hJ : JS w v2 g 3 S0 := ⟨⟨_, _, hB.out.size, hP⟩, hB.out.trans (b2.mono hB.out.size), hF.out⟩
        replace hJ := W_hid hJ
        clear hP b2 hPin hNew hor hTL hLe
        go_wp2_with fail
        obtain ⟨wa, rfl⟩ : ∃ wa, wa = wr := ⟨wr, rfl⟩
        go_loopw [11] (fun i wr => ∃ (k : Nat) (S : Ma), i = .int .i64 (k : Int) ∧ k ≤ len1 ∧ k ≤ 1000 ∧ Hid (JS w wr g 3 S) ∧ Hid (Sums l S) ∧ Hid (lf S.t ≤ 120)) (fun i _ => 1000 - (intOf i).toNat)
        case atStart => exact ⟨0, S0, rfl, Nat.zero_le _, Nat.zero_le _, hJ, hSum, hlf⟩
        case round =>
          clear hJ hSum hlf hF
          obtain ⟨k2, S, rfl, hk3, hk4, hJ, hSm, hlf⟩ := hrel
          by_cases hlt2 : k2 < len1 ∧ k2 < 1000
          · obtain ⟨hlt3, hlt4⟩ := hlt2
            have hkl : k2 < (z1.take len1).length := by have := hV.out.1; omega
            obtain ⟨hi64, g1, o1, rfl, hgl, hc⟩ := hV.out.2.2 k2 _ (List.getElem?_eq_getElem hkl)
            obtain ⟨q, hq⟩ : ∃ q, (z1.take len1)[k2] = q := ⟨_, rfl⟩
            rw [hq] at hc hi64
            have hcw : wr.cell? ⟨g1, o1 + k2, none⟩ = some (.int .i64 q) := by rw [World.cell?_of_block (w := w) (hJ.out.bel.block g1 hgl)]; exact hc
            have hkp : IntKind.i64.wrap ((k2 : Int) + 1) = ((k2 + 1 : Nat) : Int) := by rw [IntWalk.i64_in _ (by omega)]; omega
            have hi1 : (k2 : Int) < (len1 : Int) := by omega
            have hi2 : (k2 : Int) < 1000 := by omega
            have hst := W_hid (hJ.out.step hi64)
            have h1 := hSm.out.one q
            replace hkp := W_hid hkp
            replace hc := W_hid hc
            replace hq := W_hid hq
            have hkp2 := hkp.out
            have hl2 : lf (one S q).1.t ≤ 120 := by have := h1.2; have := hlf.out; omega
            replace hl2 := W_hid hl2
            replace h1 := W_hid h1.1
            go_wp2_with fail
            refine hst.out.mono ?_
            rintro e v3 ⟨rfl, j3⟩
            replace j3 := W_hid j3
            go_wp2_with fail
            exact ⟨⟨k2 + 1, _, by simp [hkp2], by omega, by omega, j3, h1, hl2⟩, by simp [intOf]; omega⟩
          · have hex3 : (len1 : Int) ≤ (k2 : Int) ∨ ((k2 : Int) < (len1 : Int) ∧ (1000 : Int) ≤ (k2 : Int)) := by omega
            rcases hex3 with hex3 | ⟨hex4, hex5⟩ <;> (
              go_wp2_with fail
              obtain ⟨wb, rfl⟩ : ∃ wb, wb = wr := ⟨wr, rfl⟩
              go_loopw [12] (fun i wr => ∃ (k : Nat) (S : Ma), i = .int .i64 (k : Int) ∧ k ≤ 200 ∧ Hid (JS w wr g 3 S) ∧ Hid (Sums l S) ∧ Hid (lf S.t ≤ 120 - k)) (fun i _ => 200 - (intOf i).toNat)
              case atStart => exact ⟨0, S, rfl, Nat.zero_le _, hJ, hSm, hlf⟩
              case round =>
                clear hJ hSm hlf
                obtain ⟨k3, S, rfl, hk5, hJ, hSm, hlf⟩ := hrel
                by_cases hlt5 : k3 < 200
                · have hkp : IntKind.i64.wrap ((k3 : Int) + 1) = ((k3 + 1 : Nat) : Int) := by rw [IntWalk.i64_in _ (by omega)]; omega
                  have hi3 : (k3 : Int) < 200 := by omega
                  have hst := W_hid (hJ.out.step (q := 0) ⟨by decide, by decide⟩)
                  have h1 := hSm.out.one 0
                  replace hkp := W_hid hkp
                  have hkp2 := hkp.out
                  have hl2 : lf (one S 0).1.t ≤ 120 - (k3 + 1) := by have := h1.2; have := hlf.out; omega
                  replace hl2 := W_hid hl2
                  replace h1 := W_hid h1.1
                  go_wp2_with fail
                  refine hst.out.mono ?_
                  rintro e v3 ⟨rfl, j3⟩
                  replace j3 := W_hid j3
                  go_wp2_with fail
                  exact ⟨⟨k3 + 1, _, by simp [hkp2], by omega, j3, h1, hl2⟩, by simp [intOf]; omega⟩
                · obtain rfl : k3 = 200 := by omega
                  have hall := hSm.out.all (by have := hlf.out; omega)
                  have c3 := hSm.out.c3
                  have e0 : cellM S 0 = s := by
                    have h1 : cellM S 0 = S.c.getD 0 0 := by
                      unfold cellM
                      rw [if_pos (by rw [c3]; rfl)]
                      rfl
                    rw [h1, ← hs.out]
                    refine eqw_i64 (hall.2.trans (ws_eqw l).symm) ?_ (ws_i64 l)
                    have := gt_i64 hJ.out.ft.c 0
                    exact this
                  have e1 : cellM S 1 = 0 := by
                    unfold cellM
                    rw [if_pos (by rw [c3]; rfl)]
                    exact hSm.out.c1
                  have e2 : (live S.t).length = 0 := by rw [hall.1]; rfl
                  have e3 : one S 0 = (S, -1) := by unfold one; rw [pick_none e2]
                  have d0 := W_hid (hJ.out.cell 0)
                  have d1 := W_hid (hJ.out.cell 1)
                  have d2 := W_hid (hJ.out.live)
                  have d3 := W_hid (fun W (h : JS w W g 3 S) => h.step (q := 0) ⟨by decide, by decide⟩)
                  rw [e0] at d0
                  rw [e1] at d1
                  rw [e2] at d2
                  rw [e3] at d3
                  clear e0 e1 e2 e3 c3 hall
                  go_wp2_with fail
                  refine d0.out.mono ?_
                  rintro e v4 ⟨rfl, rfl⟩
                  go_wp2_with fail
                  refine d1.out.mono ?_
                  rintro e v4 ⟨rfl, rfl⟩
                  go_wp2_with fail
                  refine d2.out.mono ?_
                  rintro e v4 ⟨a4, c4, rfl, j4⟩
                  replace j4 := W_hid j4
                  go_wp2_with fail
                  refine (d3.out _ j4.out).mono ?_
                  rintro e v5 ⟨rfl, j5⟩
                  replace j5 := W_hid j5
                  go_wp2_with fail
                  go_ret
                  exact ⟨rfl, j5.out.bel⟩))
set_option maxRecDepth 100000 in
theorem MemSums_lifted (os : Os) (started : os.Started) (H : Type) (enc : TypeId × Value → H) :
    ReturnsInHanded {} Try.checked os 4 .any (Rows.memSumsSpec.pre6 enc Try.prog Try.f4 Rows.memSumsRow.domain false) (Rows.memSumsSpec.post enc Try.prog Try.f4 false true false false) := by
  refine returnsInHanded_of_change_sized (C := Try.checked) (by kernel_rfl) started (by kernel_rfl) Try.func4
    (ChangeSpec.witness6 (enc := enc) (C := Try.checked) false ⟨#[], #[.slice none 0 0, .slice none 0 0], []⟩ 8 (by kernel_rfl) (by kernel_rfl) (by kernel_rfl) (by kernel_rfl)) ?_
  intro W base args ds gs before hval0 hW hcnd hsz0 _
  have hsz : (DataW.weightsEach Try.prog (Try.f4.params.toList ++ Rows.memSumsSpec.plain.varTypes Try.prog) (ds ++ gs)).all (· ≤ reachBytes) = true := hsz0
  clear hsz0
  have hval : ∀ (j : Nat) t v, Try.f4.params[j]? = some t → args[j]? = some v → Value.okWide Try.prog W .any base t v := hval0
  have hW' := hW
  obtain ⟨p, q, hA0, hV, rfl, hfz, hnd⟩ := hW
  have hA : DataW.TrodAll enc Try.prog W 0 (fun _ => true) true Try.f4.params.toList args.toList ds p := hA0
  rw [Try.params4] at hA hval hsz
  obtain ⟨v0, vs0, d0, ds0, p0, q0, hargs, rfl, rfl, h0, r0⟩ := trodAll_cons hA
  obtain ⟨v1, vs1, d1, ds1, p1, q1, rfl, rfl, rfl, h1, r1⟩ := trodAll_cons r0
  obtain ⟨rfl, rfl, rfl⟩ := trodAll_nil r1
  obtain rfl : args = #[v0, v1] := by cases args; simp_all
  obtain ⟨rfl, rfl⟩ := trodVars_none hV
  obtain ⟨a0, len0, cap0, rfl⟩ := okWide_slice Try.underlying38 (hval 0 38 v0 rfl rfl)
  have k0 := h0
  have lt0 : ∀ x ∈ p0, x.block < W.heap.size := by obtain ⟨m, hm⟩ := k0; exact DataW.trod_lt m _ _ _ hm
  obtain ⟨z0, w0, s0⟩ : ∃ zs, IsRow .i64 W a0 len0 cap0 zs ∧ cap0 * 8 ≤ 140737488351232 := by
    obtain ⟨fuel, hf⟩ := h0
    rcases open_ints Try.underlying38 Try.underlying2 (by kernel_rfl) hf with ⟨hcs, _⟩ | ⟨x, l, c, zs, hcs, _, hl, hm, hz, hx, hcell, hwz⟩
    · simp [Value.cells] at hcs
      obtain ⟨rfl, rfl, rfl⟩ := hcs
      exact ⟨[], .inl ⟨rfl, rfl, rfl, rfl⟩, by simp⟩
    · simp [Value.cells] at hcs
      obtain ⟨rfl, rfl, rfl⟩ := hcs
      have hs := sized_slice hsz (j := 0) (t := 38) (e := 2) rfl (congrArg some (Prod.mk.inj hx).1) Try.underlying38
      rw [show Try.prog.bytesOf 2 = 8 from by kernel_rfl] at hs
      have hz2 : zs.length = cap0 := by simpa using hz
      simp only [lits, List.length_map, List.length_take, List.length_drop, reachBytes] at hs
      exact ⟨zs, .inr ⟨_, rfl, hl, hm, hz2, hcell, hwz⟩, by omega⟩
  obtain ⟨a1, len1, cap1, rfl⟩ := okWide_slice Try.underlying23 (hval 1 23 v1 rfl rfl)
  have k1 := h1
  have lt1 : ∀ x ∈ p1, x.block < W.heap.size := by obtain ⟨m, hm⟩ := k1; exact DataW.trod_lt m _ _ _ hm
  obtain ⟨z1, w1, s1⟩ : ∃ zs, IsRow .i64 W a1 len1 cap1 zs ∧ cap1 * 8 ≤ 140737488351232 := by
    obtain ⟨fuel, hf⟩ := h1
    rcases open_ints Try.underlying23 Try.underlying3 (by kernel_rfl) hf with ⟨hcs, _⟩ | ⟨x, l, c, zs, hcs, _, hl, hm, hz, hx, hcell, hwz⟩
    · simp [Value.cells] at hcs
      obtain ⟨rfl, rfl, rfl⟩ := hcs
      exact ⟨[], .inl ⟨rfl, rfl, rfl, rfl⟩, by simp⟩
    · simp [Value.cells] at hcs
      obtain ⟨rfl, rfl, rfl⟩ := hcs
      have hs := sized_slice hsz (j := 1) (t := 23) (e := 3) rfl (congrArg some (Prod.mk.inj hx).1) Try.underlying23
      rw [show Try.prog.bytesOf 3 = 8 from by kernel_rfl] at hs
      have hz2 : zs.length = cap1 := by simpa using hz
      simp only [lits, List.length_map, List.length_take, List.length_drop, reachBytes] at hs
      exact ⟨zs, .inr ⟨_, rfl, hl, hm, hz2, hcell, hwz⟩, by omega⟩
  clear hA0 hval0
  refine (MemSums_walk a0 len0 cap0 z0 a1 len1 cap1 z1 W w0 w1 s0 s1).mono fun e W' ⟨he, bel⟩ => ?_
  subst he
  exact ⟨_, rfl, _, _, _, [], _, [], hW', trodAll_mk1 (shut_bool Try.underlying4 _), (trodAll_cons_mk (Below.trod laidOut (by kernel_rfl) (of_decide_eq_true (by kernel_rfl)) k0 bel lt0) (trodAll_cons_mk (Below.trod laidOut (by kernel_rfl) (of_decide_eq_true (by kernel_rfl)) k1 bel lt1) trodAll_mk0)), rfl, bel.frame _, fun h => by cases h⟩

/-- The given statement of MemSums. -/
theorem MemSums_holds : Rows.MemSumsSaid :=
  OpenClaim.holds_of_wide 4 Try.f4 rfl rfl rfl rfl rfl rfl rfl ⟨rfl, rfl, rfl, rfl, rfl⟩ rfl rfl rfl rfl rfl (by kernel_rfl) Try.func4 (by kernel_rfl)
    (of_decide_eq_true (by kernel_rfl)) (by unfold Func.isWrapper; first | (rw [if_pos (by decide +kernel)]; kernel_rfl) | (rw [if_neg (by decide +kernel)]; exact ⟨rfl, rfl⟩))
    (fun os started H enc _ => MemSums_lifted os started H enc)

end Go.Proofs.Ytjafjjfcmcpaoaa

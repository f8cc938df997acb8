/- The law RegionGaps of layer 9 (package haywardlaw09), and the document's own Gap: for every input the law returns true, and its arguments read as before. No further condition. -/
import Derived.Test.YtfbhcnamkojboaaLaws09b
import Derived.Test.YtfbhcnamkojboaaRegThm2
import Derived.Test.YtfbhcnamkojboaaRegGap
import Derived.Test.YtfbhcnamkojboaaRegRef2
namespace Go.Proofs.Ytfbhcnamkojboaa
open Go.ChangeShapes Go.WideShapes Go.ChangeAt Go.RowKit
open SQ
set_option linter.unusedVariables false
set_option linter.unusedSimpArgs false
open RG (Rg)

theorem gap_doc {l : List Rg} {lo hi sz st : Nat} (h : gpOk l lo hi sz st) : gpV l lo hi sz st = (RG.gr st sz hi lo l).getD 0 ∧ gpE l lo hi sz st = if (RG.gr st sz hi lo l).isSome then 0 else 24 := by
  obtain ⟨h1, h2, h3, h4, h5, h6, h7⟩ := h
  have e : RG.gr st sz hi lo l = RG.gq sz hi (RG.gp st sz lo (RG.meeting lo hi l)) := RG.gap_eq (by omega) (by omega) l none none lo h1 (fun y e => by cases e) ⟨Nat.le_refl _, h3, .inl rfl⟩ h6
  unfold gpV gpE
  rw [if_pos ⟨h1, h2, h3, h4, h5, h6, h7⟩, if_pos ⟨h1, h2, h3, h4, h5, h6, h7⟩, e]
  exact ⟨rfl, rfl⟩
theorem okc_len : ∀ (l : List Rg) (x : Rg), RG.Ok true (some x) l → x.t ≤ 140737488355328 → x.t + l.length ≤ 140737488355328
  | [], x, _, h => h
  | r :: l, x, h, hx => by
    have h1 := (h.1.2 x rfl).1
    have h2 := h.1.1.1.2.2.1
    have h3 := h.1.1.1.2.2.2
    have := okc_len l r h.2 h3
    simp only [List.length_cons]
    omega
theorem okc_len0 : ∀ (l : List Rg), RG.Ok true none l → l.length ≤ 140737488355329
  | [], _ => by simp
  | r :: l, h => by
    have := okc_len l r h.2 h.1.1.1.2.2.2
    simp only [List.length_cons]
    omega
theorem gap_bad {l : List Rg} {lo hi sz st : Nat} (h : ¬ gpOk l lo hi sz st) : gpV l lo hi sz st = 0 ∧ gpE l lo hi sz st = 2 := by
  unfold gpV gpE
  rw [if_neg h, if_neg h]
  exact ⟨rfl, rfl⟩

set_option maxRecDepth 100000 in
set_option maxHeartbeats 8000000 in
theorem rGap_any (ao : Option Addr) (n cap : Nat) (l : List Rg) (lo hi sz st : Nat) (w : World) (h : RS w ao n cap l) :
    Gv 16 #[.slice ao n cap, .int .u64 (lo : Int), .int .u64 (hi : Int), .int .u64 (sz : Int), .int .u64 (st : Int)] (.tuple #[.int .u64 ((gpV l lo hi sz st : Nat) : Int), .int .i64 (gpE l lo hi sz st)]) w := by
  have hn : n ≤ 9223372036854775807 := by have := h.2.1; have := h.2.2.1; unfold maxLen at *; omega
  have L := W_hid h.1
  have H := W_hid h
  have hR := rRight_any ao n cap l w h
  clear h
  obtain ⟨LO, hLO⟩ : ∃ x : Int, x = lo := ⟨_, rfl⟩
  obtain ⟨HI, hHI⟩ : ∃ x : Int, x = hi := ⟨_, rfl⟩
  obtain ⟨SZ, hSZ⟩ : ∃ x : Int, x = sz := ⟨_, rfl⟩
  have hl0 : 0 ≤ LO := by omega
  have hh0 : 0 ≤ HI := by omega
  have hz0 : 0 ≤ SZ := by omega
  have bad := W_hid (@gap_bad l lo hi sz st)
  have doc := W_hid (@gap_doc l lo hi sz st)
  rw [← hLO, ← hHI, ← hSZ]
  replace hLO := W_hid hLO
  replace hHI := W_hid hHI
  replace hSZ := W_hid hSZ
  by_cases hok : RG.Ok true none l
  · rw [decide_eq_true hok] at hR
    replace hR := W_hid hR
    have hn2 : n ≤ 140737488355329 := by rw [← L.out]; exact okc_len0 _ hok
    clear hn
    replace hok := W_hid hok
    by_cases hs : st = 4096 ∨ st = 2097152
    · rcases hs with rfl | rfl
      · have eS : ((4096 : Nat) : Int) = 4096 := rfl
        rw [eS]
        clear eS
        obtain ⟨m, hm⟩ : ∃ m, LO.tmod 4096 = m := ⟨_, rfl⟩
        obtain ⟨k, hk⟩ : ∃ k, SZ.tmod 4096 = k := ⟨_, rfl⟩
        have hm' : Hid (m = 0 ↔ lo % 4096 = 0) := by
          show _ ↔ _
          rw [← hm, hLO.out, show (lo : Int).tmod 4096 = ((lo % 4096 : Nat) : Int) from rfl]
          omega
        have hk' : Hid (k = 0 ↔ sz % 4096 = 0) := by
          show _ ↔ _
          rw [← hk, hSZ.out, show (sz : Int).tmod 4096 = ((sz % 4096 : Nat) : Int) from rfl]
          omega
        by_cases h1 : m = 0
        · subst h1
          by_cases h2 : k = 0
          · subst h2
            by_cases h3 : SZ = 0
            · have g3 : (SZ == 0) = true := by simpa using h3
              have hE := W_hid (bad.out (fun hg => by have := hg.2.2.2.2.1; have := hSZ.out; omega))
              rw [hE.out.1, hE.out.2]
              clear bad doc hm' hk'
              replace h3 := W_hid h3
              go_enter Try.func16, Try.ntmps16
              go_wp2_with fail
              refine hR.out.mono ?_
              rintro e w1 ⟨rfl, bb⟩
              clear hR H
              go_wp2_with fail
              refine bodyPost_ret (results_tmp2 rfl _ _ _) rfl ?_
              exact ⟨rfl, bb⟩
            · have g3 : (SZ == 0) = false := by simpa using h3
              by_cases h4 : HI < LO
              · have hE := W_hid (bad.out (fun hg => by have := hg.2.2.2.2.2.1; have := hLO.out; have := hHI.out; omega))
                rw [hE.out.1, hE.out.2]
                clear bad doc hm' hk'
                replace h3 := W_hid h3
                go_enter Try.func16, Try.ntmps16
                go_wp2_with fail
                refine hR.out.mono ?_
                rintro e w1 ⟨rfl, bb⟩
                clear hR H
                go_wp2_with fail
                refine bodyPost_ret (results_tmp2 rfl _ _ _) rfl ?_
                exact ⟨rfl, bb⟩
              · by_cases h5 : 140737488355328 < HI
                · have hE := W_hid (bad.out (fun hg => by have := hg.2.2.2.2.2.2; have := hHI.out; omega))
                  rw [hE.out.1, hE.out.2]
                  clear bad doc hm' hk'
                  replace h3 := W_hid h3
                  go_enter Try.func16, Try.ntmps16
                  go_wp2_with fail
                  refine hR.out.mono ?_
                  rintro e w1 ⟨rfl, bb⟩
                  clear hR H
                  go_wp2_with fail
                  refine bodyPost_ret (results_tmp2 rfl _ _ _) rfl ?_
                  exact ⟨rfl, bb⟩
                · have hE := W_hid (doc.out ⟨hok.out, .inl rfl, hm'.out.1 rfl, hk'.out.1 rfl, by have := hSZ.out; omega, by have := hLO.out; have := hHI.out; omega, by have := hHI.out; omega⟩)
                  clear bad doc hm' hk'
                  have hbeg : Hid ((0 ≤ n → RG.gr 4096 sz hi lo l = RG.gr 4096 sz hi lo (l.drop 0)) ∧ (n < 0 → RG.gr 4096 sz hi lo l = none)) := ⟨fun _ => rfl, fun h => by omega⟩
                  generalize RG.gr 4096 sz hi lo l = R at hE hbeg
                  have hlo : lo ≤ 140737490452480 := by have := hLO.out; omega
                  go_enter Try.func16, Try.ntmps16
                  go_wp2_with fail
                  refine hR.out.mono ?_
                  rintro e w1 ⟨rfl, bb⟩
                  replace H := W_hid (H.out.below bb (Nat.le_refl _))
                  clear hR
                  go_wp2_with fail

                  go_loopw [13, 14, 15] (fun at_ i nx wr => ∃ (k a : Nat), k ≤ n + 1 ∧ at_ = .int .u64 (a : Int) ∧ i = .int .i64 k ∧ a ≤ 140737490452480 ∧ Hid ((k ≤ n → R = RG.gr 4096 sz hi a (l.drop k)) ∧ (n < k → R = none)) ∧ Below w1.heap.size w1 wr) (fun _ i _ _ => n + 1 - (intOf i).toNat)
                  case atStart => exact ⟨0, lo, by omega, by rw [hLO.out], rfl, hlo, hbeg, Below.refl _ _⟩
                  case round =>
                    obtain ⟨k, a, hk, rfl, rfl, ha, hR, bel⟩ := hrel
                    by_cases hle : k ≤ n
                    · have hcur := hR.out.1 hle
                      by_cases hlt : k < n
                      · obtain ⟨b1, o1, rfl, hb1, g1⟩ := (H.out.below bel (Nat.le_refl _)).at_ (by omega)
                        have k1 : k < l.length := by rw [L.out]; exact hlt
                        obtain ⟨e1, e2, e3, e4⟩ := g1 k hlt
                        have hgd := (hok.out.good_of l[k] (List.getElem_mem k1)).1
                        have hd : l.drop k = l[k] :: l.drop (k + 1) := List.drop_eq_getElem_cons k1
                        rw [hd] at hcur
                        obtain ⟨⟨f, t, p, s⟩, hx⟩ : ∃ x, l[k] = x := ⟨_, rfl⟩
                        simp only [hx] at e1 e2 hcur hgd
                        have hft : f ≤ 140737488355328 ∧ t ≤ 140737488355328 := by have h1 : f < t := hgd.2.2.1; have h2 : t ≤ 140737488355328 := hgd.2.2.2; omega
                        clear hx g1 hd e3 e4 hgd
                        simp only [RG.gr] at hcur
                        have hht : Hid (RG.fits a (min hi f) sz → R = some a) := fun hf => by rw [hcur, if_pos hf]
                        have hst : Hid (¬ RG.fits a (min hi f) sz → R = RG.gr 4096 sz hi (if a < t then RG.up t 4096 else a) (l.drop (k + 1))) := fun hf => by rw [hcur, if_neg hf]
                        clear hcur hR
                        obtain ⟨N, hN⟩ : ∃ N, (if (f : Int) < HI then (f : Int) else HI) = N := ⟨_, rfl⟩
                        have HN : Hid (N = ((min hi f : Nat) : Int)) := by show _ = _; rw [← hN]; have := hHI.out; split <;> omega
                        have N1 : 0 ≤ N ∧ N ≤ 140737488355328 := by have := HN.out; omega
                        have f1 : 0 ≤ (f : Int) ∧ (f : Int) ≤ 140737488355328 := by omega
                        by_cases c1 : (a : Int) ≤ N
                        · by_cases c2 : SZ ≤ N - (a : Int)
                          · have hv := W_hid (hht.out (by unfold RG.fits; have := HN.out; have := hSZ.out; omega))
                            clear hht hst
                            go_wp2
                            refine bodyPost_ret (results_tmp2 rfl _ _ _) rfl ?_
                            exact ⟨by rw [hE.out.1, hE.out.2, hv.out]; rfl, bb.trans (bel.mono bb.size)⟩
                          · have hnf : ¬ RG.fits a (min hi f) sz := by unfold RG.fits; have := HN.out; have := hSZ.out; omega
                            clear hht
                            by_cases c3 : (a : Int) < (t : Int)
                            · obtain ⟨q, hq⟩ : ∃ q, (t : Int).tmod 4096 = q := ⟨_, rfl⟩
                              have hq' : q = ((t % 4096 : Nat) : Int) := by rw [← hq]; rfl
                              have hq0 : 0 ≤ q ∧ q < 4096 := by omega
                              have ht0 : 0 ≤ (t : Int) ∧ (t : Int) ≤ 140737488355328 := by omega
                              by_cases c4 : q = 0
                              · have hu : RG.up t 4096 = t := by rw [RG.up_eq (by omega), if_pos (by omega)]
                                have hnx : (k + 1 ≤ n → R = RG.gr 4096 sz hi t (l.drop (k + 1))) ∧ (n < k + 1 → R = none) := ⟨fun _ => by rw [hst.out hnf, if_pos (by omega), hu], fun hh => by omega⟩
                                replace hnx := W_hid hnx
                                replace hnf := W_hid hnf
                                replace hq' := W_hid hq'
                                replace hu := W_hid hu
                                subst c4
                                go_wp2
                                go_roundw
                                case rel => exact ⟨k + 1, t, by omega, by go_num, by go_num, by omega, hnx, bel⟩
                                case measure => first | (simp [intOf]; omega) | simp [intOf]
                              · have hu : RG.up t 4096 = t + (4096 - t % 4096) := by rw [RG.up_eq (by omega), if_neg (by omega)]
                                have hnx : (k + 1 ≤ n → R = RG.gr 4096 sz hi (t + (4096 - t % 4096)) (l.drop (k + 1))) ∧ (n < k + 1 → R = none) := ⟨fun _ => by rw [hst.out hnf, if_pos (by omega), hu], fun hh => by omega⟩
                                have hv : (t : Int) + (4096 - q) = ((t + (4096 - t % 4096) : Nat) : Int) := by omega
                                have c4b : (q != 0) = true := by simpa using c4
                                have c4c : (q == 0) = false := by simpa using c4
                                have hle : t + (4096 - t % 4096) ≤ 140737490452480 := by omega
                                replace hnx := W_hid hnx
                                replace hnf := W_hid hnf
                                replace hq' := W_hid hq'
                                replace hu := W_hid hu
                                replace hv := W_hid hv
                                replace hle := W_hid hle
                                go_wp2
                                go_roundw
                                case rel => exact ⟨k + 1, t + (4096 - t % 4096), by omega, by rw [← hv.out], by go_num, hle.out, hnx, bel⟩
                                case measure => first | (simp [intOf]; omega) | simp [intOf]
                            · have hnx : (k + 1 ≤ n → R = RG.gr 4096 sz hi a (l.drop (k + 1))) ∧ (n < k + 1 → R = none) := ⟨fun _ => by rw [hst.out hnf, if_neg (by omega)], fun hh => by omega⟩
                              replace hnx := W_hid hnx
                              replace hnf := W_hid hnf
                              go_wp2
                              go_roundw
                              case rel => exact ⟨k + 1, a, by omega, rfl, by go_num, by omega, hnx, bel⟩
                              case measure => first | (simp [intOf]; omega) | simp [intOf]
                        · have hnf : ¬ RG.fits a (min hi f) sz := by unfold RG.fits; have := HN.out; have := hSZ.out; omega
                          clear hht
                          by_cases c3 : (a : Int) < (t : Int)
                          · obtain ⟨q, hq⟩ : ∃ q, (t : Int).tmod 4096 = q := ⟨_, rfl⟩
                            have hq' : q = ((t % 4096 : Nat) : Int) := by rw [← hq]; rfl
                            have hq0 : 0 ≤ q ∧ q < 4096 := by omega
                            have ht0 : 0 ≤ (t : Int) ∧ (t : Int) ≤ 140737488355328 := by omega
                            by_cases c4 : q = 0
                            · have hu : RG.up t 4096 = t := by rw [RG.up_eq (by omega), if_pos (by omega)]
                              have hnx : (k + 1 ≤ n → R = RG.gr 4096 sz hi t (l.drop (k + 1))) ∧ (n < k + 1 → R = none) := ⟨fun _ => by rw [hst.out hnf, if_pos (by omega), hu], fun hh => by omega⟩
                              replace hnx := W_hid hnx
                              replace hnf := W_hid hnf
                              replace hq' := W_hid hq'
                              replace hu := W_hid hu
                              subst c4
                              go_wp2
                              go_roundw
                              case rel => exact ⟨k + 1, t, by omega, by go_num, by go_num, by omega, hnx, bel⟩
                              case measure => first | (simp [intOf]; omega) | simp [intOf]
                            · have hu : RG.up t 4096 = t + (4096 - t % 4096) := by rw [RG.up_eq (by omega), if_neg (by omega)]
                              have hnx : (k + 1 ≤ n → R = RG.gr 4096 sz hi (t + (4096 - t % 4096)) (l.drop (k + 1))) ∧ (n < k + 1 → R = none) := ⟨fun _ => by rw [hst.out hnf, if_pos (by omega), hu], fun hh => by omega⟩
                              have hv : (t : Int) + (4096 - q) = ((t + (4096 - t % 4096) : Nat) : Int) := by omega
                              have c4b : (q != 0) = true := by simpa using c4
                              have c4c : (q == 0) = false := by simpa using c4
                              have hle : t + (4096 - t % 4096) ≤ 140737490452480 := by omega
                              replace hnx := W_hid hnx
                              replace hnf := W_hid hnf
                              replace hq' := W_hid hq'
                              replace hu := W_hid hu
                              replace hv := W_hid hv
                              replace hle := W_hid hle
                              go_wp2
                              go_roundw
                              case rel => exact ⟨k + 1, t + (4096 - t % 4096), by omega, by rw [← hv.out], by go_num, hle.out, hnx, bel⟩
                              case measure => first | (simp [intOf]; omega) | simp [intOf]
                          · have hnx : (k + 1 ≤ n → R = RG.gr 4096 sz hi a (l.drop (k + 1))) ∧ (n < k + 1 → R = none) := ⟨fun _ => by rw [hst.out hnf, if_neg (by omega)], fun hh => by omega⟩
                            replace hnx := W_hid hnx
                            replace hnf := W_hid hnf
                            go_wp2
                            go_roundw
                            case rel => exact ⟨k + 1, a, by omega, rfl, by go_num, by omega, hnx, bel⟩
                            case measure => first | (simp [intOf]; omega) | simp [intOf]
                      · obtain rfl : k = n := by omega
                        have hd : l.drop k = [] := List.drop_of_length_le (by rw [L.out]; exact Nat.le_refl _)
                        rw [hd] at hcur
                        simp only [RG.gr] at hcur
                        have hht : Hid (RG.fits a hi sz → R = some a) := fun hf => by rw [hcur, if_pos hf]
                        have hst : Hid (¬ RG.fits a hi sz → R = none) := fun hf => by rw [hcur, if_neg hf]
                        clear hcur hR hd
                        by_cases c1 : (a : Int) ≤ HI
                        · by_cases c2 : SZ ≤ HI - (a : Int)
                          · have hv := W_hid (hht.out (by unfold RG.fits; have := hHI.out; have := hSZ.out; omega))
                            clear hht hst
                            go_wp2
                            refine bodyPost_ret (results_tmp2 rfl _ _ _) rfl ?_
                            exact ⟨by rw [hE.out.1, hE.out.2, hv.out]; rfl, bb.trans (bel.mono bb.size)⟩
                          · have hv := hst.out (by unfold RG.fits; have := hHI.out; have := hSZ.out; omega)
                            have hnx : (k + 1 ≤ k → R = RG.gr 4096 sz hi a (l.drop (k + 1))) ∧ (k < k + 1 → R = none) := ⟨fun hh => by omega, fun _ => hv⟩
                            replace hnx := W_hid hnx
                            clear hht hst hv
                            go_wp2
                            go_roundw
                            case rel => exact ⟨k + 1, a, by omega, rfl, by go_num, by omega, hnx, bel⟩
                            case measure => first | (simp [intOf]; omega) | simp [intOf]
                        · have hv := hst.out (by unfold RG.fits; have := hHI.out; have := hSZ.out; omega)
                          have hnx : (k + 1 ≤ k → R = RG.gr 4096 sz hi a (l.drop (k + 1))) ∧ (k < k + 1 → R = none) := ⟨fun hh => by omega, fun _ => hv⟩
                          replace hnx := W_hid hnx
                          clear hht hst hv
                          go_wp2
                          go_roundw
                          case rel => exact ⟨k + 1, a, by omega, rfl, by go_num, by omega, hnx, bel⟩
                          case measure => first | (simp [intOf]; omega) | simp [intOf]
                    · have hv := W_hid (hR.out.2 (by omega))
                      obtain rfl : k = n + 1 := by omega
                      clear hR
                      go_wp2
                      refine bodyPost_ret (results_tmp2 rfl _ _ _) rfl ?_
                      exact ⟨by rw [hE.out.1, hE.out.2, hv.out]; rfl, bb.trans (bel.mono bb.size)⟩
          · have g2 : (k == 0) = false := by simpa using h2
            have g2' : (k != 0) = true := by simpa using h2
            have hE := W_hid (bad.out (fun hg => by exact h2 (hk'.out.2 hg.2.2.2.1)))
            rw [hE.out.1, hE.out.2]
            clear bad doc hm' hk'
            replace h2 := W_hid h2
            go_enter Try.func16, Try.ntmps16
            go_wp2_with fail
            refine hR.out.mono ?_
            rintro e w1 ⟨rfl, bb⟩
            clear hR H
            go_wp2_with fail
            refine bodyPost_ret (results_tmp2 rfl _ _ _) rfl ?_
            exact ⟨rfl, bb⟩
        · have g1 : (m == 0) = false := by simpa using h1
          have g1' : (m != 0) = true := by simpa using h1
          have hE := W_hid (bad.out (fun hg => by exact h1 (hm'.out.2 hg.2.2.1)))
          rw [hE.out.1, hE.out.2]
          clear bad doc hm' hk'
          replace h1 := W_hid h1
          go_enter Try.func16, Try.ntmps16
          go_wp2_with fail
          refine hR.out.mono ?_
          rintro e w1 ⟨rfl, bb⟩
          clear hR H
          go_wp2_with fail
          refine bodyPost_ret (results_tmp2 rfl _ _ _) rfl ?_
          exact ⟨rfl, bb⟩
      · have eS : ((2097152 : Nat) : Int) = 2097152 := rfl
        rw [eS]
        clear eS
        obtain ⟨m, hm⟩ : ∃ m, LO.tmod 2097152 = m := ⟨_, rfl⟩
        obtain ⟨k, hk⟩ : ∃ k, SZ.tmod 2097152 = k := ⟨_, rfl⟩
        have hm' : Hid (m = 0 ↔ lo % 2097152 = 0) := by
          show _ ↔ _
          rw [← hm, hLO.out, show (lo : Int).tmod 2097152 = ((lo % 2097152 : Nat) : Int) from rfl]
          omega
        have hk' : Hid (k = 0 ↔ sz % 2097152 = 0) := by
          show _ ↔ _
          rw [← hk, hSZ.out, show (sz : Int).tmod 2097152 = ((sz % 2097152 : Nat) : Int) from rfl]
          omega
        by_cases h1 : m = 0
        · subst h1
          by_cases h2 : k = 0
          · subst h2
            by_cases h3 : SZ = 0
            · have g3 : (SZ == 0) = true := by simpa using h3
              have hE := W_hid (bad.out (fun hg => by have := hg.2.2.2.2.1; have := hSZ.out; omega))
              rw [hE.out.1, hE.out.2]
              clear bad doc hm' hk'
              replace h3 := W_hid h3
              go_enter Try.func16, Try.ntmps16
              go_wp2_with fail
              refine hR.out.mono ?_
              rintro e w1 ⟨rfl, bb⟩
              clear hR H
              go_wp2_with fail
              refine bodyPost_ret (results_tmp2 rfl _ _ _) rfl ?_
              exact ⟨rfl, bb⟩
            · have g3 : (SZ == 0) = false := by simpa using h3
              by_cases h4 : HI < LO
              · have hE := W_hid (bad.out (fun hg => by have := hg.2.2.2.2.2.1; have := hLO.out; have := hHI.out; omega))
                rw [hE.out.1, hE.out.2]
                clear bad doc hm' hk'
                replace h3 := W_hid h3
                go_enter Try.func16, Try.ntmps16
                go_wp2_with fail
                refine hR.out.mono ?_
                rintro e w1 ⟨rfl, bb⟩
                clear hR H
                go_wp2_with fail
                refine bodyPost_ret (results_tmp2 rfl _ _ _) rfl ?_
                exact ⟨rfl, bb⟩
              · by_cases h5 : 140737488355328 < HI
                · have hE := W_hid (bad.out (fun hg => by have := hg.2.2.2.2.2.2; have := hHI.out; omega))
                  rw [hE.out.1, hE.out.2]
                  clear bad doc hm' hk'
                  replace h3 := W_hid h3
                  go_enter Try.func16, Try.ntmps16
                  go_wp2_with fail
                  refine hR.out.mono ?_
                  rintro e w1 ⟨rfl, bb⟩
                  clear hR H
                  go_wp2_with fail
                  refine bodyPost_ret (results_tmp2 rfl _ _ _) rfl ?_
                  exact ⟨rfl, bb⟩
                · have hE := W_hid (doc.out ⟨hok.out, .inr rfl, hm'.out.1 rfl, hk'.out.1 rfl, by have := hSZ.out; omega, by have := hLO.out; have := hHI.out; omega, by have := hHI.out; omega⟩)
                  clear bad doc hm' hk'
                  have hbeg : Hid ((0 ≤ n → RG.gr 2097152 sz hi lo l = RG.gr 2097152 sz hi lo (l.drop 0)) ∧ (n < 0 → RG.gr 2097152 sz hi lo l = none)) := ⟨fun _ => rfl, fun h => by omega⟩
                  generalize RG.gr 2097152 sz hi lo l = R at hE hbeg
                  have hlo : lo ≤ 140737490452480 := by have := hLO.out; omega
                  go_enter Try.func16, Try.ntmps16
                  go_wp2_with fail
                  refine hR.out.mono ?_
                  rintro e w1 ⟨rfl, bb⟩
                  replace H := W_hid (H.out.below bb (Nat.le_refl _))
                  clear hR
                  go_wp2_with fail

                  go_loopw [13, 14, 15] (fun at_ i nx wr => ∃ (k a : Nat), k ≤ n + 1 ∧ at_ = .int .u64 (a : Int) ∧ i = .int .i64 k ∧ a ≤ 140737490452480 ∧ Hid ((k ≤ n → R = RG.gr 2097152 sz hi a (l.drop k)) ∧ (n < k → R = none)) ∧ Below w1.heap.size w1 wr) (fun _ i _ _ => n + 1 - (intOf i).toNat)
                  case atStart => exact ⟨0, lo, by omega, by rw [hLO.out], rfl, hlo, hbeg, Below.refl _ _⟩
                  case round =>
                    obtain ⟨k, a, hk, rfl, rfl, ha, hR, bel⟩ := hrel
                    by_cases hle : k ≤ n
                    · have hcur := hR.out.1 hle
                      by_cases hlt : k < n
                      · obtain ⟨b1, o1, rfl, hb1, g1⟩ := (H.out.below bel (Nat.le_refl _)).at_ (by omega)
                        have k1 : k < l.length := by rw [L.out]; exact hlt
                        obtain ⟨e1, e2, e3, e4⟩ := g1 k hlt
                        have hgd := (hok.out.good_of l[k] (List.getElem_mem k1)).1
                        have hd : l.drop k = l[k] :: l.drop (k + 1) := List.drop_eq_getElem_cons k1
                        rw [hd] at hcur
                        obtain ⟨⟨f, t, p, s⟩, hx⟩ : ∃ x, l[k] = x := ⟨_, rfl⟩
                        simp only [hx] at e1 e2 hcur hgd
                        have hft : f ≤ 140737488355328 ∧ t ≤ 140737488355328 := by have h1 : f < t := hgd.2.2.1; have h2 : t ≤ 140737488355328 := hgd.2.2.2; omega
                        clear hx g1 hd e3 e4 hgd
                        simp only [RG.gr] at hcur
                        have hht : Hid (RG.fits a (min hi f) sz → R = some a) := fun hf => by rw [hcur, if_pos hf]
                        have hst : Hid (¬ RG.fits a (min hi f) sz → R = RG.gr 2097152 sz hi (if a < t then RG.up t 2097152 else a) (l.drop (k + 1))) := fun hf => by rw [hcur, if_neg hf]
                        clear hcur hR
                        obtain ⟨N, hN⟩ : ∃ N, (if (f : Int) < HI then (f : Int) else HI) = N := ⟨_, rfl⟩
                        have HN : Hid (N = ((min hi f : Nat) : Int)) := by show _ = _; rw [← hN]; have := hHI.out; split <;> omega
                        have N1 : 0 ≤ N ∧ N ≤ 140737488355328 := by have := HN.out; omega
                        have f1 : 0 ≤ (f : Int) ∧ (f : Int) ≤ 140737488355328 := by omega
                        by_cases c1 : (a : Int) ≤ N
                        · by_cases c2 : SZ ≤ N - (a : Int)
                          · have hv := W_hid (hht.out (by unfold RG.fits; have := HN.out; have := hSZ.out; omega))
                            clear hht hst
                            go_wp2
                            refine bodyPost_ret (results_tmp2 rfl _ _ _) rfl ?_
                            exact ⟨by rw [hE.out.1, hE.out.2, hv.out]; rfl, bb.trans (bel.mono bb.size)⟩
                          · have hnf : ¬ RG.fits a (min hi f) sz := by unfold RG.fits; have := HN.out; have := hSZ.out; omega
                            clear hht
                            by_cases c3 : (a : Int) < (t : Int)
                            · obtain ⟨q, hq⟩ : ∃ q, (t : Int).tmod 2097152 = q := ⟨_, rfl⟩
                              have hq' : q = ((t % 2097152 : Nat) : Int) := by rw [← hq]; rfl
                              have hq0 : 0 ≤ q ∧ q < 2097152 := by omega
                              have ht0 : 0 ≤ (t : Int) ∧ (t : Int) ≤ 140737488355328 := by omega
                              by_cases c4 : q = 0
                              · have hu : RG.up t 2097152 = t := by rw [RG.up_eq (by omega), if_pos (by omega)]
                                have hnx : (k + 1 ≤ n → R = RG.gr 2097152 sz hi t (l.drop (k + 1))) ∧ (n < k + 1 → R = none) := ⟨fun _ => by rw [hst.out hnf, if_pos (by omega), hu], fun hh => by omega⟩
                                replace hnx := W_hid hnx
                                replace hnf := W_hid hnf
                                replace hq' := W_hid hq'
                                replace hu := W_hid hu
                                subst c4
                                go_wp2
                                go_roundw
                                case rel => exact ⟨k + 1, t, by omega, by go_num, by go_num, by omega, hnx, bel⟩
                                case measure => first | (simp [intOf]; omega) | simp [intOf]
                              · have hu : RG.up t 2097152 = t + (2097152 - t % 2097152) := by rw [RG.up_eq (by omega), if_neg (by omega)]
                                have hnx : (k + 1 ≤ n → R = RG.gr 2097152 sz hi (t + (2097152 - t % 2097152)) (l.drop (k + 1))) ∧ (n < k + 1 → R = none) := ⟨fun _ => by rw [hst.out hnf, if_pos (by omega), hu], fun hh => by omega⟩
                                have hv : (t : Int) + (2097152 - q) = ((t + (2097152 - t % 2097152) : Nat) : Int) := by omega
                                have c4b : (q != 0) = true := by simpa using c4
                                have c4c : (q == 0) = false := by simpa using c4
                                have hle : t + (2097152 - t % 2097152) ≤ 140737490452480 := by omega
                                replace hnx := W_hid hnx
                                replace hnf := W_hid hnf
                                replace hq' := W_hid hq'
                                replace hu := W_hid hu
                                replace hv := W_hid hv
                                replace hle := W_hid hle
                                go_wp2
                                go_roundw
                                case rel => exact ⟨k + 1, t + (2097152 - t % 2097152), by omega, by rw [← hv.out], by go_num, hle.out, hnx, bel⟩
                                case measure => first | (simp [intOf]; omega) | simp [intOf]
                            · have hnx : (k + 1 ≤ n → R = RG.gr 2097152 sz hi a (l.drop (k + 1))) ∧ (n < k + 1 → R = none) := ⟨fun _ => by rw [hst.out hnf, if_neg (by omega)], fun hh => by omega⟩
                              replace hnx := W_hid hnx
                              replace hnf := W_hid hnf
                              go_wp2
                              go_roundw
                              case rel => exact ⟨k + 1, a, by omega, rfl, by go_num, by omega, hnx, bel⟩
                              case measure => first | (simp [intOf]; omega) | simp [intOf]
                        · have hnf : ¬ RG.fits a (min hi f) sz := by unfold RG.fits; have := HN.out; have := hSZ.out; omega
                          clear hht
                          by_cases c3 : (a : Int) < (t : Int)
                          · obtain ⟨q, hq⟩ : ∃ q, (t : Int).tmod 2097152 = q := ⟨_, rfl⟩
                            have hq' : q = ((t % 2097152 : Nat) : Int) := by rw [← hq]; rfl
                            have hq0 : 0 ≤ q ∧ q < 2097152 := by omega
                            have ht0 : 0 ≤ (t : Int) ∧ (t : Int) ≤ 140737488355328 := by omega
                            by_cases c4 : q = 0
                            · have hu : RG.up t 2097152 = t := by rw [RG.up_eq (by omega), if_pos (by omega)]
                              have hnx : (k + 1 ≤ n → R = RG.gr 2097152 sz hi t (l.drop (k + 1))) ∧ (n < k + 1 → R = none) := ⟨fun _ => by rw [hst.out hnf, if_pos (by omega), hu], fun hh => by omega⟩
                              replace hnx := W_hid hnx
                              replace hnf := W_hid hnf
                              replace hq' := W_hid hq'
                              replace hu := W_hid hu
                              subst c4
                              go_wp2
                              go_roundw
                              case rel => exact ⟨k + 1, t, by omega, by go_num, by go_num, by omega, hnx, bel⟩
                              case measure => first | (simp [intOf]; omega) | simp [intOf]
                            · have hu : RG.up t 2097152 = t + (2097152 - t % 2097152) := by rw [RG.up_eq (by omega), if_neg (by omega)]
                              have hnx : (k + 1 ≤ n → R = RG.gr 2097152 sz hi (t + (2097152 - t % 2097152)) (l.drop (k + 1))) ∧ (n < k + 1 → R = none) := ⟨fun _ => by rw [hst.out hnf, if_pos (by omega), hu], fun hh => by omega⟩
                              have hv : (t : Int) + (2097152 - q) = ((t + (2097152 - t % 2097152) : Nat) : Int) := by omega
                              have c4b : (q != 0) = true := by simpa using c4
                              have c4c : (q == 0) = false := by simpa using c4
                              have hle : t + (2097152 - t % 2097152) ≤ 140737490452480 := by omega
                              replace hnx := W_hid hnx
                              replace hnf := W_hid hnf
                              replace hq' := W_hid hq'
                              replace hu := W_hid hu
                              replace hv := W_hid hv
                              replace hle := W_hid hle
                              go_wp2
                              go_roundw
                              case rel => exact ⟨k + 1, t + (2097152 - t % 2097152), by omega, by rw [← hv.out], by go_num, hle.out, hnx, bel⟩
                              case measure => first | (simp [intOf]; omega) | simp [intOf]
                          · have hnx : (k + 1 ≤ n → R = RG.gr 2097152 sz hi a (l.drop (k + 1))) ∧ (n < k + 1 → R = none) := ⟨fun _ => by rw [hst.out hnf, if_neg (by omega)], fun hh => by omega⟩
                            replace hnx := W_hid hnx
                            replace hnf := W_hid hnf
                            go_wp2
                            go_roundw
                            case rel => exact ⟨k + 1, a, by omega, rfl, by go_num, by omega, hnx, bel⟩
                            case measure => first | (simp [intOf]; omega) | simp [intOf]
                      · obtain rfl : k = n := by omega
                        have hd : l.drop k = [] := List.drop_of_length_le (by rw [L.out]; exact Nat.le_refl _)
                        rw [hd] at hcur
                        simp only [RG.gr] at hcur
                        have hht : Hid (RG.fits a hi sz → R = some a) := fun hf => by rw [hcur, if_pos hf]
                        have hst : Hid (¬ RG.fits a hi sz → R = none) := fun hf => by rw [hcur, if_neg hf]
                        clear hcur hR hd
                        by_cases c1 : (a : Int) ≤ HI
                        · by_cases c2 : SZ ≤ HI - (a : Int)
                          · have hv := W_hid (hht.out (by unfold RG.fits; have := hHI.out; have := hSZ.out; omega))
                            clear hht hst
                            go_wp2
                            refine bodyPost_ret (results_tmp2 rfl _ _ _) rfl ?_
                            exact ⟨by rw [hE.out.1, hE.out.2, hv.out]; rfl, bb.trans (bel.mono bb.size)⟩
                          · have hv := hst.out (by unfold RG.fits; have := hHI.out; have := hSZ.out; omega)
                            have hnx : (k + 1 ≤ k → R = RG.gr 2097152 sz hi a (l.drop (k + 1))) ∧ (k < k + 1 → R = none) := ⟨fun hh => by omega, fun _ => hv⟩
                            replace hnx := W_hid hnx
                            clear hht hst hv
                            go_wp2
                            go_roundw
                            case rel => exact ⟨k + 1, a, by omega, rfl, by go_num, by omega, hnx, bel⟩
                            case measure => first | (simp [intOf]; omega) | simp [intOf]
                        · have hv := hst.out (by unfold RG.fits; have := hHI.out; have := hSZ.out; omega)
                          have hnx : (k + 1 ≤ k → R = RG.gr 2097152 sz hi a (l.drop (k + 1))) ∧ (k < k + 1 → R = none) := ⟨fun hh => by omega, fun _ => hv⟩
                          replace hnx := W_hid hnx
                          clear hht hst hv
                          go_wp2
                          go_roundw
                          case rel => exact ⟨k + 1, a, by omega, rfl, by go_num, by omega, hnx, bel⟩
                          case measure => first | (simp [intOf]; omega) | simp [intOf]
                    · have hv := W_hid (hR.out.2 (by omega))
                      obtain rfl : k = n + 1 := by omega
                      clear hR
                      go_wp2
                      refine bodyPost_ret (results_tmp2 rfl _ _ _) rfl ?_
                      exact ⟨by rw [hE.out.1, hE.out.2, hv.out]; rfl, bb.trans (bel.mono bb.size)⟩
          · have g2 : (k == 0) = false := by simpa using h2
            have g2' : (k != 0) = true := by simpa using h2
            have hE := W_hid (bad.out (fun hg => by exact h2 (hk'.out.2 hg.2.2.2.1)))
            rw [hE.out.1, hE.out.2]
            clear bad doc hm' hk'
            replace h2 := W_hid h2
            go_enter Try.func16, Try.ntmps16
            go_wp2_with fail
            refine hR.out.mono ?_
            rintro e w1 ⟨rfl, bb⟩
            clear hR H
            go_wp2_with fail
            refine bodyPost_ret (results_tmp2 rfl _ _ _) rfl ?_
            exact ⟨rfl, bb⟩
        · have g1 : (m == 0) = false := by simpa using h1
          have g1' : (m != 0) = true := by simpa using h1
          have hE := W_hid (bad.out (fun hg => by exact h1 (hm'.out.2 hg.2.2.1)))
          rw [hE.out.1, hE.out.2]
          clear bad doc hm' hk'
          replace h1 := W_hid h1
          go_enter Try.func16, Try.ntmps16
          go_wp2_with fail
          refine hR.out.mono ?_
          rintro e w1 ⟨rfl, bb⟩
          clear hR H
          go_wp2_with fail
          refine bodyPost_ret (results_tmp2 rfl _ _ _) rfl ?_
          exact ⟨rfl, bb⟩
    · have q1 : ((st : Int) == 4096) = false := by simp; omega
      have q2 : ((st : Int) == 2097152) = false := by simp; omega
      have q1x : ((st : Int) != 4096) = true := by simp [bne, q1]
      have q2x : ((st : Int) != 2097152) = true := by simp [bne, q2]
      have hE := W_hid (bad.out (fun hg => by exact hs hg.2.1))
      rw [hE.out.1, hE.out.2]
      clear bad doc
      replace hs := W_hid hs
      go_enter Try.func16, Try.ntmps16
      go_wp2_with fail
      refine hR.out.mono ?_
      rintro e w1 ⟨rfl, bb⟩
      clear hR H
      go_wp2_with fail
      refine bodyPost_ret (results_tmp2 rfl _ _ _) rfl ?_
      exact ⟨rfl, bb⟩
  · rw [decide_eq_false hok] at hR
    replace hR := W_hid hR
    have hE := W_hid (bad.out (fun hg => by exact hok hg.1))
    rw [hE.out.1, hE.out.2]
    clear bad doc hok
    go_enter Try.func16, Try.ntmps16
    go_wp2_with fail
    refine hR.out.mono ?_
    rintro e w1 ⟨rfl, bb⟩
    clear hR H
    go_wp2_with fail
    refine bodyPost_ret (results_tmp2 rfl _ _ _) rfl ?_
    exact ⟨rfl, bb⟩

set_option maxRecDepth 100000 in
set_option maxHeartbeats 4000000 in
theorem RegionGaps_walk (o0 : Option Addr) (n0 c0 : Nat) (l0 : List Rg) (a1 a2 a3 a4 : Int) (w : World) (w0 : RI w o0 n0 c0 l0) (w1 : (Lit.int .u64 a1).wf = true) (w2 : (Lit.int .u64 a2).wf = true) (w3 : (Lit.int .u64 a3).wf = true) (w4 : (Lit.int .u64 a4).wf = true) :
    Calls Try.prog 6 #[.slice o0 n0 c0, .int .u64 a1, .int .u64 a2, .int .u64 a3, .int .u64 a4] w fun e w' => e = .returned (.bool true) ∧ Below w.heap.size w w' := by
  obtain ⟨lo, hlo⟩ : ∃ x : Nat, a1 = x := ⟨a1.toNat, by have := bounds_u64 w1; omega⟩
  obtain ⟨hi, hhi⟩ : ∃ x : Nat, a2 = x := ⟨a2.toNat, by have := bounds_u64 w2; omega⟩
  obtain ⟨sz, hsz⟩ : ∃ x : Nat, a3 = x := ⟨a3.toNat, by have := bounds_u64 w3; omega⟩
  obtain ⟨st, hst⟩ : ∃ x : Nat, a4 = x := ⟨a4.toNat, by have := bounds_u64 w4; omega⟩
  have hL := W_hid w0.1
  have hG : Hid (∀ w, RL w o0 n0 c0 l0 → Gv 15 #[.slice o0 n0 c0, .int .u64 a1, .int .u64 a2, .int .u64 a3, .int .u64 a4] (.tuple #[.int .u64 ((gpV l0 lo hi sz st : Nat) : Int), .int .i64 (gpE l0 lo hi sz st)]) w) := by
    intro w h
    rw [hlo, hhi, hsz, hst]
    exact Gap_any o0 n0 c0 l0 lo hi sz st w h (by have := bounds_u64 w1; omega) (by have := bounds_u64 w2; omega)
  have hQ : Hid (∀ w, RL w o0 n0 c0 l0 → Gv 16 #[.slice o0 n0 c0, .int .u64 a1, .int .u64 a2, .int .u64 a3, .int .u64 a4] (.tuple #[.int .u64 ((gpV l0 lo hi sz st : Nat) : Int), .int .i64 (gpE l0 lo hi sz st)]) w) := by
    intro w h
    rw [hlo, hhi, hsz, hst]
    exact rGap_any o0 n0 c0 l0 lo hi sz st w h.1
  generalize ((gpV l0 lo hi sz st : Nat) : Int) = V at hG hQ
  generalize gpE l0 lo hi sz st = E at hG hQ
  clear w0 w1 w2 w3 w4 hlo hhi hsz hst
  go_enter Try.func6, Try.ntmps6
  go_wp2_with fail
  refine (shown_any _).mono ?_
  rintro e w1 ⟨rfl, bb⟩
  replace hL := W_hid (hL.out.keep bb)
  go_wp2_with fail
  refine (hG.out _ hL.out).mono ?_
  rintro e w2 ⟨rfl, bel2⟩
  replace hL := W_hid (hL.out.keep bel2)
  replace bb := bb.trans (bel2.mono bb.size)
  go_wp2_with fail
  refine (hQ.out _ hL.out).mono ?_
  rintro e w3 ⟨rfl, bel3⟩
  replace bb := bb.trans (bel3.mono bb.size)
  clear hL hG hQ bel2 bel3
  go_wp2
  go_ret
  exact ⟨rfl, bb⟩

set_option maxRecDepth 100000 in
theorem RegionGaps_lifted (os : Os) (started : os.Started) (H : Type) (enc : TypeId × Value → H) :
    ReturnsInHanded {} Try.checked os 6 .any (Rows.regionGapsSpec.pre6 enc Try.prog Try.f6 Rows.regionGapsRow.domain false) (Rows.regionGapsSpec.post enc Try.prog Try.f6 false true false false) := by
  refine returnsInHanded_of_change (C := Try.checked) (by kernel_rfl) started (by kernel_rfl) Try.func6
    (ChangeSpec.witness6 (enc := enc) (C := Try.checked) false ⟨#[], #[.slice none 0 0, .int .u64 0, .int .u64 0, .int .u64 0, .int .u64 0], []⟩ 8 (by kernel_rfl) (by kernel_rfl) (by kernel_rfl) (by kernel_rfl)) ?_
  intro W base args ds gs before hval0 hW hcnd _
  have hval : ∀ (j : Nat) t v, Try.f6.params[j]? = some t → args[j]? = some v → Value.okWide Try.prog W .any base t v := hval0
  have hW' := hW
  obtain ⟨p, q, hA0, hV, rfl, hfz, hnd⟩ := hW
  have hA : DataW.TrodAll enc Try.prog W 0 (fun _ => true) true Try.f6.params.toList args.toList ds p := hA0
  rw [Try.params6] at hA hval
  obtain ⟨v0, vs0, d0, ds0, p0, q0, hargs, rfl, rfl, h0, r0⟩ := trodAll_cons hA
  obtain ⟨v1, vs1, d1, ds1, p1, q1, rfl, rfl, rfl, h1, r1⟩ := trodAll_cons r0
  obtain ⟨v2, vs2, d2, ds2, p2, q2, rfl, rfl, rfl, h2, r2⟩ := trodAll_cons r1
  obtain ⟨v3, vs3, d3, ds3, p3, q3, rfl, rfl, rfl, h3, r3⟩ := trodAll_cons r2
  obtain ⟨v4, vs4, d4, ds4, p4, q4, rfl, rfl, rfl, h4, r4⟩ := trodAll_cons r3
  obtain ⟨rfl, rfl, rfl⟩ := trodAll_nil r4
  obtain rfl : args = #[v0, v1, v2, v3, v4] := by cases args; simp_all
  obtain ⟨rfl, rfl⟩ := trodVars_none hV
  have k0 := h0
  have lt0 : ∀ x ∈ p0, x.block < W.heap.size := by obtain ⟨m, hm⟩ := k0; exact DataW.trod_lt m _ _ _ hm
  obtain ⟨o0, n0, c0, l0, rfl, w0⟩ := open_regions (hval 0 22 v0 rfl rfl) h0
  obtain ⟨a1, rfl, rfl, rfl, w1⟩ := open_int Try.underlying23 (hval 1 23 v1 rfl rfl) h1
  obtain ⟨a2, rfl, rfl, rfl, w2⟩ := open_int Try.underlying23 (hval 2 23 v2 rfl rfl) h2
  obtain ⟨a3, rfl, rfl, rfl, w3⟩ := open_int Try.underlying23 (hval 3 23 v3 rfl rfl) h3
  obtain ⟨a4, rfl, rfl, rfl, w4⟩ := open_int Try.underlying23 (hval 4 23 v4 rfl rfl) h4
  clear hA0 hval0
  refine (RegionGaps_walk o0 n0 c0 l0 a1 a2 a3 a4 W w0 w1 w2 w3 w4).mono fun e W' ⟨he, bel⟩ => ?_
  subst he
  exact ⟨_, rfl, _, _, _, [], _, [], hW', trodAll_mk1 (shut_bool Try.underlying4 _), (trodAll_cons_mk (Below.trod laidOut (by kernel_rfl) (of_decide_eq_true (by kernel_rfl)) k0 bel lt0) (trodAll_cons_mk (shut_int Try.underlying23 w1) (trodAll_cons_mk (shut_int Try.underlying23 w2) (trodAll_cons_mk (shut_int Try.underlying23 w3) (trodAll_cons_mk (shut_int Try.underlying23 w4) trodAll_mk0))))), rfl, bel.frame _, fun h => by cases h⟩

/-- The given statement of RegionGaps. -/
theorem RegionGaps_holds : Rows.RegionGapsSaid :=
  OpenClaim.holds_of_wide 6 Try.f6 rfl rfl rfl rfl rfl rfl rfl ⟨rfl, rfl, rfl, rfl, rfl⟩ rfl rfl rfl rfl rfl (by kernel_rfl) Try.func6 (by kernel_rfl)
    (of_decide_eq_true (by kernel_rfl)) (by unfold Func.isWrapper; first | (rw [if_pos (by decide +kernel)]; kernel_rfl) | (rw [if_neg (by decide +kernel)]; exact ⟨rfl, rfl⟩))
    (fun os started H enc _ => RegionGaps_lifted os started H enc)

end Go.Proofs.Ytfbhcnamkojboaa

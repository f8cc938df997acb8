/- The program's own Gap. -/
import Derived.Test.YtfbhcnamkojboaaRegGapB
namespace Go.Proofs.Ytfbhcnamkojboaa
open Go.ChangeShapes Go.WideShapes Go.ChangeAt Go.RowKit Go.Shelf
open SQ
set_option linter.unusedVariables false
set_option linter.unusedSimpArgs false
attribute [local go_sem] Oper.semAt_some
open RG (Rg)

/-- Are the arguments sound? -/
def gpOk (l : List Rg) (lo hi sz st : Nat) : Prop := RG.Ok true none l ∧ (st = 4096 ∨ st = 2097152) ∧ lo % st = 0 ∧ sz % st = 0 ∧ sz ≠ 0 ∧ lo ≤ hi ∧ hi ≤ 140737488355328
noncomputable instance (l : List Rg) (lo hi sz st : Nat) : Decidable (gpOk l lo hi sz st) := Classical.propDecidable _
noncomputable def gpV (l : List Rg) (lo hi sz st : Nat) : Nat := if gpOk l lo hi sz st then (RG.gq sz hi (RG.gp st sz lo (RG.meeting lo hi l))).getD 0 else 0
noncomputable def gpE (l : List Rg) (lo hi sz st : Nat) : Int := if gpOk l lo hi sz st then (if (RG.gq sz hi (RG.gp st sz lo (RG.meeting lo hi l))).isSome then 0 else 24) else 2
theorem gp_bound {st sz : Nat} (hst : 0 < st) (hst2 : st ≤ 2097152) : ∀ (L : List Rg) (a : Nat), (∀ r ∈ L, RG.good r) → a ≤ 140737490452480 → RG.gp st sz a L ≤ 140737490452480
  | [], a, _, h => h
  | r :: L, a, hg, h => by
    simp only [RG.gp]
    split
    · exact h
    · refine gp_bound hst hst2 L _ (fun z hz => hg z (by simp [hz])) ?_
      have h1 := (hg r (by simp)).1.2.2.2
      rw [RG.up_eq hst]
      split <;> omega

set_option maxRecDepth 100000 in
set_option maxHeartbeats 8000000 in
theorem Gap_any (ao : Option Addr) (n cap : Nat) (l : List Rg) (lo hi sz st : Nat) (w : World) (h : RL w ao n cap l) (hlo : lo < 18446744073709551616) (hhi : hi < 18446744073709551616) :
    Gv 15 #[.slice ao n cap, .int .u64 (lo : Int), .int .u64 (hi : Int), .int .u64 (sz : Int), .int .u64 (st : Int)] (.tuple #[.int .u64 ((gpV l lo hi sz st : Nat) : Int), .int .i64 (gpE l lo hi sz st)]) w := by
  refine wide_fit ?_
  obtain ⟨LO, hLO⟩ : ∃ x : Int, x = lo := ⟨_, rfl⟩
  obtain ⟨HI, hHI⟩ : ∃ x : Int, x = hi := ⟨_, rfl⟩
  obtain ⟨SZ, hSZ⟩ : ∃ x : Int, x = sz := ⟨_, rfl⟩
  obtain ⟨ST, hST⟩ : ∃ x : Int, x = st := ⟨_, rfl⟩
  rw [← hLO, ← hHI, ← hSZ, ← hST]
  obtain ⟨w0, hw0⟩ : ∃ w0, (w.alloc (.cells #[.int .u64 SZ] 23)).alloc (.cells #[.int .u64 ST] 23) = w0 := ⟨_, rfl⟩
  have bb : Below w.heap.size w w0 := by rw [← hw0]; exact ((Below.refl _ _).alloc (Nat.le_refl _) _).alloc (by simp) _
  have h80 : Blk w0 w.heap.size 23 [.int .u64 SZ] := by rw [← hw0]; exact (Blk.new _ _ [.int .u64 SZ] rfl).alloc _
  have h90 : Blk w0 (w.heap.size + 1) 23 [.int .u64 ST] := by rw [← hw0]; exact Blk.new _ _ [.int .u64 ST] (by simp)
  have hs0 : Hid (w0.heap.size = w.heap.size + 2) := by show _ = _; rw [← hw0]; simp
  have c8 := h80.cell (j := 0) rfl
  have c9 := h90.cell (j := 0) rfl
  have hL := W_hid (h.keep bb)
  have hV := valid_any ao n cap l _ hL.out.1
  have hl0 : 0 ≤ LO ∧ LO ≤ 18446744073709551615 := by omega
  have hh0 : 0 ≤ HI ∧ HI ≤ 18446744073709551615 := by omega
  replace hLO := W_hid hLO
  replace hHI := W_hid hHI
  replace hSZ := W_hid hSZ
  replace hST := W_hid hST
  by_cases hok : RG.Ok true none l
  · rw [decide_eq_true hok] at hV
    replace hV := W_hid hV
    by_cases hs : st = 4096 ∨ st = 2097152
    · have hst : 0 < st := by omega
      have hst2 : st ≤ 2097152 := by omega
      obtain ⟨m, hm⟩ : ∃ m, LO.tmod ST = m := ⟨_, rfl⟩
      obtain ⟨k, hk⟩ : ∃ k, SZ.tmod ST = k := ⟨_, rfl⟩
      have hm' : Hid (m = 0 ↔ lo % st = 0) := by
        show _ ↔ _
        rw [← hm, hLO.out, hST.out, show (lo : Int).tmod (st : Int) = ((lo % st : Nat) : Int) from rfl]
        omega
      have hk' : Hid (k = 0 ↔ sz % st = 0) := by
        show _ ↔ _
        rw [← hk, hSZ.out, hST.out, show (sz : Int).tmod (st : Int) = ((sz % st : Nat) : Int) from rfl]
        omega
      have hs' : ST = 4096 ∨ ST = 2097152 := by
        rcases hs with hs | hs
        · left; rw [hST.out, hs]; rfl
        · right; rw [hST.out, hs]; rfl
      have hs9 : Hid (st = 4096 ∨ st = 2097152) := hs
      clear hs
      have hr := W_hid hs'
      clear hs'
      by_cases h1 : m = 0
      · by_cases h2 : k = 0
        · by_cases h3 : SZ = 0
          · have hE : Hid (gpE l lo hi sz st = 2 ∧ gpV l lo hi sz st = 0) := by
              show _ ∧ _
              unfold gpE gpV
              rw [if_neg (fun h => h.2.2.2.2.1 (by have := hSZ.out; omega)), if_neg (fun h => h.2.2.2.2.1 (by have := hSZ.out; omega))]
              exact ⟨rfl, rfl⟩
            rw [hE.out.1, hE.out.2]
            have g3 : (SZ == 0) = true := by simpa using h3
            have g3' := W_hid h3
            clear h3
            rcases hr.out with rfl | rfl
            · refine callsIn_of_wp_marks Try.func15 rfl trivial ?_ rfl
              simp only [Try.ntmps15, List.size_toArray, List.length_cons, List.length_nil, Nat.reduceAdd, Nat.reduceSub, Array.replicate_succ, Array.replicate_zero, List.push_toArray, List.append_toArray, List.nil_append, List.cons_append]
              gi_wp2
              refine ⟨trivial, rfl, ?_⟩
              refine (fit_wide hV.out).mono ?_
              rintro e w1 ⟨rfl, bel1⟩
              have h81 := h80.keep bel1
              have h91 := h90.keep bel1
              have c8 := h81.cell (j := 0) rfl
              have c9 := h91.cell (j := 0) rfl
              replace hL := W_hid (hL.out.keep bel1)
              replace bb := bb.trans (bel1.mono bb.size)
              have hs1 := W_hid (Nat.le_trans (Nat.le_of_eq hs0.out.symm) bel1.size)
              clear bel1 hw0 h80 h90
              gi_wp2
              exact ⟨_, results_tmp2 rfl _ _ _, rfl, bb⟩
            · refine callsIn_of_wp_marks Try.func15 rfl trivial ?_ rfl
              simp only [Try.ntmps15, List.size_toArray, List.length_cons, List.length_nil, Nat.reduceAdd, Nat.reduceSub, Array.replicate_succ, Array.replicate_zero, List.push_toArray, List.append_toArray, List.nil_append, List.cons_append]
              gi_wp2
              refine ⟨trivial, rfl, ?_⟩
              refine (fit_wide hV.out).mono ?_
              rintro e w1 ⟨rfl, bel1⟩
              have h81 := h80.keep bel1
              have h91 := h90.keep bel1
              have c8 := h81.cell (j := 0) rfl
              have c9 := h91.cell (j := 0) rfl
              replace hL := W_hid (hL.out.keep bel1)
              replace bb := bb.trans (bel1.mono bb.size)
              have hs1 := W_hid (Nat.le_trans (Nat.le_of_eq hs0.out.symm) bel1.size)
              clear bel1 hw0 h80 h90
              gi_wp2
              exact ⟨_, results_tmp2 rfl _ _ _, rfl, bb⟩
          · have g3 : (SZ == 0) = false := by simpa using h3
            by_cases h4 : HI < LO
            · have hE : Hid (gpE l lo hi sz st = 2 ∧ gpV l lo hi sz st = 0) := by
                show _ ∧ _
                unfold gpE gpV
                rw [if_neg (fun h => by have := h.2.2.2.2.2.1; have := hLO.out; have := hHI.out; omega), if_neg (fun h => by have := h.2.2.2.2.2.1; have := hLO.out; have := hHI.out; omega)]
                exact ⟨rfl, rfl⟩
              rw [hE.out.1, hE.out.2]
              rcases hr.out with rfl | rfl
              · refine callsIn_of_wp_marks Try.func15 rfl trivial ?_ rfl
                simp only [Try.ntmps15, List.size_toArray, List.length_cons, List.length_nil, Nat.reduceAdd, Nat.reduceSub, Array.replicate_succ, Array.replicate_zero, List.push_toArray, List.append_toArray, List.nil_append, List.cons_append]
                gi_wp2
                refine ⟨trivial, rfl, ?_⟩
                refine (fit_wide hV.out).mono ?_
                rintro e w1 ⟨rfl, bel1⟩
                have h81 := h80.keep bel1
                have h91 := h90.keep bel1
                have c8 := h81.cell (j := 0) rfl
                have c9 := h91.cell (j := 0) rfl
                replace hL := W_hid (hL.out.keep bel1)
                replace bb := bb.trans (bel1.mono bb.size)
                have hs1 := W_hid (Nat.le_trans (Nat.le_of_eq hs0.out.symm) bel1.size)
                clear bel1 hw0 h80 h90
                gi_wp2
                exact ⟨_, results_tmp2 rfl _ _ _, rfl, bb⟩
              · refine callsIn_of_wp_marks Try.func15 rfl trivial ?_ rfl
                simp only [Try.ntmps15, List.size_toArray, List.length_cons, List.length_nil, Nat.reduceAdd, Nat.reduceSub, Array.replicate_succ, Array.replicate_zero, List.push_toArray, List.append_toArray, List.nil_append, List.cons_append]
                gi_wp2
                refine ⟨trivial, rfl, ?_⟩
                refine (fit_wide hV.out).mono ?_
                rintro e w1 ⟨rfl, bel1⟩
                have h81 := h80.keep bel1
                have h91 := h90.keep bel1
                have c8 := h81.cell (j := 0) rfl
                have c9 := h91.cell (j := 0) rfl
                replace hL := W_hid (hL.out.keep bel1)
                replace bb := bb.trans (bel1.mono bb.size)
                have hs1 := W_hid (Nat.le_trans (Nat.le_of_eq hs0.out.symm) bel1.size)
                clear bel1 hw0 h80 h90
                gi_wp2
                exact ⟨_, results_tmp2 rfl _ _ _, rfl, bb⟩
            · by_cases h5 : 140737488355328 < HI
              · have hE : Hid (gpE l lo hi sz st = 2 ∧ gpV l lo hi sz st = 0) := by
                  show _ ∧ _
                  unfold gpE gpV
                  rw [if_neg (fun h => by have := h.2.2.2.2.2.2; have := hHI.out; omega), if_neg (fun h => by have := h.2.2.2.2.2.2; have := hHI.out; omega)]
                  exact ⟨rfl, rfl⟩
                rw [hE.out.1, hE.out.2]
                rcases hr.out with rfl | rfl
                · refine callsIn_of_wp_marks Try.func15 rfl trivial ?_ rfl
                  simp only [Try.ntmps15, List.size_toArray, List.length_cons, List.length_nil, Nat.reduceAdd, Nat.reduceSub, Array.replicate_succ, Array.replicate_zero, List.push_toArray, List.append_toArray, List.nil_append, List.cons_append]
                  gi_wp2
                  refine ⟨trivial, rfl, ?_⟩
                  refine (fit_wide hV.out).mono ?_
                  rintro e w1 ⟨rfl, bel1⟩
                  have h81 := h80.keep bel1
                  have h91 := h90.keep bel1
                  have c8 := h81.cell (j := 0) rfl
                  have c9 := h91.cell (j := 0) rfl
                  replace hL := W_hid (hL.out.keep bel1)
                  replace bb := bb.trans (bel1.mono bb.size)
                  have hs1 := W_hid (Nat.le_trans (Nat.le_of_eq hs0.out.symm) bel1.size)
                  clear bel1 hw0 h80 h90
                  gi_wp2
                  exact ⟨_, results_tmp2 rfl _ _ _, rfl, bb⟩
                · refine callsIn_of_wp_marks Try.func15 rfl trivial ?_ rfl
                  simp only [Try.ntmps15, List.size_toArray, List.length_cons, List.length_nil, Nat.reduceAdd, Nat.reduceSub, Array.replicate_succ, Array.replicate_zero, List.push_toArray, List.append_toArray, List.nil_append, List.cons_append]
                  gi_wp2
                  refine ⟨trivial, rfl, ?_⟩
                  refine (fit_wide hV.out).mono ?_
                  rintro e w1 ⟨rfl, bel1⟩
                  have h81 := h80.keep bel1
                  have h91 := h90.keep bel1
                  have c8 := h81.cell (j := 0) rfl
                  have c9 := h91.cell (j := 0) rfl
                  replace hL := W_hid (hL.out.keep bel1)
                  replace bb := bb.trans (bel1.mono bb.size)
                  have hs1 := W_hid (Nat.le_trans (Nat.le_of_eq hs0.out.symm) bel1.size)
                  clear bel1 hw0 h80 h90
                  gi_wp2
                  exact ⟨_, results_tmp2 rfl _ _ _, rfl, bb⟩
              · have hgp : Hid (gpOk l lo hi sz st) := ⟨hok, hs9.out, hm'.out.1 h1, hk'.out.1 h2, by have := hSZ.out; omega, by have := hLO.out; have := hHI.out; omega, by have := hHI.out; omega⟩
                have hE : Hid (gpV l lo hi sz st = (RG.gq sz hi (RG.gp st sz lo (RG.meeting lo hi l))).getD 0 ∧ gpE l lo hi sz st = if (RG.gq sz hi (RG.gp st sz lo (RG.meeting lo hi l))).isSome then 0 else 24) := by
                  show _ ∧ _
                  unfold gpV gpE
                  rw [if_pos hgp.out, if_pos hgp.out]
                  exact ⟨rfl, rfl⟩
                have hgood : Hid (∀ r ∈ RG.meeting lo hi l, RG.good r) := fun r hr => hok.good_of r (List.mem_filter.1 hr).1
                have hMk := W_hid (fun w => meeting_any ao n cap lo hi w)
                rw [← hLO.out, ← hHI.out] at hMk
                have hml : Hid (∀ w, RL w ao n cap l → ML ao n cap l lo hi w.heap.size (w.heap.size + 1) (w.heap.size + 1 + 1) (((w.alloc (.cells #[.slice ao n cap] 22)).alloc (.cells #[.int .u64 LO] 23)).alloc (.cells #[.int .u64 HI] 23))) := by
                  intro w h
                  rw [hLO.out, hHI.out]
                  exact ML.made lo hi h.1 h.2
                rw [hE.out.1, hE.out.2]
                have hG := fun q b1 b2 b3 => meet_gives q ao n cap l lo hi b1 b2 b3
                generalize RG.meeting lo hi l = X at *
                obtain ⟨VV, hVV⟩ : ∃ v, (RG.gq sz hi (RG.gp st sz lo X)).getD 0 = v := ⟨_, rfl⟩
                obtain ⟨EE, hEE⟩ : ∃ e : Int, (if (RG.gq sz hi (RG.gp st sz lo X)).isSome then (0 : Int) else 24) = e := ⟨_, rfl⟩
                rw [hVV, hEE]
                replace hVV := W_hid hVV
                replace hEE := W_hid hEE
                have hlob : Hid (lo ≤ 140737488355328) := by show _ ≤ _; have := hLO.out; have := hHI.out; omega
                have ha0 : Hid (∀ a, a = w.heap.size → True) := fun _ _ => trivial
                clear hgp hE ha0
                have hblk : Hid (∀ a, ao = some a → 0 < n → a.block < w.heap.size) := h.2
                clear h
                have h1' := W_hid h1
                have h3' := W_hid h3
                clear h3
                have h4' : ¬ HI < LO := h4
                have h5' : ¬ 140737488355328 < HI := h5
                rcases hr.out with rfl | rfl
                · refine callsIn_of_wp_marks Try.func15 rfl trivial ?_ rfl
                  simp only [Try.ntmps15, List.size_toArray, List.length_cons, List.length_nil, Nat.reduceAdd, Nat.reduceSub, Array.replicate_succ, Array.replicate_zero, List.push_toArray, List.append_toArray, List.nil_append, List.cons_append]
                  gi_wp2
                  refine ⟨trivial, rfl, ?_⟩
                  refine (fit_wide hV.out).mono ?_
                  rintro e w1 ⟨rfl, bel1⟩
                  have h81 := h80.keep bel1
                  have h91 := h90.keep bel1
                  have c8 := h81.cell (j := 0) rfl
                  have c9 := h91.cell (j := 0) rfl
                  replace hL := W_hid (hL.out.keep bel1)
                  replace bb := bb.trans (bel1.mono bb.size)
                  have hs1 := W_hid (Nat.le_trans (Nat.le_of_eq hs0.out.symm) bel1.size)
                  clear bel1 hw0 h80 h90
                  gi_wp2
                  have hQ2 : Blk (w1.alloc (.cells #[.int .u64 LO] 23)) w1.heap.size 23 [.int .u64 (lo : Int)] := by rw [hLO.out]; exact Blk.new _ _ [.int .u64 (lo : Int)] rfl
                  obtain ⟨w2, hw2⟩ : ∃ w2, w1.alloc (.cells #[.int .u64 LO] 23) = w2 := ⟨_, rfl⟩
                  have bel2 : Below w1.heap.size w1 w2 := by rw [← hw2]; exact (Below.refl _ _).alloc (Nat.le_refl _) _
                  have hs2 : Hid (w2.heap.size = w1.heap.size + 1) := by show _ = _; rw [← hw2]; simp
                  rw [hw2] at hQ2
                  have h82 := h81.keep bel2
                  have h92 := h91.keep bel2
                  replace hL := W_hid (hL.out.keep bel2)
                  have hm2 := hml.out _ hL.out
                  obtain ⟨w3, hw3⟩ : ∃ w3, ((w2.alloc (.cells #[.slice ao n cap] 22)).alloc (.cells #[.int .u64 LO] 23)).alloc (.cells #[.int .u64 HI] 23) = w3 := ⟨_, rfl⟩
                  have bel3 : Below w2.heap.size w2 w3 := by rw [← hw3]; exact (((Below.refl _ _).alloc (Nat.le_refl _) _).alloc (by simp) _).alloc (by simp; omega) _
                  rw [hw3] at hm2
                  have h83 := h82.keep bel3
                  have h93 := h92.keep bel3
                  have hQ3 := hQ2.keep bel3
                  have b13 := bb.size
                  have b23 := bel2.size
                  have b33 := bel3.size
                  have hB3 : Below w.heap.size w w3 := (bb.trans (bel2.mono bb.size)).trans (bel3.mono (by omega))
                  have hM := hm2.ma (q := w1.heap.size) (by have := hs2.out; omega) (by have := hs2.out; omega) (by have := hs2.out; omega) (fun a e e' => by have := hblk.out a e e'; omega) (rowOf_blk hQ3)
                  have hord := W_hid (show w.heap.size + 2 ≤ w1.heap.size ∧ w1.heap.size + 1 ≤ w3.heap.size from ⟨hs1.out, by have := hs2.out; omega⟩)
                  rw [hw2]
                  refine ⟨trivial, rfl, ?_⟩
                  refine (fit_wide (hMk.out _)).mono ?_
                  rintro e w3' ⟨rfl, rfl⟩
                  rw [hw3]
                  gi_wp2
                  clear hw2 hw3 hs2 b13 b23 b33 bel2 bel3 hQ2 h82 h92 h81 h91 c8 c9
                  refine range_gives (gf := 36) rfl enters_meet (hG w1.heap.size _ _ _) hM (fun V V' _ hk h => h.kp hk) (fun _ => rfl)
                    (fun k V => ∃ a : Nat, Blk V w1.heap.size 23 [.int .u64 (a : Int)] ∧ Hid (RG.gp st sz lo X = RG.gp st sz a (X.drop k) ∧ a ≤ 140737490452480) ∧ Blk V w.heap.size 23 [.int .u64 SZ] ∧ Blk V (w.heap.size + 1) 23 [.int .u64 4096] ∧ Below w.heap.size w V)
                    (fun c k V => c = .exit 1 ∧ ∃ a : Nat, Blk V w1.heap.size 23 [.int .u64 (a : Int)] ∧ Hid (RG.gp st sz lo X = a ∧ a ≤ 140737490452480) ∧ Blk V w.heap.size 23 [.int .u64 SZ] ∧ Blk V (w.heap.size + 1) 23 [.int .u64 4096] ∧ Below w.heap.size w V)
                    (fun k V V' row ⟨a, h1, h2, h3, h4, h5⟩ hg hr => ⟨a, h1.own2 hg (by have := hord.out; omega) hr, h2, h3.own2 hg (by have := hord.out; omega) hr, h4.own2 hg (by have := hord.out; omega) hr, Below.own2 h5 hg (Nat.le_refl _) (by have := hord.out; omega) hr⟩)
                    (fun c k V V' row ⟨h0, a, h1, h2, h3, h4, h5⟩ hg hr => ⟨h0, a, h1.own2 hg (by have := hord.out; omega) hr, h2, h3.own2 hg (by have := hord.out; omega) hr, h4.own2 hg (by have := hord.out; omega) hr, Below.own2 h5 hg (Nat.le_refl _) (by have := hord.out; omega) hr⟩)
                    (fun k V ⟨a, h1, h2⟩ => rw_blk h1 rfl) (fun c k V ⟨h0, a, h1, h2⟩ => rw_blk h1 rfl) ⟨lo, hQ3, W_hid ⟨rfl, by have := hlob.out; omega⟩, h83, h93, hB3⟩
                    (fun m' x a' V => ∃ bx, m' ≤ bx ∧ RB V bx x ∧ GapAct w.heap.size (w.heap.size + 1) w1.heap.size bx x a')
                    (fun m' x a' _ V V' row h hg hr => by
                      obtain ⟨bx, h1, h3, h5⟩ := h
                      exact ⟨bx, h1, Blk.own' h3 hg (fun r e => (hr r e).2), h5⟩)
                    ?assign ?body ?done ?stop
                  case assign =>
                    rintro lq k ⟨f, t, p, s⟩ V K hsz ⟨a, hQ, hga, h8, h9, hB⟩ hK
                    have hkp := (Kp.refl w1.heap.size V).alloc hQ.lt (.cells #[.int .u64 (f : Int), .int .u64 (t : Int), .int .i64 p, .int .i64 s] 25)
                    have hKn := fun a' ha' => hK a' _ hkp ⟨a, hQ.alloc _, hga, h8.alloc _, h9.alloc _, hB.alloc hB.size _⟩ ⟨V.heap.size, Nat.le_refl _, Blk.new _ _ _ rfl, ha'⟩
                    replace hKn := W_hid hKn
                    simp only [ra]
                    gi_wp2
                    exact hKn.out _ ⟨_, _, _, _, _, _, _, _, _, _, _, _, _, _, _, _, _, _, _, _, _, _, _, _, _, _, _, _, _, _, _, _, _, _, _, _, _, _, _, _, _, _, _, _, _, _, _, _, _, _, _, _, _, _, _, _, _, _, _, _, _, _, _, _, _, _, rfl⟩
                  case body =>
                    rintro lq k x a' m' V hx hm hmV ⟨a, hQ, hga, h8, h9, hB⟩ ⟨bx, hbx, hX, hact⟩
                    have hkl : k < X.length := (List.getElem?_eq_some_iff.1 hx).1
                    have hdrop : X.drop k = x :: X.drop (k + 1) := by
                      rw [List.drop_eq_getElem_cons hkl, (List.getElem?_eq_some_iff.1 hx).2]
                    have hgx : RG.good x := hgood.out x (List.mem_of_getElem? hx)
                    have hgp := hga.out.1
                    rw [hdrop] at hgp
                    simp only [RG.gp] at hgp
                    have ho := hord.out
                    refine wpIn_mono (gap_round _ (by kernel_rfl) lq m' w1.heap.size a sz st w.heap.size (w.heap.size + 1) bx V x a' hact hQ (by have e := hSZ.out; rw [← e]; exact h8) (by have e := hST.out; rw [← e]; exact h9) hX hmV (by have := hga.out.2; omega) hgx hst hst2) ?_
                    rintro e a3 W3 hp
                    cases e with
                    | normal =>
                      obtain ⟨nf, hkq, hQ'⟩ := hp
                      rw [if_neg nf] at hgp
                      have hro : rowOf V w1.heap.size = none := rowOf_blk hQ
                      refine ⟨hkq, RG.up x.t st, hQ', W_hid ⟨hgp, ?_⟩, (hkq.block _ (by omega) (by omega) (by rw [hro]; simp)).trans h8, (hkq.block _ (by omega) (by omega) (by rw [hro]; simp)).trans h9, hB.trans ⟨hkq.os, hkq.tape, hkq.output, hkq.size, fun i hi => hkq.block i (by omega) (by omega) (by rw [hro]; simp)⟩⟩
                      have h1 := hgx.1.2.2.2
                      rw [RG.up_eq hst]
                      split <;> omega
                    | exit id =>
                      obtain ⟨rfl, hf, rfl⟩ := hp
                      rw [if_pos hf] at hgp
                      exact ⟨KeepsFrom.refl _ _, rfl, a, hQ, W_hid ⟨hgp, hga.out.2⟩, h8, h9, hB⟩
                    | ret => exact hp.elim
                    | goto t => exact hp.elim
                    | panic c => exact hp.elim
                    | outgrown => exact hp.elim
                  case done =>
                    rintro D V hD ⟨a, hQ, hga0, h8, h9, hB⟩ hkp hK
                    have ha9 := hga0.out.2
                    have hga : Hid (RG.gp st sz lo X = a) := by
                      have := hga0.out.1
                      rw [List.drop_length] at this
                      exact this
                    have hDw : Hid (w.heap.size ≤ D) := by show _ ≤ _; have := hord.out; omega
                    have c8 := h8.cell (j := 0) rfl
                    have c9 := h9.cell (j := 0) rfl
                    have cq := hQ.cell (j := 0) rfl
                    have fq := hQ.fz 0
                    have hfit := W_hid (fun w => fits_any a hi sz w (by omega) hhi)
                    rw [← hHI.out, ← hSZ.out] at hfit
                    have hqv := W_hid (show RG.gq sz hi a = if RG.fits a hi sz then some a else none from rfl)
                    by_cases hff : RG.fits a hi sz
                    · rw [decide_eq_true hff] at hfit
                      rw [if_pos hff] at hqv
                      have hv : Hid (VV = a ∧ EE = 0) := by
                        show _ ∧ _
                        rw [← hVV.out, ← hEE.out, hga.out, hqv.out]; exact ⟨rfl, rfl⟩
                      clear hff hqv
                      gi_wp2
                      refine ⟨trivial, rfl, ?_⟩
                      refine (fit_wide (hfit.out _)).mono ?_
                      rintro e w5 ⟨rfl, rfl⟩
                      gi_wp2
                      refine ⟨by simp, .inl ⟨_, _, rfl, run_takeDeferred hK, ?_⟩⟩
                      exact ⟨_, results_tmp2 rfl _ _ _, by rw [hv.out.1, hv.out.2]; rfl, Below.putD hB hDw.out hK⟩
                    · rw [decide_eq_false hff] at hfit
                      rw [if_neg hff] at hqv
                      have hv : Hid (VV = 0 ∧ EE = 24) := by
                        show _ ∧ _
                        rw [← hVV.out, ← hEE.out, hga.out, hqv.out]; exact ⟨rfl, rfl⟩
                      clear hff hqv
                      gi_wp2
                      refine ⟨trivial, rfl, ?_⟩
                      refine (fit_wide (hfit.out _)).mono ?_
                      rintro e w5 ⟨rfl, rfl⟩
                      gi_wp2
                      refine ⟨by simp, .inl ⟨_, _, rfl, run_takeDeferred hK, ?_⟩⟩
                      exact ⟨_, results_tmp2 rfl _ _ _, by rw [hv.out.1, hv.out.2]; rfl, Below.putD hB hDw.out hK⟩
                  case stop =>
                    rintro D c k V hD hlt ⟨rfl, a, hQ, hga0, h8, h9, hB⟩ hK
                    have ha9 := hga0.out.2
                    have hga : Hid (RG.gp st sz lo X = a) := hga0.out.1
                    have hDw : Hid (w.heap.size ≤ D) := by show _ ≤ _; have := hord.out; omega
                    have c8 := h8.cell (j := 0) rfl
                    have c9 := h9.cell (j := 0) rfl
                    have cq := hQ.cell (j := 0) rfl
                    have fq := hQ.fz 0
                    have hfit := W_hid (fun w => fits_any a hi sz w (by omega) hhi)
                    rw [← hHI.out, ← hSZ.out] at hfit
                    have hqv := W_hid (show RG.gq sz hi a = if RG.fits a hi sz then some a else none from rfl)
                    by_cases hff : RG.fits a hi sz
                    · rw [decide_eq_true hff] at hfit
                      rw [if_pos hff] at hqv
                      have hv : Hid (VV = a ∧ EE = 0) := by
                        show _ ∧ _
                        rw [← hVV.out, ← hEE.out, hga.out, hqv.out]; exact ⟨rfl, rfl⟩
                      clear hff hqv
                      gi_wp2
                      refine ⟨trivial, rfl, ?_⟩
                      refine (fit_wide (hfit.out _)).mono ?_
                      rintro e w5 ⟨rfl, rfl⟩
                      gi_wp2
                      refine ⟨by simp, .inl ⟨_, _, rfl, run_takeDeferred hK, ?_⟩⟩
                      exact ⟨_, results_tmp2 rfl _ _ _, by rw [hv.out.1, hv.out.2]; rfl, Below.putD hB hDw.out hK⟩
                    · rw [decide_eq_false hff] at hfit
                      rw [if_neg hff] at hqv
                      have hv : Hid (VV = 0 ∧ EE = 24) := by
                        show _ ∧ _
                        rw [← hVV.out, ← hEE.out, hga.out, hqv.out]; exact ⟨rfl, rfl⟩
                      clear hff hqv
                      gi_wp2
                      refine ⟨trivial, rfl, ?_⟩
                      refine (fit_wide (hfit.out _)).mono ?_
                      rintro e w5 ⟨rfl, rfl⟩
                      gi_wp2
                      refine ⟨by simp, .inl ⟨_, _, rfl, run_takeDeferred hK, ?_⟩⟩
                      exact ⟨_, results_tmp2 rfl _ _ _, by rw [hv.out.1, hv.out.2]; rfl, Below.putD hB hDw.out hK⟩
                · refine callsIn_of_wp_marks Try.func15 rfl trivial ?_ rfl
                  simp only [Try.ntmps15, List.size_toArray, List.length_cons, List.length_nil, Nat.reduceAdd, Nat.reduceSub, Array.replicate_succ, Array.replicate_zero, List.push_toArray, List.append_toArray, List.nil_append, List.cons_append]
                  gi_wp2
                  refine ⟨trivial, rfl, ?_⟩
                  refine (fit_wide hV.out).mono ?_
                  rintro e w1 ⟨rfl, bel1⟩
                  have h81 := h80.keep bel1
                  have h91 := h90.keep bel1
                  have c8 := h81.cell (j := 0) rfl
                  have c9 := h91.cell (j := 0) rfl
                  replace hL := W_hid (hL.out.keep bel1)
                  replace bb := bb.trans (bel1.mono bb.size)
                  have hs1 := W_hid (Nat.le_trans (Nat.le_of_eq hs0.out.symm) bel1.size)
                  clear bel1 hw0 h80 h90
                  gi_wp2
                  have hQ2 : Blk (w1.alloc (.cells #[.int .u64 LO] 23)) w1.heap.size 23 [.int .u64 (lo : Int)] := by rw [hLO.out]; exact Blk.new _ _ [.int .u64 (lo : Int)] rfl
                  obtain ⟨w2, hw2⟩ : ∃ w2, w1.alloc (.cells #[.int .u64 LO] 23) = w2 := ⟨_, rfl⟩
                  have bel2 : Below w1.heap.size w1 w2 := by rw [← hw2]; exact (Below.refl _ _).alloc (Nat.le_refl _) _
                  have hs2 : Hid (w2.heap.size = w1.heap.size + 1) := by show _ = _; rw [← hw2]; simp
                  rw [hw2] at hQ2
                  have h82 := h81.keep bel2
                  have h92 := h91.keep bel2
                  replace hL := W_hid (hL.out.keep bel2)
                  have hm2 := hml.out _ hL.out
                  obtain ⟨w3, hw3⟩ : ∃ w3, ((w2.alloc (.cells #[.slice ao n cap] 22)).alloc (.cells #[.int .u64 LO] 23)).alloc (.cells #[.int .u64 HI] 23) = w3 := ⟨_, rfl⟩
                  have bel3 : Below w2.heap.size w2 w3 := by rw [← hw3]; exact (((Below.refl _ _).alloc (Nat.le_refl _) _).alloc (by simp) _).alloc (by simp; omega) _
                  rw [hw3] at hm2
                  have h83 := h82.keep bel3
                  have h93 := h92.keep bel3
                  have hQ3 := hQ2.keep bel3
                  have b13 := bb.size
                  have b23 := bel2.size
                  have b33 := bel3.size
                  have hB3 : Below w.heap.size w w3 := (bb.trans (bel2.mono bb.size)).trans (bel3.mono (by omega))
                  have hM := hm2.ma (q := w1.heap.size) (by have := hs2.out; omega) (by have := hs2.out; omega) (by have := hs2.out; omega) (fun a e e' => by have := hblk.out a e e'; omega) (rowOf_blk hQ3)
                  have hord := W_hid (show w.heap.size + 2 ≤ w1.heap.size ∧ w1.heap.size + 1 ≤ w3.heap.size from ⟨hs1.out, by have := hs2.out; omega⟩)
                  rw [hw2]
                  refine ⟨trivial, rfl, ?_⟩
                  refine (fit_wide (hMk.out _)).mono ?_
                  rintro e w3' ⟨rfl, rfl⟩
                  rw [hw3]
                  gi_wp2
                  clear hw2 hw3 hs2 b13 b23 b33 bel2 bel3 hQ2 h82 h92 h81 h91 c8 c9
                  refine range_gives (gf := 36) rfl enters_meet (hG w1.heap.size _ _ _) hM (fun V V' _ hk h => h.kp hk) (fun _ => rfl)
                    (fun k V => ∃ a : Nat, Blk V w1.heap.size 23 [.int .u64 (a : Int)] ∧ Hid (RG.gp st sz lo X = RG.gp st sz a (X.drop k) ∧ a ≤ 140737490452480) ∧ Blk V w.heap.size 23 [.int .u64 SZ] ∧ Blk V (w.heap.size + 1) 23 [.int .u64 2097152] ∧ Below w.heap.size w V)
                    (fun c k V => c = .exit 1 ∧ ∃ a : Nat, Blk V w1.heap.size 23 [.int .u64 (a : Int)] ∧ Hid (RG.gp st sz lo X = a ∧ a ≤ 140737490452480) ∧ Blk V w.heap.size 23 [.int .u64 SZ] ∧ Blk V (w.heap.size + 1) 23 [.int .u64 2097152] ∧ Below w.heap.size w V)
                    (fun k V V' row ⟨a, h1, h2, h3, h4, h5⟩ hg hr => ⟨a, h1.own2 hg (by have := hord.out; omega) hr, h2, h3.own2 hg (by have := hord.out; omega) hr, h4.own2 hg (by have := hord.out; omega) hr, Below.own2 h5 hg (Nat.le_refl _) (by have := hord.out; omega) hr⟩)
                    (fun c k V V' row ⟨h0, a, h1, h2, h3, h4, h5⟩ hg hr => ⟨h0, a, h1.own2 hg (by have := hord.out; omega) hr, h2, h3.own2 hg (by have := hord.out; omega) hr, h4.own2 hg (by have := hord.out; omega) hr, Below.own2 h5 hg (Nat.le_refl _) (by have := hord.out; omega) hr⟩)
                    (fun k V ⟨a, h1, h2⟩ => rw_blk h1 rfl) (fun c k V ⟨h0, a, h1, h2⟩ => rw_blk h1 rfl) ⟨lo, hQ3, W_hid ⟨rfl, by have := hlob.out; omega⟩, h83, h93, hB3⟩
                    (fun m' x a' V => ∃ bx, m' ≤ bx ∧ RB V bx x ∧ GapAct w.heap.size (w.heap.size + 1) w1.heap.size bx x a')
                    (fun m' x a' _ V V' row h hg hr => by
                      obtain ⟨bx, h1, h3, h5⟩ := h
                      exact ⟨bx, h1, Blk.own' h3 hg (fun r e => (hr r e).2), h5⟩)
                    ?assign ?body ?done ?stop
                  case assign =>
                    rintro lq k ⟨f, t, p, s⟩ V K hsz ⟨a, hQ, hga, h8, h9, hB⟩ hK
                    have hkp := (Kp.refl w1.heap.size V).alloc hQ.lt (.cells #[.int .u64 (f : Int), .int .u64 (t : Int), .int .i64 p, .int .i64 s] 25)
                    have hKn := fun a' ha' => hK a' _ hkp ⟨a, hQ.alloc _, hga, h8.alloc _, h9.alloc _, hB.alloc hB.size _⟩ ⟨V.heap.size, Nat.le_refl _, Blk.new _ _ _ rfl, ha'⟩
                    replace hKn := W_hid hKn
                    simp only [ra]
                    gi_wp2
                    exact hKn.out _ ⟨_, _, _, _, _, _, _, _, _, _, _, _, _, _, _, _, _, _, _, _, _, _, _, _, _, _, _, _, _, _, _, _, _, _, _, _, _, _, _, _, _, _, _, _, _, _, _, _, _, _, _, _, _, _, _, _, _, _, _, _, _, _, _, _, _, _, rfl⟩
                  case body =>
                    rintro lq k x a' m' V hx hm hmV ⟨a, hQ, hga, h8, h9, hB⟩ ⟨bx, hbx, hX, hact⟩
                    have hkl : k < X.length := (List.getElem?_eq_some_iff.1 hx).1
                    have hdrop : X.drop k = x :: X.drop (k + 1) := by
                      rw [List.drop_eq_getElem_cons hkl, (List.getElem?_eq_some_iff.1 hx).2]
                    have hgx : RG.good x := hgood.out x (List.mem_of_getElem? hx)
                    have hgp := hga.out.1
                    rw [hdrop] at hgp
                    simp only [RG.gp] at hgp
                    have ho := hord.out
                    refine wpIn_mono (gap_round _ (by kernel_rfl) lq m' w1.heap.size a sz st w.heap.size (w.heap.size + 1) bx V x a' hact hQ (by have e := hSZ.out; rw [← e]; exact h8) (by have e := hST.out; rw [← e]; exact h9) hX hmV (by have := hga.out.2; omega) hgx hst hst2) ?_
                    rintro e a3 W3 hp
                    cases e with
                    | normal =>
                      obtain ⟨nf, hkq, hQ'⟩ := hp
                      rw [if_neg nf] at hgp
                      have hro : rowOf V w1.heap.size = none := rowOf_blk hQ
                      refine ⟨hkq, RG.up x.t st, hQ', W_hid ⟨hgp, ?_⟩, (hkq.block _ (by omega) (by omega) (by rw [hro]; simp)).trans h8, (hkq.block _ (by omega) (by omega) (by rw [hro]; simp)).trans h9, hB.trans ⟨hkq.os, hkq.tape, hkq.output, hkq.size, fun i hi => hkq.block i (by omega) (by omega) (by rw [hro]; simp)⟩⟩
                      have h1 := hgx.1.2.2.2
                      rw [RG.up_eq hst]
                      split <;> omega
                    | exit id =>
                      obtain ⟨rfl, hf, rfl⟩ := hp
                      rw [if_pos hf] at hgp
                      exact ⟨KeepsFrom.refl _ _, rfl, a, hQ, W_hid ⟨hgp, hga.out.2⟩, h8, h9, hB⟩
                    | ret => exact hp.elim
                    | goto t => exact hp.elim
                    | panic c => exact hp.elim
                    | outgrown => exact hp.elim
                  case done =>
                    rintro D V hD ⟨a, hQ, hga0, h8, h9, hB⟩ hkp hK
                    have ha9 := hga0.out.2
                    have hga : Hid (RG.gp st sz lo X = a) := by
                      have := hga0.out.1
                      rw [List.drop_length] at this
                      exact this
                    have hDw : Hid (w.heap.size ≤ D) := by show _ ≤ _; have := hord.out; omega
                    have c8 := h8.cell (j := 0) rfl
                    have c9 := h9.cell (j := 0) rfl
                    have cq := hQ.cell (j := 0) rfl
                    have fq := hQ.fz 0
                    have hfit := W_hid (fun w => fits_any a hi sz w (by omega) hhi)
                    rw [← hHI.out, ← hSZ.out] at hfit
                    have hqv := W_hid (show RG.gq sz hi a = if RG.fits a hi sz then some a else none from rfl)
                    by_cases hff : RG.fits a hi sz
                    · rw [decide_eq_true hff] at hfit
                      rw [if_pos hff] at hqv
                      have hv : Hid (VV = a ∧ EE = 0) := by
                        show _ ∧ _
                        rw [← hVV.out, ← hEE.out, hga.out, hqv.out]; exact ⟨rfl, rfl⟩
                      clear hff hqv
                      gi_wp2
                      refine ⟨trivial, rfl, ?_⟩
                      refine (fit_wide (hfit.out _)).mono ?_
                      rintro e w5 ⟨rfl, rfl⟩
                      gi_wp2
                      refine ⟨by simp, .inl ⟨_, _, rfl, run_takeDeferred hK, ?_⟩⟩
                      exact ⟨_, results_tmp2 rfl _ _ _, by rw [hv.out.1, hv.out.2]; rfl, Below.putD hB hDw.out hK⟩
                    · rw [decide_eq_false hff] at hfit
                      rw [if_neg hff] at hqv
                      have hv : Hid (VV = 0 ∧ EE = 24) := by
                        show _ ∧ _
                        rw [← hVV.out, ← hEE.out, hga.out, hqv.out]; exact ⟨rfl, rfl⟩
                      clear hff hqv
                      gi_wp2
                      refine ⟨trivial, rfl, ?_⟩
                      refine (fit_wide (hfit.out _)).mono ?_
                      rintro e w5 ⟨rfl, rfl⟩
                      gi_wp2
                      refine ⟨by simp, .inl ⟨_, _, rfl, run_takeDeferred hK, ?_⟩⟩
                      exact ⟨_, results_tmp2 rfl _ _ _, by rw [hv.out.1, hv.out.2]; rfl, Below.putD hB hDw.out hK⟩
                  case stop =>
                    rintro D c k V hD hlt ⟨rfl, a, hQ, hga0, h8, h9, hB⟩ hK
                    have ha9 := hga0.out.2
                    have hga : Hid (RG.gp st sz lo X = a) := hga0.out.1
                    have hDw : Hid (w.heap.size ≤ D) := by show _ ≤ _; have := hord.out; omega
                    have c8 := h8.cell (j := 0) rfl
                    have c9 := h9.cell (j := 0) rfl
                    have cq := hQ.cell (j := 0) rfl
                    have fq := hQ.fz 0
                    have hfit := W_hid (fun w => fits_any a hi sz w (by omega) hhi)
                    rw [← hHI.out, ← hSZ.out] at hfit
                    have hqv := W_hid (show RG.gq sz hi a = if RG.fits a hi sz then some a else none from rfl)
                    by_cases hff : RG.fits a hi sz
                    · rw [decide_eq_true hff] at hfit
                      rw [if_pos hff] at hqv
                      have hv : Hid (VV = a ∧ EE = 0) := by
                        show _ ∧ _
                        rw [← hVV.out, ← hEE.out, hga.out, hqv.out]; exact ⟨rfl, rfl⟩
                      clear hff hqv
                      gi_wp2
                      refine ⟨trivial, rfl, ?_⟩
                      refine (fit_wide (hfit.out _)).mono ?_
                      rintro e w5 ⟨rfl, rfl⟩
                      gi_wp2
                      refine ⟨by simp, .inl ⟨_, _, rfl, run_takeDeferred hK, ?_⟩⟩
                      exact ⟨_, results_tmp2 rfl _ _ _, by rw [hv.out.1, hv.out.2]; rfl, Below.putD hB hDw.out hK⟩
                    · rw [decide_eq_false hff] at hfit
                      rw [if_neg hff] at hqv
                      have hv : Hid (VV = 0 ∧ EE = 24) := by
                        show _ ∧ _
                        rw [← hVV.out, ← hEE.out, hga.out, hqv.out]; exact ⟨rfl, rfl⟩
                      clear hff hqv
                      gi_wp2
                      refine ⟨trivial, rfl, ?_⟩
                      refine (fit_wide (hfit.out _)).mono ?_
                      rintro e w5 ⟨rfl, rfl⟩
                      gi_wp2
                      refine ⟨by simp, .inl ⟨_, _, rfl, run_takeDeferred hK, ?_⟩⟩
                      exact ⟨_, results_tmp2 rfl _ _ _, by rw [hv.out.1, hv.out.2]; rfl, Below.putD hB hDw.out hK⟩
        · have hE : Hid (gpE l lo hi sz st = 2 ∧ gpV l lo hi sz st = 0) := by
            show _ ∧ _
            unfold gpE gpV
            rw [if_neg (fun h => h2 (hk'.out.2 h.2.2.2.1)), if_neg (fun h => h2 (hk'.out.2 h.2.2.2.1))]
            exact ⟨rfl, rfl⟩
          rw [hE.out.1, hE.out.2]
          have g2 : (k == 0) = false := by simpa using h2
          have g2x : (k != 0) = true := by simpa using h2
          rcases hr.out with rfl | rfl
          · refine callsIn_of_wp_marks Try.func15 rfl trivial ?_ rfl
            simp only [Try.ntmps15, List.size_toArray, List.length_cons, List.length_nil, Nat.reduceAdd, Nat.reduceSub, Array.replicate_succ, Array.replicate_zero, List.push_toArray, List.append_toArray, List.nil_append, List.cons_append]
            gi_wp2
            refine ⟨trivial, rfl, ?_⟩
            refine (fit_wide hV.out).mono ?_
            rintro e w1 ⟨rfl, bel1⟩
            have h81 := h80.keep bel1
            have h91 := h90.keep bel1
            have c8 := h81.cell (j := 0) rfl
            have c9 := h91.cell (j := 0) rfl
            replace hL := W_hid (hL.out.keep bel1)
            replace bb := bb.trans (bel1.mono bb.size)
            have hs1 := W_hid (Nat.le_trans (Nat.le_of_eq hs0.out.symm) bel1.size)
            clear bel1 hw0 h80 h90
            gi_wp2
            exact ⟨_, results_tmp2 rfl _ _ _, rfl, bb⟩
          · refine callsIn_of_wp_marks Try.func15 rfl trivial ?_ rfl
            simp only [Try.ntmps15, List.size_toArray, List.length_cons, List.length_nil, Nat.reduceAdd, Nat.reduceSub, Array.replicate_succ, Array.replicate_zero, List.push_toArray, List.append_toArray, List.nil_append, List.cons_append]
            gi_wp2
            refine ⟨trivial, rfl, ?_⟩
            refine (fit_wide hV.out).mono ?_
            rintro e w1 ⟨rfl, bel1⟩
            have h81 := h80.keep bel1
            have h91 := h90.keep bel1
            have c8 := h81.cell (j := 0) rfl
            have c9 := h91.cell (j := 0) rfl
            replace hL := W_hid (hL.out.keep bel1)
            replace bb := bb.trans (bel1.mono bb.size)
            have hs1 := W_hid (Nat.le_trans (Nat.le_of_eq hs0.out.symm) bel1.size)
            clear bel1 hw0 h80 h90
            gi_wp2
            exact ⟨_, results_tmp2 rfl _ _ _, rfl, bb⟩
      · have hE : Hid (gpE l lo hi sz st = 2 ∧ gpV l lo hi sz st = 0) := by
          show _ ∧ _
          unfold gpE gpV
          rw [if_neg (fun h => h1 (hm'.out.2 h.2.2.1)), if_neg (fun h => h1 (hm'.out.2 h.2.2.1))]
          exact ⟨rfl, rfl⟩
        rw [hE.out.1, hE.out.2]
        have g1 : (m == 0) = false := by simpa using h1
        have g1x : (m != 0) = true := by simpa using h1
        rcases hr.out with rfl | rfl
        · refine callsIn_of_wp_marks Try.func15 rfl trivial ?_ rfl
          simp only [Try.ntmps15, List.size_toArray, List.length_cons, List.length_nil, Nat.reduceAdd, Nat.reduceSub, Array.replicate_succ, Array.replicate_zero, List.push_toArray, List.append_toArray, List.nil_append, List.cons_append]
          gi_wp2
          refine ⟨trivial, rfl, ?_⟩
          refine (fit_wide hV.out).mono ?_
          rintro e w1 ⟨rfl, bel1⟩
          have h81 := h80.keep bel1
          have h91 := h90.keep bel1
          have c8 := h81.cell (j := 0) rfl
          have c9 := h91.cell (j := 0) rfl
          replace hL := W_hid (hL.out.keep bel1)
          replace bb := bb.trans (bel1.mono bb.size)
          have hs1 := W_hid (Nat.le_trans (Nat.le_of_eq hs0.out.symm) bel1.size)
          clear bel1 hw0 h80 h90
          gi_wp2
          exact ⟨_, results_tmp2 rfl _ _ _, rfl, bb⟩
        · refine callsIn_of_wp_marks Try.func15 rfl trivial ?_ rfl
          simp only [Try.ntmps15, List.size_toArray, List.length_cons, List.length_nil, Nat.reduceAdd, Nat.reduceSub, Array.replicate_succ, Array.replicate_zero, List.push_toArray, List.append_toArray, List.nil_append, List.cons_append]
          gi_wp2
          refine ⟨trivial, rfl, ?_⟩
          refine (fit_wide hV.out).mono ?_
          rintro e w1 ⟨rfl, bel1⟩
          have h81 := h80.keep bel1
          have h91 := h90.keep bel1
          have c8 := h81.cell (j := 0) rfl
          have c9 := h91.cell (j := 0) rfl
          replace hL := W_hid (hL.out.keep bel1)
          replace bb := bb.trans (bel1.mono bb.size)
          have hs1 := W_hid (Nat.le_trans (Nat.le_of_eq hs0.out.symm) bel1.size)
          clear bel1 hw0 h80 h90
          gi_wp2
          exact ⟨_, results_tmp2 rfl _ _ _, rfl, bb⟩
    · have q1 : (ST == 4096) = false := by rw [hST.out]; simp; omega
      have q2 : (ST == 2097152) = false := by rw [hST.out]; simp; omega
      have q1x : (ST != 4096) = true := by simp [bne, q1]
      have q2x : (ST != 2097152) = true := by simp [bne, q2]
      have hs9 : Hid (¬ (st = 4096 ∨ st = 2097152)) := hs
      clear hs
      have hE : Hid (gpE l lo hi sz st = 2 ∧ gpV l lo hi sz st = 0) := by
        show _ ∧ _
        unfold gpE gpV
        rw [if_neg (fun h => hs9.out h.2.1), if_neg (fun h => hs9.out h.2.1)]
        exact ⟨rfl, rfl⟩
      rw [hE.out.1, hE.out.2]
      refine callsIn_of_wp_marks Try.func15 rfl trivial ?_ rfl
      simp only [Try.ntmps15, List.size_toArray, List.length_cons, List.length_nil, Nat.reduceAdd, Nat.reduceSub, Array.replicate_succ, Array.replicate_zero, List.push_toArray, List.append_toArray, List.nil_append, List.cons_append]
      gi_wp2
      refine ⟨trivial, rfl, ?_⟩
      refine (fit_wide hV.out).mono ?_
      rintro e w1 ⟨rfl, bel1⟩
      have h81 := h80.keep bel1
      have h91 := h90.keep bel1
      have c8 := h81.cell (j := 0) rfl
      have c9 := h91.cell (j := 0) rfl
      replace hL := W_hid (hL.out.keep bel1)
      replace bb := bb.trans (bel1.mono bb.size)
      have hs1 := W_hid (Nat.le_trans (Nat.le_of_eq hs0.out.symm) bel1.size)
      clear bel1 hw0 h80 h90
      gi_wp2
      exact ⟨_, results_tmp2 rfl _ _ _, rfl, bb⟩
  · rw [decide_eq_false hok] at hV
    replace hV := W_hid hV
    have hE : Hid (gpE l lo hi sz st = 2 ∧ gpV l lo hi sz st = 0) := by
      show _ ∧ _
      unfold gpE gpV
      rw [if_neg (fun h => hok h.1), if_neg (fun h => hok h.1)]
      exact ⟨rfl, rfl⟩
    rw [hE.out.1, hE.out.2]
    refine callsIn_of_wp_marks Try.func15 rfl trivial ?_ rfl
    simp only [Try.ntmps15, List.size_toArray, List.length_cons, List.length_nil, Nat.reduceAdd, Nat.reduceSub, Array.replicate_succ, Array.replicate_zero, List.push_toArray, List.append_toArray, List.nil_append, List.cons_append]
    gi_wp2
    refine ⟨trivial, rfl, ?_⟩
    refine (fit_wide hV.out).mono ?_
    rintro e w1 ⟨rfl, bel1⟩
    have h81 := h80.keep bel1
    have h91 := h90.keep bel1
    have c8 := h81.cell (j := 0) rfl
    have c9 := h91.cell (j := 0) rfl
    replace hL := W_hid (hL.out.keep bel1)
    replace bb := bb.trans (bel1.mono bb.size)
    have hs1 := W_hid (Nat.le_trans (Nat.le_of_eq hs0.out.symm) bel1.size)
    clear bel1 hw0 h80 h90
    gi_wp2
    exact ⟨_, results_tmp2 rfl _ _ _, rfl, bb⟩
end Go.Proofs.Ytfbhcnamkojboaa

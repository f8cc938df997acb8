/- The law's helpers: opened, shown. -/
import Derived.Test.YthiojnbnhagcgaaDoorRadNo
import Derived.Test.YthiojnbnhagcgaaDoorSortSmall
namespace Go.Proofs.YthiojnbnhagcgaaDoor
open Go.ChangeShapes Go.WideShapes Go.ChangeAt Go.RowKit
set_option linter.unusedVariables false
set_option linter.unusedSimpArgs false

theorem fresh_lt {n x : Nat} (h : x < n) : fresh n x = false := by
  unfold fresh FR.st
  simp
  omega
def T0 (n : Nat) : Nat → Bool := FR.st (fresh n) 0 1 true
theorem low_fresh (n : Nat) (h : 1 ≤ n) : FR.Low (fresh n) n 1 0 := by
  refine ⟨rfl, by omega, fun i hi => ?_, fun f' hf => by omega⟩
  exact fresh_lt (by omega)

set_option maxRecDepth 100000 in
set_option maxHeartbeats 2000000 in
theorem opened_any (n : Nat) (h1 : 1 ≤ n) (h2 : n ≤ 65536) (w : World) (hk : KT w) :
    Calls Tryd.prog 15 #[.int .i64 (n : Int)] w fun e w' => ∃ g pg pb b M, e = .returned (.tuple #[.pointer (some ⟨pg, 0, none⟩), .pointer (some ⟨g, 0, none⟩), .bool true]) ∧ w.heap.size ≤ g ∧ w.heap.size ≤ pg ∧ w.heap.size ≤ pb ∧ w.heap.size ≤ b ∧
      Full w' g pg pb n (words n) (T0 n) 0 b M (F0 0) G0 ∧ Below w.heap.size w w' := by
  have hP := W_hid (New_yes n h1 h2)
  have hN := W_hid (fun pg pb w hP hk q1 q2 => New_yesT pg pb n (words n) 0 (fresh n) w hP hk q1 q2 (low_fresh n h1))
  have hkl := hk.lt
  replace hk := W_hid hk
  have hne : ∀ g w, (binOp .neq 26 (.pointer (some ⟨g, 0, none⟩)) (.pointer none)).run Tryd.prog w = .ok (.bool true) w := fun g w => by kernel_rfl
  go_enter Tryd.func15, Tryd.ntmps15
  go_wp2_with fail
  refine (hP.out w).mono ?_
  rintro e w1 ⟨pg, rfl, hpg, hPL, bel1⟩
  have hc := W_hid (hN.out pg w.heap.size w1 hPL (hk.out.keep bel1) (by omega) (by omega))
  clear hPL hP hN
  go_wp2_with fail
  refine hc.out.mono ?_
  rintro e w2 ⟨g, b, M, rfl, hg, hb, hF, hB⟩
  have hres := W_hid (bel1.trans (hB.below (by simp; omega) bel1.size))
  have hs := bel1.size
  replace hF := W_hid hF
  clear hc hB bel1
  go_wp2
  go_ret3
  exact ⟨g, pg, w.heap.size, b, M, rfl, by omega, by omega, Nat.le_refl _, by omega, hF.out, hres.out⟩

theorem takes_shown : Takes (T0 8) 8 [1, 2, 3] := by
  have key : ∀ j, j < 3 → ([1, 2, 3] : List Nat).getD j 0 = j + 1 ∧ takeAll (T0 8) (([1, 2, 3] : List Nat).take j) (j + 1) = false ∧ ∀ f', f' < j + 1 → takeAll (T0 8) (([1, 2, 3] : List Nat).take j) f' = true := by decide
  intro j hj
  simp only [List.length_cons, List.length_nil] at hj
  obtain ⟨e, h1, h2⟩ := key j (by omega)
  have e' : ([1, 2, 3] : List Nat)[j] = j + 1 := by
    rw [← e, List.getD, List.getElem?_eq_getElem (by simpa using hj)]; rfl
  rw [e']
  refine ⟨Nat.mod_one _, by omega, fun i hi => ?_, fun f' hf _ h => ?_⟩
  · obtain rfl : i = 0 := by omega
    exact h1
  · have := h 0 (by omega)
    rw [Nat.add_zero, h2 f' hf] at this
    cases this

def FS : RX.Tabs := RX.addT (F0 0) 4096 4 [1, 2, 3]
def GS : RX.Pags := RX.updG G0 1 (4096 / EN.sz (1 - 1)) (some (9, 3))
theorem right_39 : EN.right false false 3 9 (lv false : Nat) := ⟨by decide, by decide, by decide, .inr ⟨rfl, .inr (.inl rfl), .inl ⟨rfl, rfl⟩⟩⟩
theorem mapR_shown : MapR (F0 0) G0 (T0 8) 8 4096 1 9 3 0 FS GS (takeAll (T0 8) [1, 2, 3]) := by
  refine .done 4 (fun k => if k = 4 then 0 else 0) ⟨⟨by omega, by omega, fun k h1 h2 => ?_, fun k hk => by rw [if_neg (by omega)]⟩, by omega, .inr ?_⟩ ?_ [1, 2, 3] rfl takes_shown
  · obtain rfl : k = 4 := by omega
    rfl
  · rfl
  · rfl
theorem fs_some {l j f : Nat} (h : FS l j = some f) : f < 4 := by
  simp only [FS, RX.addT, RX.updF, F0] at h
  repeat' (split at h)
  all_goals first
    | (simp only [Option.some.injEq] at h; omega)
    | (simp at h)
theorem fs_has (f : Nat) (h : f < 4) : ∃ l j, FS l j = some f := by
  have : f = 0 ∨ f = 1 ∨ f = 2 ∨ f = 3 := by omega
  rcases this with rfl | rfl | rfl | rfl
  · exact ⟨4, 0, by rfl⟩
  · exact ⟨3, 0, by rfl⟩
  · exact ⟨2, 0, by rfl⟩
  · exact ⟨1, 0, by rfl⟩
theorem nums_shown {M : Nat → Option (Nat → Nat)} (R : RX.Rep M FS GS) : (∃ f, M f ≠ none) ∧ ∀ ss, Nums M ss → ss.length = 4 := by
  have hi : ∀ f, M f ≠ none ↔ f < 4 := by
    intro f
    constructor
    · intro h
      apply Classical.byContradiction
      intro h4
      exact h (R.no (fun l j e => h4 (fs_some e)))
    · intro h
      obtain ⟨l, j, e⟩ := fs_has f h
      obtain ⟨ws, hM, -⟩ := R.yes e
      rw [hM]; simp
  refine ⟨⟨0, (hi 0).2 (by omega)⟩, fun ss h => ?_⟩
  have hp : ss.Perm (List.range 4) := (List.perm_ext_iff_of_nodup h.1 List.nodup_range).2 (fun f => by rw [h.2 f, hi f, List.mem_range])
  simpa using hp.length_eq

theorem walkA_shown : walkA GS 4100 1 = 36868 := by rfl
theorem walkC_shown : walkC GS 4100 1 = 0 := by rfl

set_option maxRecDepth 100000 in
set_option maxHeartbeats 2000000 in
theorem shown_any (w : World) (hk : KT w) : Calls Tryd.prog 4 #[] w fun e w' => e = .returned (.bool true) ∧ Below w.heap.size w w' := by
  have cO := opened_any 8 (by omega) (by omega) w hk
  have hMp := W_hid (fun g pg pb b M w (h : Full w g pg pb 8 (words 8) (T0 8) 0 b M (F0 0) G0) => Map_yes g pg pb 8 (words 8) 0 b 4096 9 false 3 0 (T0 8) _ M (F0 0) FS G0 GS w h (by omega) right_39 (by rfl) mapR_shown)
  have hWk := W_hid (fun g pg pb b M T w (h : Full w g pg pb 8 (words 8) T 0 b M FS GS) => Walk_yes g pg pb 8 (words 8) 0 b 4100 1 T M FS GS w h (by rfl))
  rw [walkA_shown, walkC_shown] at hWk
  have hTb := W_hid (fun g pg pb b M T w (h : Full w g pg pb 8 (words 8) T 0 b M FS GS) => Tables_any 12 sorts_small g pg 0 b M w h.tt.tm (fun ss hs => by have := (nums_shown h.rep).2 ss hs; omega) (nums_shown h.rep).1)
  clear hk
  go_enter Tryd.func4, Tryd.ntmps4
  go_wp2_with fail
  refine cO.mono ?_
  rintro e w1 ⟨g, pg, pb, b, M, rfl, hg, hpg, hpb, hb, hF, bel1⟩
  replace hMp := W_hid (hMp.out g pg pb b M w1 hF)
  clear cO hF
  go_wp2_with fail
  refine hMp.out.mono ?_
  rintro e w2 ⟨rfl, ⟨M2, hF2⟩, hB⟩
  have bel2 := bel1.trans (hB.below (by simp; omega) bel1.size)
  replace hWk := W_hid (hWk.out g pg pb b M2 _ w2 hF2)
  have HF2 := W_hid hF2
  clear hMp hB bel1 hF2
  go_wp2_with fail
  refine hWk.out.mono ?_
  rintro e w3 ⟨rfl, bel⟩
  have hF3 := HF2.out.keep bel
  have hres := bel2.trans (bel.mono bel2.size)
  have hn := (nums_shown hF3.rep).2
  replace hTb := W_hid (hTb.out g pg pb b M2 _ w3 hF3)
  clear HF2 hWk bel bel2 hF3
  go_wp2_with fail
  refine hTb.out.mono ?_
  rintro e w4 ⟨v, l, rfl, hN, hp, hl, belT⟩
  obtain ⟨x, cap, rest, rfl, h1, h2, h3⟩ := hl.ex
  rw [hn l hN]
  replace hres := W_hid (hres.trans (belT.mono hres.size))
  clear hTb hl hn hN hp belT h3
  go_wp2
  go_ret
  exact ⟨rfl, hres.out⟩
end Go.Proofs.YthiojnbnhagcgaaDoor

/- Contracts of the document's Unlink, Rmdir. -/
import Derived.Test.YtmnmheocmcmpmaaGreatZB07

namespace Go.Proofs.YtmnmheocmcmpmaaGreat
open Go.ChangeShapes Go.WideShapes Go.ChangeAt Go.RowKit
set_option linter.unusedVariables false
set_option linter.unusedSimpArgs false
namespace RN
open IN (Keeps)
open NT (Dr Ds er nu findR)
section
variable {base rt rg I B L c k : Nat} {S : Int → Option IN.Nd} {D : Ds} {κ : Int → Int} {w w' : World}
def RP (base rt rg I B L c : Nat) (S : Int → Option IN.Nd) (D : Ds) (w w' : World) : Prop := RW base rt rg I B L c S D (kap D) w' ∧ Keeps base UT w w'
theorem RW.same (h : RW base rt rg I B L c S D (kap D) w) (hb : Below w.heap.size w w') : RP base rt rg I B L (c + 2) S D w w' := ⟨(h.keep hb).more (by omega), Keeps.new hb h.low⟩
theorem pN_comp (s : ByteArray) : ∀ k ∈ PM.pN s, PM.comp k = true := fun k hk => by
  by_cases h : PM.perr s = 0
  · exact PM.valid_comp (PM.parse_valid h).1 k hk
  · have : PM.pN s = [] := by unfold PM.pN; rw [if_neg h]
    rw [this] at hk; cases hk
theorem fr_vac (D : Ds) (kind : Int) (s : ByteArray) : frA D (PM.pN s) kind (PM.pD s) = (match NT.vacant D kind s with
  | .error e => ((0, ⟨#[]⟩), e)
  | .ok p => ((p, NT.last (PM.pN s)), 0)) := rfl
set_option maxRecDepth 100000 in
set_option maxHeartbeats 8000000 in
theorem rMake_kind (s : ByteArray) (kind : Int) (w : World) (hk : ¬ (kind = 1 ∨ kind = 2)) :
    Calls Tryz.prog 61 #[.pointer (some ⟨rt, 0, none⟩), .string s, .int .i64 kind] w fun e w' => e = .returned (.tuple #[.int .i64 0, .int .i64 2]) ∧ Below w.heap.size w w' := by
  have h1 : ¬ kind = 1 := fun e => hk (.inl e)
  have h2 : ¬ kind = 2 := fun e => hk (.inr e)
  have h3 : (kind != 1) = true := by simp [h1]
  have h4 : (kind != 2) = true := by simp [h2]
  replace h1 := W_hid h1
  replace h2 := W_hid h2
  clear hk
  go_enter Tryz.func61, Tryz.ntmps61
  go_wp2_with fail
  go_ret2
  exact ⟨rfl, Below.refl _ _⟩
set_option maxRecDepth 100000 in
set_option maxHeartbeats 8000000 in
theorem rMake_parse (s : ByteArray) (hs : s.size ≤ maxLen) (kind : Int) (w : World) (hk : kind = 1 ∨ kind = 2) (hp : PM.perr s ≠ 0) :
    Calls Tryz.prog 61 #[.pointer (some ⟨rt, 0, none⟩), .string s, .int .i64 kind] w fun e w' => e = .returned (.tuple #[.int .i64 0, .int .i64 (PM.perr s)]) ∧ Below w.heap.size w w' := by
  have cP := fun w => W_hid (rparsed (w := w) hs)
  generalize PM.perr s = pe at cP hp ⊢
  generalize PM.pN s = ns at cP
  generalize PM.pD s = d at cP
  generalize PM.pA s = a at cP
  have hne : (pe != 0) = true := by simpa using hp
  replace hp := W_hid hp
  rcases hk with rfl | rfl <;>
  · go_enter Tryz.func61, Tryz.ntmps61
    go_wp2_with fail
    refine (cP _).out.mono ?_
    rintro e w2 ⟨ao, n, cap, rfl, hS, b2⟩
    have b3 := W_hid (b2.alloc b2.size (.cells #[.bool a, .slice ao n cap, .bool d] 136))
    clear b2 hS
    go_wp2_with fail
    go_ret2
    exact ⟨rfl, b3.out⟩
set_option maxRecDepth 100000 in
set_option maxHeartbeats 8000000 in
theorem rMake_vac (s : ByteArray) (hs : s.size ≤ maxLen) (kind : Int) (w : World) (h : RA base rt rg c D κ w) (hk : kind = 1 ∨ kind = 2) (hp : PM.perr s = 0) (e0 : Int) (hv : NT.vacant D kind s = .error e0) (he : e0 ≠ 0) :
    Calls Tryz.prog 61 #[.pointer (some ⟨rt, 0, none⟩), .string s, .int .i64 kind] w fun e w' => e = .returned (.tuple #[.int .i64 0, .int .i64 e0]) ∧ Below w.heap.size w w' := by
  have cP := fun w => W_hid (rparsed (w := w) hs)
  rw [hp] at cP
  have cF := W_hid (fun (ao : Option Addr) (n cap : Nat) (W : World) (hb : Below w.heap.size w W) (hl : SS W ao n cap (PM.pN s)) => free_d (PM.pA s) (PM.pD s) kind (PM.pN s) ao n cap W (h.keep hb) hl (by have := hl.1; have := pN_len s; omega) (pN_comp s))
  simp only [fr_vac, hv] at cF
  generalize PM.pN s = ns at cP cF
  generalize PM.pD s = d at cP cF
  generalize PM.pA s = a at cP cF
  have hne : (e0 != 0) = true := by simpa using he
  replace he := W_hid he
  clear h hv
  rcases hk with rfl | rfl <;>
  · go_enter Tryz.func61, Tryz.ntmps61
    go_wp2_with fail
    refine (cP _).out.mono ?_
    rintro e w2 ⟨ao, n, cap, rfl, hS, b2⟩
    have p2 : Blk (w2.alloc (.cells #[.bool a, .slice ao n cap, .bool d] 136)) w2.heap.size 136 [.bool a, .slice ao n cap, .bool d] := Blk.new _ _ _ rfl
    have b3 := b2.alloc b2.size (.cells #[.bool a, .slice ao n cap, .bool d] 136)
    have cF1 := W_hid (cF.out ao n cap _ b3 (hS.alloc _))
    have hR := W_hid (range_three (p2.cell (j := 0) rfl) (p2.cell (j := 1) rfl) (p2.cell (j := 2) rfl))
    have B3 := W_hid b3
    clear b2 b3 p2 hS cF
    go_wp2_with fail
    refine cF1.out.mono ?_
    rintro e w3 ⟨rfl, b4⟩
    have B4 := W_hid (B3.out.trans (b4.mono B3.out.size))
    clear b4 hR
    go_wp2_with fail
    go_ret2
    exact ⟨rfl, B4.out⟩
set_option maxRecDepth 100000 in
set_option maxHeartbeats 8000000 in
theorem rMake_full (s : ByteArray) (hs : s.size ≤ maxLen) (kind : Int) (w : World) (h : RW base rt rg I B L c S D (kap D) w) (hI : I ≤ 4096) (hk : kind = 1 ∨ kind = 2) (hp : PM.perr s = 0) (p : Int) (hv : NT.vacant D kind s = .ok p) (r : Int) (hr : IN.mkR I S kind = r) (hr0 : r ≠ 0) :
    Calls Tryz.prog 61 #[.pointer (some ⟨rt, 0, none⟩), .string s, .int .i64 kind] w fun e w' => e = .returned (.tuple #[.int .i64 0, .int .i64 r]) ∧ Below w.heap.size w w' := by
  have cP := fun w => W_hid (rparsed (w := w) hs)
  rw [hp] at cP
  have cF := W_hid (fun (ao : Option Addr) (n cap : Nat) (W : World) (hb : Below w.heap.size w W) (hl : SS W ao n cap (PM.pN s)) => free_d (PM.pA s) (PM.pD s) kind (PM.pN s) ao n cap W (h.ex.keep hb) hl (by have := hl.1; have := pN_len s; omega) (pN_comp s))
  simp only [fr_vac, hv] at cF
  have cM := W_hid (fun (W : World) (hb : Below w.heap.size w W) => IN.rMake_no kind W hI (h.keep hb).rs r hr hr0)
  have hpt := W_hid (fun (W : World) (hb : Below w.heap.size w W) => (h.keep hb).ptr.1)
  generalize NT.last (PM.pN s) = z at cF
  generalize PM.pN s = ns at cP cF
  generalize PM.pD s = d at cP cF
  generalize PM.pA s = a at cP cF
  have hne : (r != 0) = true := by simpa using hr0
  replace hr0 := W_hid hr0
  clear h hv hr
  rcases hk with rfl | rfl <;>
  · go_enter Tryz.func61, Tryz.ntmps61
    go_wp2_with fail
    refine (cP _).out.mono ?_
    rintro e w2 ⟨ao, n, cap, rfl, hS, b2⟩
    have p2 : Blk (w2.alloc (.cells #[.bool a, .slice ao n cap, .bool d] 136)) w2.heap.size 136 [.bool a, .slice ao n cap, .bool d] := Blk.new _ _ _ rfl
    have b3 := b2.alloc b2.size (.cells #[.bool a, .slice ao n cap, .bool d] 136)
    have cF1 := W_hid (cF.out ao n cap _ b3 (hS.alloc _))
    have hR := W_hid (range_three (p2.cell (j := 0) rfl) (p2.cell (j := 1) rfl) (p2.cell (j := 2) rfl))
    have B3 := W_hid b3
    clear b2 b3 p2 hS cF
    go_wp2_with fail
    refine cF1.out.mono ?_
    rintro e w3 ⟨rfl, b4⟩
    have B4 := W_hid (B3.out.trans (b4.mono B3.out.size))
    have cM1 := W_hid (cM.out _ B4.out)
    have t0 := hpt.out _ B4.out
    clear b4 hR
    go_wp2_with fail
    refine cM1.out.mono ?_
    rintro e w4 ⟨rfl, b5⟩
    have B5 := W_hid (B4.out.trans (b5.mono B4.out.size))
    clear b5 t0
    go_wp2_with fail
    go_ret2
    exact ⟨rfl, B5.out⟩
set_option maxRecDepth 100000 in
set_option maxHeartbeats 8000000 in
theorem rMake_file (s : ByteArray) (hs : s.size ≤ maxLen) (w : World) (h : RW base rt rg I B L c S D (kap D) w) (hI : I ≤ 4096) (hc : c < 65000) (hp : PM.perr s = 0) (p : Int) (hv : NT.vacant D 1 s = .ok p) (n : Nat) (hr : IN.mkR I S 1 = 0) (hlow : IN.Low S n) (hnI : n ≤ I) (hn : D (n : Int) = none) :
    Calls Tryz.prog 61 #[.pointer (some ⟨rt, 0, none⟩), .string s, .int .i64 1] w fun e w' => e = .returned (.tuple #[.int .i64 (n : Int), .int .i64 0]) ∧ RP base rt rg I B L (c + 2) (IN.upd S (n : Int) (some (IN.newNd 1))) (NT.mkD D p (NT.last (PM.pN s)) (n : Int) 1) w w' := by
  obtain ⟨⟨dp, hdp⟩, hat, -⟩ := NT.vac_ok hv
  have cP := fun w => W_hid (rparsed (w := w) hs)
  rw [hp] at cP
  have cF := W_hid (fun (ao : Option Addr) (n cap : Nat) (W : World) (hb : Below w.heap.size w W) (hl : SS W ao n cap (PM.pN s)) => free_d (PM.pA s) (PM.pD s) 1 (PM.pN s) ao n cap W (h.ex.keep hb) hl (by have := hl.1; have := pN_len s; omega) (pN_comp s))
  simp only [fr_vac, hv] at cF
  have hn1 := hlow.1
  have cM := W_hid (fun (W : World) (hb : Below w.heap.size w W) => make_d 1 n W (h.keep hb) hI hr hlow hnI)
  have cU := W_hid (fun (W : World) (h2 : RW base rt rg I B L c (IN.upd S (n : Int) (some (IN.newNd 1))) D (kap D) W) => put_d p (NT.last (PM.pN s)) (n : Int) 1 W h2 (by omega) hdp (NT.at_none hdp hat) (by omega) (by unfold kap; rw [if_pos hn]))
  have hkp : kap (NT.putD D p (NT.last (PM.pN s)) (n : Int)) = kap D := by
    funext j
    unfold kap NT.putD
    by_cases e : j = p
    · rw [if_pos e, hdp, e, hdp]; rfl
    · rw [if_neg e]
  rw [NT.mkD_file]
  have hfin := W_hid (fun (W : World) (h2 : RW base rt rg I B L (c + 1) (IN.upd S (n : Int) (some (IN.newNd 1))) (NT.putD D p (NT.last (PM.pN s)) (n : Int)) (kap D) W) (hK : Keeps base UT w W) => show RP base rt rg I B L (c + 2) (IN.upd S (n : Int) (some (IN.newNd 1))) (NT.putD D p (NT.last (PM.pN s)) (n : Int)) w W from ⟨by rw [hkp]; exact h2.more (by omega), hK⟩)
  have hpt := W_hid (fun (W : World) (hb : Below w.heap.size w W) => (h.keep hb).ptr.1)
  have hlw := W_hid h.low
  generalize NT.last (PM.pN s) = z at *
  generalize PM.pN s = ns at cP cF
  generalize PM.pD s = d at cP cF
  generalize PM.pA s = a at cP cF
  clear h hv hr hkp
  go_enter Tryz.func61, Tryz.ntmps61
  go_wp2_with fail
  refine (cP _).out.mono ?_
  rintro e w2 ⟨ao, N, cap, rfl, hS, b2⟩
  have p2 : Blk (w2.alloc (.cells #[.bool a, .slice ao N cap, .bool d] 136)) w2.heap.size 136 [.bool a, .slice ao N cap, .bool d] := Blk.new _ _ _ rfl
  have b3 := b2.alloc b2.size (.cells #[.bool a, .slice ao N cap, .bool d] 136)
  have cF1 := W_hid (cF.out ao N cap _ b3 (hS.alloc _))
  have hR := W_hid (range_three (p2.cell (j := 0) rfl) (p2.cell (j := 1) rfl) (p2.cell (j := 2) rfl))
  have B3 := W_hid b3
  clear b2 b3 p2 hS cF
  go_wp2_with fail
  refine cF1.out.mono ?_
  rintro e w3 ⟨rfl, b4⟩
  have B4 := W_hid (B3.out.trans (b4.mono B3.out.size))
  have cM1 := W_hid (cM.out _ B4.out)
  have t0 := hpt.out _ B4.out
  clear b4 hR
  go_wp2_with fail
  refine cM1.out.mono ?_
  rintro e w4 ⟨rfl, hR5, hK5⟩
  have cU1 := W_hid (cU.out _ hR5)
  have hK5 := W_hid ((Keeps.new B4.out hlw.out).trans hK5)
  clear hR5 t0
  go_wp2_with fail
  refine cU1.out.mono ?_
  rintro e w5 ⟨rfl, hR6, hK6⟩
  have hF := W_hid (hfin.out _ hR6 (hK5.out.trans hK6))
  clear hR6 hK6
  go_wp2_with fail
  go_ret2
  exact ⟨rfl, hF.out⟩
theorem drow_src (w : World) (a b : Int) : Own.Src (w.alloc (.cells #[.int .i64 a, .int .i64 b, .slice none 0 0] 115)) 3 (.slice (some ⟨w.heap.size, 0, none⟩) 1 1) 1 [.int .i64 a, .int .i64 b, .slice none 0 0] :=
  .inr ⟨_, _, rfl, rfl, fun i u hi => by
    have := (Blk.new w 115 [.int .i64 a, .int .i64 b, .slice none 0 0] rfl).cell hi
    rw [Addr.add_lit, Nat.zero_add]
    exact this⟩
theorem drow_one (a b : Int) : ∀ u ∈ [Value.int .i64 a, .int .i64 b, .slice none 0 0], u.oneCell' = true := by
  intro u hu
  simp only [List.mem_cons, List.not_mem_nil, or_false] at hu
  rcases hu with rfl | rfl | rfl <;> rfl
set_option maxRecDepth 100000 in
set_option maxHeartbeats 8000000 in
theorem rMake_dir (s : ByteArray) (hs : s.size ≤ maxLen) (w : World) (h : RW base rt rg I B L c S D (kap D) w) (hI : I ≤ 4096) (hc : c < 65000) (hp : PM.perr s = 0) (p : Int) (hv : NT.vacant D 2 s = .ok p) (n : Nat) (hr : IN.mkR I S 2 = 0) (hlow : IN.Low S n) (hnI : n ≤ I) (hn : D (n : Int) = none) (h1 : D 1 ≠ none)
    (hfree : ∀ m d k j, D m = some d → (k, j) ∈ d.l → j ≠ (n : Int)) :
    Calls Tryz.prog 61 #[.pointer (some ⟨rt, 0, none⟩), .string s, .int .i64 2] w fun e w' => e = .returned (.tuple #[.int .i64 (n : Int), .int .i64 0]) ∧ RP base rt rg I B L (c + 2) (IN.upd S (n : Int) (some (IN.newNd 2))) (NT.mkD D p (NT.last (PM.pN s)) (n : Int) 2) w w' := by
  obtain ⟨⟨dp, hdp⟩, hat, -⟩ := NT.vac_ok hv
  have hpn : p ≠ (n : Int) := fun e => by rw [e, hn] at hdp; cases hdp
  have cP := fun w => W_hid (rparsed (w := w) hs)
  rw [hp] at cP
  have cF := W_hid (fun (ao : Option Addr) (n cap : Nat) (W : World) (hb : Below w.heap.size w W) (hl : SS W ao n cap (PM.pN s)) => free_d (PM.pA s) (PM.pD s) 2 (PM.pN s) ao n cap W (h.ex.keep hb) hl (by have := hl.1; have := pN_len s; omega) (pN_comp s))
  simp only [fr_vac, hv] at cF
  have hn1 := hlow.1
  have hnz : (n : Int) ≠ 0 := by omega
  obtain ⟨D', hD'⟩ : ∃ D', NT.mkD D p (NT.last (PM.pN s)) (n : Int) 2 = D' := ⟨_, rfl⟩
  have hfinD : NT.upd (NT.putD D p (NT.last (PM.pN s)) (n : Int)) (n : Int) (some ⟨p, []⟩) = D' := by
    rw [← hD', NT.mkD_dir hpn]
    funext x
    by_cases e : x = (n : Int)
    · rw [e, NT.upd_at, NT.putD_ne (fun e2 => hpn e2.symm), NT.upd_at]
    · rw [NT.upd_ne e]
      by_cases e2 : x = p
      · rw [e2, NT.putD_at hdp, NT.putD_at (d := dp) (by rw [NT.upd_ne hpn]; exact hdp)]
      · rw [NT.putD_ne e2, NT.putD_ne e2, NT.upd_ne e]
  have hk1 : kap D' (n : Int) = 2 := by
    unfold kap
    rw [← hfinD, NT.upd_at, if_neg (by simp)]
  have hk2 : ∀ j, j ≠ (n : Int) → kap D j = kap D' j := fun j hj => by
    unfold kap
    rw [← hfinD, NT.upd_ne hj]
    unfold NT.putD
    by_cases e : j = p
    · rw [if_pos e, hdp, e, hdp]; rfl
    · rw [if_neg e]
  have h' := h.kinds (κ' := kap D') (fun m d k j hm hx => hk2 j (hfree m d k j hm hx))
  have cM := W_hid (fun (W : World) (hb : Below w.heap.size w W) => make_d 2 n W (h'.keep hb) hI hr hlow hnI)
  have cU := W_hid (fun (W : World) (h2 : RW base rt rg I B L c (IN.upd S (n : Int) (some (IN.newNd 2))) D (kap D') W) => put_d p (NT.last (PM.pN s)) (n : Int) 2 W h2 (by omega) hdp (NT.at_none hdp hat) hnz hk1.symm)
  have cR := W_hid (fun (W : World) (h2 : RW base rt rg I B L (c + 1) (IN.upd S (n : Int) (some (IN.newNd 2))) (NT.putD D p (NT.last (PM.pN s)) (n : Int)) (kap D') W) => h2.room (p := p) (by omega) (show NT.putD D p (NT.last (PM.pN s)) (n : Int) (n : Int) = none by rw [NT.putD_ne (fun e => hpn e.symm)]; exact hn) (show NT.putD D p (NT.last (PM.pN s)) (n : Int) 1 ≠ none by
    by_cases e : (1 : Int) = p
    · rw [e, NT.putD_at hdp]; simp
    · rw [NT.putD_ne e]; exact h1))
  simp only [hfinD] at cR
  have hpt := W_hid (fun (W : World) (hb : Below w.heap.size w W) => (h.keep hb).ptr.1)
  have hlw := W_hid h.low
  generalize NT.last (PM.pN s) = z at *
  generalize PM.pN s = ns at cP cF
  generalize PM.pD s = d at cP cF
  generalize PM.pA s = a at cP cF
  clear h h' hv hr hk1 hk2 hfinD hfree
  go_enter Tryz.func61, Tryz.ntmps61
  go_wp2_with fail
  refine (cP _).out.mono ?_
  rintro e w2 ⟨ao, N, cap, rfl, hS, b2⟩
  have p2 : Blk (w2.alloc (.cells #[.bool a, .slice ao N cap, .bool d] 136)) w2.heap.size 136 [.bool a, .slice ao N cap, .bool d] := Blk.new _ _ _ rfl
  have b3 := b2.alloc b2.size (.cells #[.bool a, .slice ao N cap, .bool d] 136)
  have cF1 := W_hid (cF.out ao N cap _ b3 (hS.alloc _))
  have hR := W_hid (range_three (p2.cell (j := 0) rfl) (p2.cell (j := 1) rfl) (p2.cell (j := 2) rfl))
  have B3 := W_hid b3
  clear b2 b3 p2 hS cF
  go_wp2_with fail
  refine cF1.out.mono ?_
  rintro e w3 ⟨rfl, b4⟩
  have B4 := W_hid (B3.out.trans (b4.mono B3.out.size))
  have cM1 := W_hid (cM.out _ B4.out)
  have t0 := hpt.out _ B4.out
  clear b4 hR
  go_wp2_with fail
  refine cM1.out.mono ?_
  rintro e w4 ⟨rfl, hR5, hK5⟩
  have cU1 := W_hid (cU.out _ hR5)
  have hK5 := W_hid ((Keeps.new B4.out hlw.out).trans hK5)
  clear hR5 t0
  go_wp2_with fail
  refine cU1.out.mono ?_
  rintro e w5 ⟨rfl, hR6, hK6⟩
  obtain ⟨g, N1, cap1, xs, c1, hN1, hN2, hbg, hown, hbx, hfin⟩ := cR.out _ hR6
  have ball := (Below.refl w5.heap.size w5).alloc (Nat.le_refl _) (.cells #[.int .i64 (n : Int), .int .i64 p, .slice none 0 0] 115)
  have own5 := W_hid (Own.below hown ball)
  have src5 := W_hid (drow_src w5 (n : Int) p)
  have ball := W_hid ball
  have hlow5 := hR6.low
  have hK6 := W_hid (hK5.out.trans hK6)
  have hfin := W_hid hfin
  replace hbx := W_hid hbx
  clear hR6 hown
  go_wp2_with (at_builtin; refine Own.wpList_app rfl (.tmp 63) (.tmp 67) 116 rfl Tryz.underlying116 info_dir (.slice (some ⟨g, 0, none⟩) N1 cap1) (.slice (some ⟨w5.heap.size, 0, none⟩) 1 1) rfl rfl own5.out (by simp; omega) src5.out (drow_one _ _) (by unfold maxLen; omega) (by omega) ?_; intro v3 w6 ho6 hg6 hob6; obtain ⟨a6, k6, rfl⟩ := Own.form ho6; have hB6 := hbx.out _ _ ball.out hg6; have c6 := hB6.cell (j := 1) rfl; have f6 := hB6.fz; have hF := W_hid (hfin.out _ _ _ ball.out hg6 ho6); clear ho6 hg6 hob6 hB6)
  go_wp2_with fail
  go_ret2
  exact ⟨rfl, by rw [hD']; exact hF.out.1, hK6.out.trans hF.out.2⟩
theorem TI_free {I c : Nat} {S : Int → Option IN.Nd} {D : Ds} (h : NT.TI I c NT.e0 S D) {n : Int} (hn : S n = none) : ∀ m d k j, D m = some d → (k, j) ∈ d.l → j ≠ n := fun m d k j hm hx e => by
  subst e
  refine h.has (n := m) (k := k) (j := j) ?_ hn
  unfold NT.at_
  rw [hm]
  exact NT.look_asc (h.asc m d hm).1 (k, j) hx
theorem rMake_all (s : ByteArray) (hs : s.size ≤ maxLen) (kind : Int) (w : World) (h : RW base rt rg I B L c S D (kap D) w) {ct : Nat} (hti : NT.TI I ct NT.e0 S D) (hI : I ≤ 4096) (hc : c < 65000) :
    Calls Tryz.prog 61 #[.pointer (some ⟨rt, 0, none⟩), .string s, .int .i64 kind] w fun e w' => e = .returned (.tuple #[.int .i64 (NT.mk I S D s kind).1.1, .int .i64 (NT.mk I S D s kind).1.2]) ∧ RP base rt rg I B L (c + 2) (NT.mk I S D s kind).2.1 (NT.mk I S D s kind).2.2 w w' := by
  unfold NT.mk
  by_cases hk : kind = 1 ∨ kind = 2
  · rw [if_pos hk]
    by_cases h0 : PM.perr s = 0
    · rw [if_neg (fun e => e h0)]
      cases hv : NT.vacant D kind s with
      | error e1 =>
        refine (rMake_vac s hs kind w h.ex hk h0 e1 hv (NT.vacant_er hv)).mono ?_
        rintro e w' ⟨rfl, hb⟩
        exact ⟨rfl, h.same hb⟩
      | ok p =>
        simp only
        by_cases hr : IN.mkR I S kind = 0
        · rw [if_neg (fun e => e hr)]
          obtain ⟨n, hnI, hlow⟩ := NT.mkR_low hk hr
          rw [NT.lowN_eq hlow]
          have hno := hti.noD hlow.2.1
          rcases hk with rfl | rfl
          · exact rMake_file s hs w h hI hc h0 p hv n hr hlow hnI hno
          · obtain ⟨d1, h1, -⟩ := hti.root
            exact rMake_dir s hs w h hI hc h0 p hv n hr hlow hnI hno (by rw [h1]; simp) (TI_free hti hlow.2.1)
        · rw [if_pos hr]
          refine (rMake_full s hs kind w h hI hk h0 p hv _ rfl hr).mono ?_
          rintro e w' ⟨rfl, hb⟩
          exact ⟨rfl, h.same hb⟩
    · rw [if_pos h0]
      refine (rMake_parse s hs kind w hk h0).mono ?_
      rintro e w' ⟨rfl, hb⟩
      exact ⟨rfl, h.same hb⟩
  · rw [if_neg hk]
    refine (rMake_kind s kind w hk).mono ?_
    rintro e w' ⟨rfl, hb⟩
    exact ⟨rfl, h.same hb⟩
end
end RN
namespace RN
open IN (Keeps)
open NT (Dr Ds er nu findR)
section
variable {base rt rg I B L c k : Nat} {S : Int → Option IN.Nd} {D : Ds} {κ : Int → Int} {w w' : World}
set_option maxRecDepth 100000 in
set_option maxHeartbeats 8000000 in
theorem rLink_A (s t : ByteArray) (hs : s.size ≤ maxLen) (ht : t.size ≤ maxLen) (w : World) (h0 : PM.perr s ≠ 0) :
    Calls Tryz.prog 62 #[.pointer (some ⟨rt, 0, none⟩), .string s, .string t] w fun e w' => e = .returned (.int .i64 (PM.perr s)) ∧ Below w.heap.size w w' := by
  have cP := fun w => W_hid (rparsed (w := w) hs)
  have cQ := fun w => W_hid (rparsed (w := w) ht)
  generalize PM.perr s = pe at *
  have hne : (pe != 0) = true := by simpa using h0
  replace h0 := W_hid h0
  generalize PM.pN s = n1 at cP
  generalize PM.pD s = d1 at cP
  generalize PM.pA s = a1 at cP
  generalize PM.pN t = n2 at *
  generalize PM.pD t = d2 at *
  generalize PM.pA t = a2 at *
  go_enter Tryz.func62, Tryz.ntmps62
  go_wp2_with fail
  refine (cP _).out.mono ?_
  rintro e w1 ⟨ao1, N1, cap1, rfl, hS, b⟩
  have bb := b.alloc b.size (.cells #[.bool a1, .slice ao1 N1 cap1, .bool d1] 136)
  have B1 := W_hid (bb)
  clear b bb hS
  go_wp2_with fail
  go_ret
  exact ⟨rfl, B1.out⟩
set_option maxRecDepth 100000 in
set_option maxHeartbeats 8000000 in
theorem rLink_B (s t : ByteArray) (hs : s.size ≤ maxLen) (ht : t.size ≤ maxLen) (w : World) (h0 : PM.perr s = 0) (h1 : PM.perr t ≠ 0) :
    Calls Tryz.prog 62 #[.pointer (some ⟨rt, 0, none⟩), .string s, .string t] w fun e w' => e = .returned (.int .i64 (PM.perr t)) ∧ Below w.heap.size w w' := by
  have cP := fun w => W_hid (rparsed (w := w) hs)
  have cQ := fun w => W_hid (rparsed (w := w) ht)
  rw [h0] at cP
  generalize PM.perr t = pe at *
  have hne : (pe != 0) = true := by simpa using h1
  replace h1 := W_hid h1
  clear h0
  generalize PM.pN s = n1 at cP
  generalize PM.pD s = d1 at cP
  generalize PM.pA s = a1 at cP
  generalize PM.pN t = n2 at *
  generalize PM.pD t = d2 at *
  generalize PM.pA t = a2 at *
  go_enter Tryz.func62, Tryz.ntmps62
  go_wp2_with fail
  refine (cP _).out.mono ?_
  rintro e w1 ⟨ao1, N1, cap1, rfl, hS, b⟩
  have bb := b.alloc b.size (.cells #[.bool a1, .slice ao1 N1 cap1, .bool d1] 136)
  have B1 := W_hid (bb)
  clear b bb hS
  go_wp2_with fail
  refine (cQ _).out.mono ?_
  rintro e w2 ⟨ao2, N2, cap2, rfl, hS, b⟩
  have bb := b.alloc b.size (.cells #[.bool a2, .slice ao2 N2 cap2, .bool d2] 136)
  have P22 : Hid (Blk (w2.alloc (.cells #[.bool a2, .slice ao2 N2 cap2, .bool d2] 136)) w2.heap.size 136 [.bool a2, .slice ao2 N2 cap2, .bool d2]) := W_hid (Blk.new _ _ _ rfl)
  have T22 : Hid (SS (w2.alloc (.cells #[.bool a2, .slice ao2 N2 cap2, .bool d2] 136)) ao2 N2 cap2 n2) := W_hid (hS.alloc _)
  have L2 := W_hid hS.1
  have B2 := W_hid (B1.out.trans (bb.mono B1.out.size))
  clear b bb hS
  go_wp2_with fail
  go_ret
  exact ⟨rfl, B2.out⟩
set_option maxRecDepth 100000 in
set_option maxHeartbeats 8000000 in
theorem rLink_C (s t : ByteArray) (hs : s.size ≤ maxLen) (ht : t.size ≤ maxLen) (w : World) (h : RW base rt rg I B L c S D (kap D) w) (h0 : PM.perr s = 0) (h1 : PM.perr t = 0) (r : Int) (hf : findR D s = .error r) :
    Calls Tryz.prog 62 #[.pointer (some ⟨rt, 0, none⟩), .string s, .string t] w fun e w' => e = .returned (.int .i64 r) ∧ Below w.heap.size w w' := by
  have cP := fun w => W_hid (rparsed (w := w) hs)
  have cQ := fun w => W_hid (rparsed (w := w) ht)
  rw [h0] at cP
  rw [h1] at cQ
  have cF := W_hid (fun (W : World) (hb : Below w.heap.size w W) => find_d s hs W (h.ex.keep hb))
  have hr0 := findR_er hf
  simp only [hf, nu, er] at cF
  have hne : (r != 0) = true := by simpa using hr0
  replace hr0 := W_hid hr0
  clear h h0 h1 hf
  generalize PM.pN s = n1 at cP
  generalize PM.pD s = d1 at cP
  generalize PM.pA s = a1 at cP
  generalize PM.pN t = n2 at *
  generalize PM.pD t = d2 at *
  generalize PM.pA t = a2 at *
  go_enter Tryz.func62, Tryz.ntmps62
  go_wp2_with fail
  refine (cP _).out.mono ?_
  rintro e w1 ⟨ao1, N1, cap1, rfl, hS, b⟩
  have bb := b.alloc b.size (.cells #[.bool a1, .slice ao1 N1 cap1, .bool d1] 136)
  have B1 := W_hid (bb)
  clear b bb hS
  go_wp2_with fail
  refine (cQ _).out.mono ?_
  rintro e w2 ⟨ao2, N2, cap2, rfl, hS, b⟩
  have bb := b.alloc b.size (.cells #[.bool a2, .slice ao2 N2 cap2, .bool d2] 136)
  have P22 : Hid (Blk (w2.alloc (.cells #[.bool a2, .slice ao2 N2 cap2, .bool d2] 136)) w2.heap.size 136 [.bool a2, .slice ao2 N2 cap2, .bool d2]) := W_hid (Blk.new _ _ _ rfl)
  have T22 : Hid (SS (w2.alloc (.cells #[.bool a2, .slice ao2 N2 cap2, .bool d2] 136)) ao2 N2 cap2 n2) := W_hid (hS.alloc _)
  have L2 := W_hid hS.1
  have B2 := W_hid (B1.out.trans (bb.mono B1.out.size))
  clear b bb hS
  go_wp2_with fail
  refine (cF.out _ B2.out).mono ?_
  rintro e w3 ⟨rfl, b⟩
  have P23 := W_hid (P22.out.keep b)
  have T23 := W_hid (T22.out.below b (Nat.le_refl _))
  clear P22 T22
  have B3 := W_hid (B2.out.trans (b.mono B2.out.size))
  clear b
  go_wp2_with fail
  go_ret
  exact ⟨rfl, B3.out⟩
set_option maxRecDepth 100000 in
set_option maxHeartbeats 8000000 in
theorem rLink_D (s t : ByteArray) (hs : s.size ≤ maxLen) (ht : t.size ≤ maxLen) (w : World) (h : RW base rt rg I B L c S D (kap D) w) (h0 : PM.perr s = 0) (h1 : PM.perr t = 0) (n : Int) (hf : findR D s = .ok n) (d : Dr) (hD : D n = some d) :
    Calls Tryz.prog 62 #[.pointer (some ⟨rt, 0, none⟩), .string s, .string t] w fun e w' => e = .returned (.int .i64 27) ∧ Below w.heap.size w w' := by
  have cP := fun w => W_hid (rparsed (w := w) hs)
  have cQ := fun w => W_hid (rparsed (w := w) ht)
  rw [h0] at cP
  rw [h1] at cQ
  have cF := W_hid (fun (W : World) (hb : Below w.heap.size w W) => find_d s hs W (h.ex.keep hb))
  simp only [hf, nu, er] at cF
  obtain ⟨K, cD⟩ := dir_yes w h.ex hD
  replace cD := W_hid cD
  have hK : (0 : Int) ≤ (K : Int) := by omega
  clear h h0 h1 hf hD
  generalize PM.pN s = n1 at cP
  generalize PM.pD s = d1 at cP
  generalize PM.pA s = a1 at cP
  generalize PM.pN t = n2 at *
  generalize PM.pD t = d2 at *
  generalize PM.pA t = a2 at *
  go_enter Tryz.func62, Tryz.ntmps62
  go_wp2_with fail
  refine (cP _).out.mono ?_
  rintro e w1 ⟨ao1, N1, cap1, rfl, hS, b⟩
  have bb := b.alloc b.size (.cells #[.bool a1, .slice ao1 N1 cap1, .bool d1] 136)
  have B1 := W_hid (bb)
  clear b bb hS
  go_wp2_with fail
  refine (cQ _).out.mono ?_
  rintro e w2 ⟨ao2, N2, cap2, rfl, hS, b⟩
  have bb := b.alloc b.size (.cells #[.bool a2, .slice ao2 N2 cap2, .bool d2] 136)
  have P22 : Hid (Blk (w2.alloc (.cells #[.bool a2, .slice ao2 N2 cap2, .bool d2] 136)) w2.heap.size 136 [.bool a2, .slice ao2 N2 cap2, .bool d2]) := W_hid (Blk.new _ _ _ rfl)
  have T22 : Hid (SS (w2.alloc (.cells #[.bool a2, .slice ao2 N2 cap2, .bool d2] 136)) ao2 N2 cap2 n2) := W_hid (hS.alloc _)
  have L2 := W_hid hS.1
  have B2 := W_hid (B1.out.trans (bb.mono B1.out.size))
  clear b bb hS
  go_wp2_with fail
  refine (cF.out _ B2.out).mono ?_
  rintro e w3 ⟨rfl, b⟩
  have P23 := W_hid (P22.out.keep b)
  have T23 := W_hid (T22.out.below b (Nat.le_refl _))
  clear P22 T22
  have B3 := W_hid (B2.out.trans (b.mono B2.out.size))
  clear b
  go_wp2_with fail
  refine (cD.out _ B3.out).mono ?_
  rintro e w0 ⟨rfl, rfl⟩
  go_wp2_with fail
  go_ret
  exact ⟨rfl, B3.out⟩
set_option maxRecDepth 100000 in
set_option maxHeartbeats 8000000 in
theorem rLink_E (s t : ByteArray) (hs : s.size ≤ maxLen) (ht : t.size ≤ maxLen) (w : World) (h : RW base rt rg I B L c S D (kap D) w) (h0 : PM.perr s = 0) (h1 : PM.perr t = 0) (n : Int) (hf : findR D s = .ok n) (hD : D n = none) (r : Int) (hv : NT.vacant D 1 t = .error r) :
    Calls Tryz.prog 62 #[.pointer (some ⟨rt, 0, none⟩), .string s, .string t] w fun e w' => e = .returned (.int .i64 r) ∧ Below w.heap.size w w' := by
  have cP := fun w => W_hid (rparsed (w := w) hs)
  have cQ := fun w => W_hid (rparsed (w := w) ht)
  rw [h0] at cP
  rw [h1] at cQ
  have cF := W_hid (fun (W : World) (hb : Below w.heap.size w W) => find_d s hs W (h.ex.keep hb))
  simp only [hf, nu, er] at cF
  have cD := W_hid (fun (W : World) (hb : Below w.heap.size w W) => dir_no W (h.ex.keep hb) hD)
  have cV := W_hid (fun (ao : Option Addr) (n cap : Nat) (W : World) (hb : Below w.heap.size w W) (hl : SS W ao n cap (PM.pN t)) => free_d (PM.pA t) (PM.pD t) 1 (PM.pN t) ao n cap W (h.ex.keep hb) hl (by have := hl.1; have := pN_len t; omega) (pN_comp t))
  have hr0 := NT.vacant_er hv
  simp only [fr_vac, hv] at cV
  have hne : (r != 0) = true := by simpa using hr0
  replace hr0 := W_hid hr0
  clear h h0 h1 hf hD hv
  generalize PM.pN s = n1 at cP
  generalize PM.pD s = d1 at cP
  generalize PM.pA s = a1 at cP
  generalize PM.pN t = n2 at *
  generalize PM.pD t = d2 at *
  generalize PM.pA t = a2 at *
  go_enter Tryz.func62, Tryz.ntmps62
  go_wp2_with fail
  refine (cP _).out.mono ?_
  rintro e w1 ⟨ao1, N1, cap1, rfl, hS, b⟩
  have bb := b.alloc b.size (.cells #[.bool a1, .slice ao1 N1 cap1, .bool d1] 136)
  have B1 := W_hid (bb)
  clear b bb hS
  go_wp2_with fail
  refine (cQ _).out.mono ?_
  rintro e w2 ⟨ao2, N2, cap2, rfl, hS, b⟩
  have bb := b.alloc b.size (.cells #[.bool a2, .slice ao2 N2 cap2, .bool d2] 136)
  have P22 : Hid (Blk (w2.alloc (.cells #[.bool a2, .slice ao2 N2 cap2, .bool d2] 136)) w2.heap.size 136 [.bool a2, .slice ao2 N2 cap2, .bool d2]) := W_hid (Blk.new _ _ _ rfl)
  have T22 : Hid (SS (w2.alloc (.cells #[.bool a2, .slice ao2 N2 cap2, .bool d2] 136)) ao2 N2 cap2 n2) := W_hid (hS.alloc _)
  have L2 := W_hid hS.1
  have B2 := W_hid (B1.out.trans (bb.mono B1.out.size))
  clear b bb hS
  go_wp2_with fail
  refine (cF.out _ B2.out).mono ?_
  rintro e w3 ⟨rfl, b⟩
  have P23 := W_hid (P22.out.keep b)
  have T23 := W_hid (T22.out.below b (Nat.le_refl _))
  clear P22 T22
  have B3 := W_hid (B2.out.trans (b.mono B2.out.size))
  clear b
  go_wp2_with fail
  refine (cD.out _ B3.out).mono ?_
  rintro e w0 ⟨rfl, rfl⟩
  have e20 := P23.out.cell (j := 0) rfl
  have e21 := P23.out.cell (j := 1) rfl
  have e22 := P23.out.cell (j := 2) rfl
  go_wp2_with fail
  refine (cV.out ao2 N2 cap2 _ B3.out T23.out).mono ?_
  rintro e w4 ⟨rfl, b⟩
  have P24 := W_hid (P23.out.keep b)
  have T24 := W_hid (T23.out.below b (Nat.le_refl _))
  clear P23 T23
  have B4 := W_hid (B3.out.trans (b.mono B3.out.size))
  clear b
  clear e20 e21 e22
  go_wp2_with fail
  go_ret
  exact ⟨rfl, B4.out⟩
set_option maxRecDepth 100000 in
set_option maxHeartbeats 8000000 in
theorem rLink_F (s t : ByteArray) (hs : s.size ≤ maxLen) (ht : t.size ≤ maxLen) (w : World) (h : RW base rt rg I B L c S D (kap D) w) (h0 : PM.perr s = 0) (h1 : PM.perr t = 0) (n : Int) (hf : findR D s = .ok n) (hD : D n = none) (p : Int) (hv : NT.vacant D 1 t = .ok p) (hfi : IN.Fine I L B k S) (hI : I ≤ 4096) (hL : L ≤ 32768) (r : Int) (hr : IN.lkR L S n = r) (hr0 : r ≠ 0) :
    Calls Tryz.prog 62 #[.pointer (some ⟨rt, 0, none⟩), .string s, .string t] w fun e w' => e = .returned (.int .i64 r) ∧ RP base rt rg I B L (c + 2) S D w w' := by
  have cP := fun w => W_hid (rparsed (w := w) hs)
  have cQ := fun w => W_hid (rparsed (w := w) ht)
  rw [h0] at cP
  rw [h1] at cQ
  have cF := W_hid (fun (W : World) (hb : Below w.heap.size w W) => find_d s hs W (h.ex.keep hb))
  simp only [hf, nu, er] at cF
  have cD := W_hid (fun (W : World) (hb : Below w.heap.size w W) => dir_no W (h.ex.keep hb) hD)
  have cV := W_hid (fun (ao : Option Addr) (n cap : Nat) (W : World) (hb : Below w.heap.size w W) (hl : SS W ao n cap (PM.pN t)) => free_d (PM.pA t) (PM.pD t) 1 (PM.pN t) ao n cap W (h.ex.keep hb) hl (by have := hl.1; have := pN_len t; omega) (pN_comp t))
  simp only [fr_vac, hv] at cV
  have hpt := W_hid (fun (W : World) (hb : Below w.heap.size w W) => (h.keep hb).ptr.1)
  have hlw := W_hid h.low
  have cL := W_hid (fun (W : World) (hb : Below w.heap.size w W) => (IN.rLink_any n W hfi hI hL (h.keep hb).rs).mono fun e w' ho => (h.keep hb).out ho)
  simp only [NT.lkS_no (show IN.lkR L S n ≠ 0 by rw [hr]; exact hr0), hr] at cL
  have hne : (r == 0) = false := by simpa using hr0
  replace hr0 := W_hid hr0
  generalize NT.last (PM.pN t) = z at *
  clear h h0 h1 hf hD hv hr hfi
  generalize PM.pN s = n1 at cP
  generalize PM.pD s = d1 at cP
  generalize PM.pA s = a1 at cP
  generalize PM.pN t = n2 at *
  generalize PM.pD t = d2 at *
  generalize PM.pA t = a2 at *
  go_enter Tryz.func62, Tryz.ntmps62
  go_wp2_with fail
  refine (cP _).out.mono ?_
  rintro e w1 ⟨ao1, N1, cap1, rfl, hS, b⟩
  have bb := b.alloc b.size (.cells #[.bool a1, .slice ao1 N1 cap1, .bool d1] 136)
  have B1 := W_hid (bb)
  clear b bb hS
  go_wp2_with fail
  refine (cQ _).out.mono ?_
  rintro e w2 ⟨ao2, N2, cap2, rfl, hS, b⟩
  have bb := b.alloc b.size (.cells #[.bool a2, .slice ao2 N2 cap2, .bool d2] 136)
  have P22 : Hid (Blk (w2.alloc (.cells #[.bool a2, .slice ao2 N2 cap2, .bool d2] 136)) w2.heap.size 136 [.bool a2, .slice ao2 N2 cap2, .bool d2]) := W_hid (Blk.new _ _ _ rfl)
  have T22 : Hid (SS (w2.alloc (.cells #[.bool a2, .slice ao2 N2 cap2, .bool d2] 136)) ao2 N2 cap2 n2) := W_hid (hS.alloc _)
  have L2 := W_hid hS.1
  have B2 := W_hid (B1.out.trans (bb.mono B1.out.size))
  clear b bb hS
  go_wp2_with fail
  refine (cF.out _ B2.out).mono ?_
  rintro e w3 ⟨rfl, b⟩
  have P23 := W_hid (P22.out.keep b)
  have T23 := W_hid (T22.out.below b (Nat.le_refl _))
  clear P22 T22
  have B3 := W_hid (B2.out.trans (b.mono B2.out.size))
  clear b
  go_wp2_with fail
  refine (cD.out _ B3.out).mono ?_
  rintro e w0 ⟨rfl, rfl⟩
  have e20 := P23.out.cell (j := 0) rfl
  have e21 := P23.out.cell (j := 1) rfl
  have e22 := P23.out.cell (j := 2) rfl
  go_wp2_with fail
  refine (cV.out ao2 N2 cap2 _ B3.out T23.out).mono ?_
  rintro e w4 ⟨rfl, b⟩
  have P24 := W_hid (P23.out.keep b)
  have T24 := W_hid (T23.out.below b (Nat.le_refl _))
  clear P23 T23
  have B4 := W_hid (B3.out.trans (b.mono B3.out.size))
  clear b
  clear e20 e21 e22
  have t0 := hpt.out _ B4.out
  go_wp2_with fail
  refine (cL.out _ B4.out).mono ?_
  rintro e w5 ⟨rfl, h5, k5⟩
  have k5 := W_hid ((Keeps.new B4.out hlw.out).trans k5)
  have h5 := W_hid h5
  clear t0
  go_wp2_with fail
  go_ret
  exact ⟨rfl, h5.out.more (by omega), k5.out⟩
set_option maxRecDepth 100000 in
set_option maxHeartbeats 8000000 in
theorem rLink_G (s t : ByteArray) (hs : s.size ≤ maxLen) (ht : t.size ≤ maxLen) (w : World) (h : RW base rt rg I B L c S D (kap D) w) (h0 : PM.perr s = 0) (h1 : PM.perr t = 0) (n : Int) (hf : findR D s = .ok n) (hD : D n = none) (p : Int) (hv : NT.vacant D 1 t = .ok p) (hfi : IN.Fine I L B k S) (hI : I ≤ 4096) (hL : L ≤ 32768) (hr : IN.lkR L S n = 0) (hn0 : n ≠ 0) (hc : c < 65000) :
    Calls Tryz.prog 62 #[.pointer (some ⟨rt, 0, none⟩), .string s, .string t] w fun e w' => e = .returned (.int .i64 0) ∧ RP base rt rg I B L (c + 2) (IN.lkS L S n) (NT.putD D p (NT.last (PM.pN t)) n) w w' := by
  have cP := fun w => W_hid (rparsed (w := w) hs)
  have cQ := fun w => W_hid (rparsed (w := w) ht)
  rw [h0] at cP
  rw [h1] at cQ
  have cF := W_hid (fun (W : World) (hb : Below w.heap.size w W) => find_d s hs W (h.ex.keep hb))
  simp only [hf, nu, er] at cF
  have cD := W_hid (fun (W : World) (hb : Below w.heap.size w W) => dir_no W (h.ex.keep hb) hD)
  have cV := W_hid (fun (ao : Option Addr) (n cap : Nat) (W : World) (hb : Below w.heap.size w W) (hl : SS W ao n cap (PM.pN t)) => free_d (PM.pA t) (PM.pD t) 1 (PM.pN t) ao n cap W (h.ex.keep hb) hl (by have := hl.1; have := pN_len t; omega) (pN_comp t))
  simp only [fr_vac, hv] at cV
  have hpt := W_hid (fun (W : World) (hb : Below w.heap.size w W) => (h.keep hb).ptr.1)
  have hlw := W_hid h.low
  obtain ⟨⟨dp, hdp⟩, hat, -⟩ := NT.vac_ok hv
  have hkp : kap (NT.putD D p (NT.last (PM.pN t)) n) = kap D := by
    funext j
    unfold kap NT.putD
    by_cases e : j = p
    · rw [if_pos e, hdp, e, hdp]; rfl
    · rw [if_neg e]
  have cL := W_hid (fun (W : World) (hb : Below w.heap.size w W) => (IN.rLink_any n W hfi hI hL (h.keep hb).rs).mono fun e w' ho => (h.keep hb).out ho)
  simp only [hr] at cL
  have cU := W_hid (fun (W : World) (h2 : RW base rt rg I B L c (IN.lkS L S n) D (kap D) W) => put_d p (NT.last (PM.pN t)) n 1 W h2 (by omega) hdp (NT.at_none hdp hat) hn0 (by unfold kap; rw [if_pos hD]))
  have hfin := W_hid (fun (W : World) (h2 : RW base rt rg I B L (c + 1) (IN.lkS L S n) (NT.putD D p (NT.last (PM.pN t)) n) (kap D) W) (hK : Keeps base UT w W) => show RP base rt rg I B L (c + 2) (IN.lkS L S n) (NT.putD D p (NT.last (PM.pN t)) n) w W from ⟨by rw [hkp]; exact h2.more (by omega), hK⟩)
  generalize NT.last (PM.pN t) = z at *
  clear h h0 h1 hf hD hv hr hfi hkp hat hdp
  generalize PM.pN s = n1 at cP
  generalize PM.pD s = d1 at cP
  generalize PM.pA s = a1 at cP
  generalize PM.pN t = n2 at *
  generalize PM.pD t = d2 at *
  generalize PM.pA t = a2 at *
  go_enter Tryz.func62, Tryz.ntmps62
  go_wp2_with fail
  refine (cP _).out.mono ?_
  rintro e w1 ⟨ao1, N1, cap1, rfl, hS, b⟩
  have bb := b.alloc b.size (.cells #[.bool a1, .slice ao1 N1 cap1, .bool d1] 136)
  have B1 := W_hid (bb)
  clear b bb hS
  go_wp2_with fail
  refine (cQ _).out.mono ?_
  rintro e w2 ⟨ao2, N2, cap2, rfl, hS, b⟩
  have bb := b.alloc b.size (.cells #[.bool a2, .slice ao2 N2 cap2, .bool d2] 136)
  have P22 : Hid (Blk (w2.alloc (.cells #[.bool a2, .slice ao2 N2 cap2, .bool d2] 136)) w2.heap.size 136 [.bool a2, .slice ao2 N2 cap2, .bool d2]) := W_hid (Blk.new _ _ _ rfl)
  have T22 : Hid (SS (w2.alloc (.cells #[.bool a2, .slice ao2 N2 cap2, .bool d2] 136)) ao2 N2 cap2 n2) := W_hid (hS.alloc _)
  have L2 := W_hid hS.1
  have B2 := W_hid (B1.out.trans (bb.mono B1.out.size))
  clear b bb hS
  go_wp2_with fail
  refine (cF.out _ B2.out).mono ?_
  rintro e w3 ⟨rfl, b⟩
  have P23 := W_hid (P22.out.keep b)
  have T23 := W_hid (T22.out.below b (Nat.le_refl _))
  clear P22 T22
  have B3 := W_hid (B2.out.trans (b.mono B2.out.size))
  clear b
  go_wp2_with fail
  refine (cD.out _ B3.out).mono ?_
  rintro e w0 ⟨rfl, rfl⟩
  have e20 := P23.out.cell (j := 0) rfl
  have e21 := P23.out.cell (j := 1) rfl
  have e22 := P23.out.cell (j := 2) rfl
  go_wp2_with fail
  refine (cV.out ao2 N2 cap2 _ B3.out T23.out).mono ?_
  rintro e w4 ⟨rfl, b⟩
  have P24 := W_hid (P23.out.keep b)
  have T24 := W_hid (T23.out.below b (Nat.le_refl _))
  clear P23 T23
  have B4 := W_hid (B3.out.trans (b.mono B3.out.size))
  clear b
  clear e20 e21 e22
  have t0 := hpt.out _ B4.out
  go_wp2_with fail
  refine (cL.out _ B4.out).mono ?_
  rintro e w5 ⟨rfl, h5, k5⟩
  have k5 := W_hid ((Keeps.new B4.out hlw.out).trans k5)
  have cU1 := W_hid (cU.out _ h5)
  clear h5 t0
  go_wp2_with fail
  refine cU1.out.mono ?_
  rintro e w6 ⟨rfl, h6, k6⟩
  have hF := W_hid (hfin.out _ h6 (k5.out.trans k6))
  clear h6 k6
  go_wp2_with fail
  go_ret
  exact ⟨rfl, hF.out⟩
theorem findR_ok {D : Ds} {s : ByteArray} (h : PM.perr s = 0) : findR D s = NT.find D (PM.pN s) (PM.pD s) := by unfold findR; rw [if_pos h]
theorem rLink_all (s t : ByteArray) (hs : s.size ≤ maxLen) (ht : t.size ≤ maxLen) (w : World) (h : RW base rt rg I B L c S D (kap D) w) {ct : Nat} (hti : NT.TI I ct NT.e0 S D) (hfi : IN.Fine I L B k S) (hI : I ≤ 4096) (hL : L ≤ 32768) (hc : c < 65000) :
    Calls Tryz.prog 62 #[.pointer (some ⟨rt, 0, none⟩), .string s, .string t] w fun e w' => e = .returned (.int .i64 (NT.lnk L S D s t).1) ∧ RP base rt rg I B L (c + 2) (NT.lnk L S D s t).2.1 (NT.lnk L S D s t).2.2 w w' := by
  unfold NT.lnk
  by_cases h0 : PM.perr s = 0
  · rw [if_neg (fun e => e h0)]
    by_cases h1 : PM.perr t = 0
    · rw [if_neg (fun e => e h1)]
      have hfr := findR_ok (D := D) h0
      cases hf : NT.find D (PM.pN s) (PM.pD s) with
      | error r =>
        refine (rLink_C s t hs ht w h h0 h1 r (hfr.trans hf)).mono ?_
        rintro e w' ⟨rfl, hb⟩
        exact ⟨rfl, h.same hb⟩
      | ok n =>
        simp only
        cases hD : D n with
        | some d =>
          rw [if_pos (by simp)]
          refine (rLink_D s t hs ht w h h0 h1 n (hfr.trans hf) d hD).mono ?_
          rintro e w' ⟨rfl, hb⟩
          exact ⟨rfl, h.same hb⟩
        | none =>
          rw [if_neg (fun e => e rfl)]
          cases hv : NT.vacant D 1 t with
          | error r =>
            refine (rLink_E s t hs ht w h h0 h1 n (hfr.trans hf) hD r hv).mono ?_
            rintro e w' ⟨rfl, hb⟩
            exact ⟨rfl, h.same hb⟩
          | ok p =>
            simp only
            by_cases hr : IN.lkR L S n = 0
            · rw [if_pos hr]
              have hn0 : n ≠ 0 := fun e => by have := hti.num n (hti.find_in hf); omega
              exact rLink_G s t hs ht w h h0 h1 n (hfr.trans hf) hD p hv hfi hI hL hr hn0 hc
            · rw [if_neg hr]
              exact rLink_F s t hs ht w h h0 h1 n (hfr.trans hf) hD p hv hfi hI hL _ rfl hr
    · rw [if_pos h1]
      refine (rLink_B (rt := rt) s t hs ht w h0 h1).mono ?_
      rintro e w' ⟨rfl, hb⟩
      exact ⟨rfl, h.same hb⟩
  · rw [if_pos h0]
    refine (rLink_A (rt := rt) s t hs ht w h0).mono ?_
    rintro e w' ⟨rfl, hb⟩
    exact ⟨rfl, h.same hb⟩
end
end RN
namespace RN
open IN (Keeps)
open NT (Dr Ds er nu findR)
section
variable {base rt rg I B L c k : Nat} {S : Int → Option IN.Nd} {D : Ds} {κ : Int → Int} {w w' : World}
theorem pl_err {D : Ds} {ns : List ByteArray} (hne : ns ≠ []) (h : (plA D ns).2 ≠ 0) : plA D ns = ((0, ⟨#[]⟩), (plA D ns).2) := by
  unfold plA at *
  cases hg : NT.goes D 1 ns.dropLast with
  | error e => rfl
  | ok n =>
    rw [hg] at h
    simp only at h ⊢
    by_cases hD : D n = none
    · rw [if_pos hD]
    · rw [if_neg hD] at h; exact absurd rfl h
theorem pl_place {D : Ds} {ns : List ByteArray} (hne : ns ≠ []) (h : (plA D ns).2 ≠ 0) (r : Int) : NT.place D ns r = .error (plA D ns).2 := by
  unfold plA NT.place at *
  rw [if_neg hne]
  cases hg : NT.goes D 1 ns.dropLast with
  | error e => rfl
  | ok n =>
    rw [hg] at h
    simp only at h ⊢
    by_cases hD : D n = none
    · rw [if_pos hD, if_pos hD]
    · rw [if_neg hD] at h; exact absurd rfl h
set_option maxRecDepth 100000 in
set_option maxHeartbeats 8000000 in
theorem rUnlink_A (s : ByteArray) (hs : s.size ≤ maxLen) (w : World) (h0 : PM.perr s ≠ 0) :
    Calls Tryz.prog 63 #[.pointer (some ⟨rt, 0, none⟩), .string s] w fun e w' => e = .returned (.int .i64 (PM.perr s)) ∧ Below w.heap.size w w' := by
  have cP := fun w => W_hid (rparsed (w := w) hs)
  generalize PM.perr s = pe at *
  have hne : (pe != 0) = true := by simpa using h0
  replace h0 := W_hid h0
  generalize PM.pN s = n1 at *
  generalize PM.pD s = d1 at *
  generalize PM.pA s = a1 at *
  go_enter Tryz.func63, Tryz.ntmps63
  go_wp2_with fail
  refine (cP _).out.mono ?_
  rintro e w1 ⟨ao1, N1, cap1, rfl, hS, b⟩
  have bb := b.alloc b.size (.cells #[.bool a1, .slice ao1 N1 cap1, .bool d1] 136)
  have P11 : Hid (Blk (w1.alloc (.cells #[.bool a1, .slice ao1 N1 cap1, .bool d1] 136)) w1.heap.size 136 [.bool a1, .slice ao1 N1 cap1, .bool d1]) := W_hid (Blk.new _ _ _ rfl)
  have T11 : Hid (SS (w1.alloc (.cells #[.bool a1, .slice ao1 N1 cap1, .bool d1] 136)) ao1 N1 cap1 n1) := W_hid (hS.alloc _)
  have L1 := W_hid hS.1
  have B1 := W_hid (bb)
  clear b bb hS
  go_wp2_with fail
  go_ret
  exact ⟨rfl, B1.out⟩
set_option maxRecDepth 100000 in
set_option maxHeartbeats 8000000 in
theorem rUnlink_B (s : ByteArray) (hs : s.size ≤ maxLen) (w : World) (h0 : PM.perr s = 0) (hnil : PM.pN s = []) :
    Calls Tryz.prog 63 #[.pointer (some ⟨rt, 0, none⟩), .string s] w fun e w' => e = .returned (.int .i64 14) ∧ Below w.heap.size w w' := by
  have cP := fun w => W_hid (rparsed (w := w) hs)
  rw [h0] at cP
  rw [hnil] at cP
  clear h0 hnil
  generalize PM.pD s = d1 at *
  generalize PM.pA s = a1 at *
  obtain ⟨n1, hn1⟩ : ∃ n1 : List ByteArray, n1 = [] := ⟨_, rfl⟩
  rw [← hn1] at cP
  replace hn1 := W_hid hn1
  go_enter Tryz.func63, Tryz.ntmps63
  go_wp2_with fail
  refine (cP _).out.mono ?_
  rintro e w1 ⟨ao1, N1, cap1, rfl, hS, b⟩
  have bb := b.alloc b.size (.cells #[.bool a1, .slice ao1 N1 cap1, .bool d1] 136)
  have P11 : Hid (Blk (w1.alloc (.cells #[.bool a1, .slice ao1 N1 cap1, .bool d1] 136)) w1.heap.size 136 [.bool a1, .slice ao1 N1 cap1, .bool d1]) := W_hid (Blk.new _ _ _ rfl)
  have T11 : Hid (SS (w1.alloc (.cells #[.bool a1, .slice ao1 N1 cap1, .bool d1] 136)) ao1 N1 cap1 n1) := W_hid (hS.alloc _)
  have L1 := W_hid hS.1
  have B1 := W_hid (bb)
  clear b bb hS
  obtain rfl : N1 = 0 := by have := L1.out; rw [hn1.out] at this; simpa using this.symm
  go_wp2_with fail
  go_ret
  exact ⟨rfl, B1.out⟩
set_option maxRecDepth 100000 in
set_option maxHeartbeats 8000000 in
theorem rUnlink_C (s : ByteArray) (hs : s.size ≤ maxLen) (w : World) (h : RW base rt rg I B L c S D (kap D) w) (h0 : PM.perr s = 0) (hnn : PM.pN s ≠ []) (r : Int) (hE : (plA D (PM.pN s)).2 = r) (hr0 : r ≠ 0) :
    Calls Tryz.prog 63 #[.pointer (some ⟨rt, 0, none⟩), .string s] w fun e w' => e = .returned (.int .i64 r) ∧ Below w.heap.size w w' := by
  have cP := fun w => W_hid (rparsed (w := w) hs)
  rw [h0] at cP
  have hll := W_hid (And.intro (List.length_pos_iff.2 hnn) (pN_len s))
  have cL := W_hid (fun (ao : Option Addr) (n cap : Nat) (W : World) (hb : Below w.heap.size w W) (hl : SS W ao n cap (PM.pN s)) (h0 : 0 < n) (hN : n ≤ 100000) => place_d (PM.pA s) (PM.pD s) (PM.pN s) ao n cap W (h.ex.keep hb) hl h0 hN)
  have hpl := pl_err hnn (by rw [hE]; exact hr0)
  rw [hE] at hpl
  simp only [hpl] at cL
  have hne : (r != 0) = true := by simpa using hr0
  replace hr0 := W_hid hr0
  clear h h0 hnn hE hpl
  generalize PM.pN s = n1 at *
  generalize PM.pD s = d1 at *
  generalize PM.pA s = a1 at *
  go_enter Tryz.func63, Tryz.ntmps63
  go_wp2_with fail
  refine (cP _).out.mono ?_
  rintro e w1 ⟨ao1, N1, cap1, rfl, hS, b⟩
  have bb := b.alloc b.size (.cells #[.bool a1, .slice ao1 N1 cap1, .bool d1] 136)
  have P11 : Hid (Blk (w1.alloc (.cells #[.bool a1, .slice ao1 N1 cap1, .bool d1] 136)) w1.heap.size 136 [.bool a1, .slice ao1 N1 cap1, .bool d1]) := W_hid (Blk.new _ _ _ rfl)
  have T11 : Hid (SS (w1.alloc (.cells #[.bool a1, .slice ao1 N1 cap1, .bool d1] 136)) ao1 N1 cap1 n1) := W_hid (hS.alloc _)
  have L1 := W_hid hS.1
  have B1 := W_hid (bb)
  clear b bb hS
  have hN0 : ((N1 : Int) == 0) = false := by have := L1.out; have := hll.out.1; simp; omega
  have hN1 : ¬ (N1 : Int) = 0 := by have := L1.out; have := hll.out.1; omega
  have hN2 : 0 < N1 ∧ N1 ≤ 100000 := by have := L1.out; have := hll.out; omega
  have e10 := P11.out.cell (j := 0) rfl
  have e11 := P11.out.cell (j := 1) rfl
  have e12 := P11.out.cell (j := 2) rfl
  go_wp2_with fail
  refine (cL.out ao1 N1 cap1 _ B1.out T11.out hN2.1 hN2.2).mono ?_
  rintro e w2 ⟨rfl, b⟩
  have P12 := W_hid (P11.out.keep b)
  have T12 := W_hid (T11.out.below b (Nat.le_refl _))
  clear P11 T11
  have B2 := W_hid (B1.out.trans (b.mono B1.out.size))
  clear b
  clear e10 e11 e12
  go_wp2_with fail
  go_ret
  exact ⟨rfl, B2.out⟩
set_option maxRecDepth 100000 in
set_option maxHeartbeats 8000000 in
theorem rUnlink_D (s : ByteArray) (hs : s.size ≤ maxLen) (w : World) (h : RW base rt rg I B L c S D (kap D) w) (h0 : PM.perr s = 0) (hnn : PM.pN s ≠ []) (p : Int) (dp : Dr) (hdp : D p = some dp) (z : ByteArray) (hpl : plA D (PM.pN s) = ((p, z), 0)) (hz : z = PM.dot ∨ z = PM.dots) :
    Calls Tryz.prog 63 #[.pointer (some ⟨rt, 0, none⟩), .string s] w fun e w' => e = .returned (.int .i64 14) ∧ Below w.heap.size w w' := by
  have cP := fun w => W_hid (rparsed (w := w) hs)
  rw [h0] at cP
  have hll := W_hid (And.intro (List.length_pos_iff.2 hnn) (pN_len s))
  have cL := W_hid (fun (ao : Option Addr) (n cap : Nat) (W : World) (hb : Below w.heap.size w W) (hl : SS W ao n cap (PM.pN s)) (h0 : 0 < n) (hN : n ≤ 100000) => place_d (PM.pA s) (PM.pD s) (PM.pN s) ao n cap W (h.ex.keep hb) hl h0 hN)
  simp only [hpl] at cL
  have cT := W_hid (fun W => rdots_any z W)
  simp only [decide_eq_true hz] at cT
  clear h h0 hnn hpl hdp hz 
  generalize PM.pN s = n1 at *
  generalize PM.pD s = d1 at *
  generalize PM.pA s = a1 at *
  go_enter Tryz.func63, Tryz.ntmps63
  go_wp2_with fail
  refine (cP _).out.mono ?_
  rintro e w1 ⟨ao1, N1, cap1, rfl, hS, b⟩
  have bb := b.alloc b.size (.cells #[.bool a1, .slice ao1 N1 cap1, .bool d1] 136)
  have P11 : Hid (Blk (w1.alloc (.cells #[.bool a1, .slice ao1 N1 cap1, .bool d1] 136)) w1.heap.size 136 [.bool a1, .slice ao1 N1 cap1, .bool d1]) := W_hid (Blk.new _ _ _ rfl)
  have T11 : Hid (SS (w1.alloc (.cells #[.bool a1, .slice ao1 N1 cap1, .bool d1] 136)) ao1 N1 cap1 n1) := W_hid (hS.alloc _)
  have L1 := W_hid hS.1
  have B1 := W_hid (bb)
  clear b bb hS
  have hN0 : ((N1 : Int) == 0) = false := by have := L1.out; have := hll.out.1; simp; omega
  have hN1 : ¬ (N1 : Int) = 0 := by have := L1.out; have := hll.out.1; omega
  have hN2 : 0 < N1 ∧ N1 ≤ 100000 := by have := L1.out; have := hll.out; omega
  have e10 := P11.out.cell (j := 0) rfl
  have e11 := P11.out.cell (j := 1) rfl
  have e12 := P11.out.cell (j := 2) rfl
  go_wp2_with fail
  refine (cL.out ao1 N1 cap1 _ B1.out T11.out hN2.1 hN2.2).mono ?_
  rintro e w2 ⟨rfl, b⟩
  have P12 := W_hid (P11.out.keep b)
  have T12 := W_hid (T11.out.below b (Nat.le_refl _))
  clear P11 T11
  have B2 := W_hid (B1.out.trans (b.mono B1.out.size))
  clear b
  clear e10 e11 e12
  go_wp2_with fail
  refine (cT.out _).mono ?_
  rintro e w0 ⟨rfl, rfl⟩
  go_wp2_with fail
  go_ret
  exact ⟨rfl, B2.out⟩
set_option maxRecDepth 100000 in
set_option maxHeartbeats 8000000 in
theorem rUnlink_E (s : ByteArray) (hs : s.size ≤ maxLen) (w : World) (h : RW base rt rg I B L c S D (kap D) w) (h0 : PM.perr s = 0) (hnn : PM.pN s ≠ []) (p : Int) (dp : Dr) (hdp : D p = some dp) (z : ByteArray) (hpl : plA D (PM.pN s) = ((p, z), 0)) (hz : ¬ (z = PM.dot ∨ z = PM.dots)) (hlk : NT.look z dp.l = none) :
    Calls Tryz.prog 63 #[.pointer (some ⟨rt, 0, none⟩), .string s] w fun e w' => e = .returned (.int .i64 11) ∧ Below w.heap.size w w' := by
  have cP := fun w => W_hid (rparsed (w := w) hs)
  rw [h0] at cP
  have hll := W_hid (And.intro (List.length_pos_iff.2 hnn) (pN_len s))
  have cL := W_hid (fun (ao : Option Addr) (n cap : Nat) (W : World) (hb : Below w.heap.size w W) (hl : SS W ao n cap (PM.pN s)) (h0 : 0 < n) (hN : n ≤ 100000) => place_d (PM.pA s) (PM.pD s) (PM.pN s) ao n cap W (h.ex.keep hb) hl h0 hN)
  simp only [hpl] at cL
  have cT := W_hid (fun W => rdots_any z W)
  simp only [decide_eq_false hz] at cT
  have cH := W_hid (fun (W : World) (hb : Below w.heap.size w W) => has_d p z W (h.ex.keep hb) hdp)
  simp only [hlk, Option.getD_none] at cH
  clear h h0 hnn hpl hdp hz hlk 
  generalize PM.pN s = n1 at *
  generalize PM.pD s = d1 at *
  generalize PM.pA s = a1 at *
  go_enter Tryz.func63, Tryz.ntmps63
  go_wp2_with fail
  refine (cP _).out.mono ?_
  rintro e w1 ⟨ao1, N1, cap1, rfl, hS, b⟩
  have bb := b.alloc b.size (.cells #[.bool a1, .slice ao1 N1 cap1, .bool d1] 136)
  have P11 : Hid (Blk (w1.alloc (.cells #[.bool a1, .slice ao1 N1 cap1, .bool d1] 136)) w1.heap.size 136 [.bool a1, .slice ao1 N1 cap1, .bool d1]) := W_hid (Blk.new _ _ _ rfl)
  have T11 : Hid (SS (w1.alloc (.cells #[.bool a1, .slice ao1 N1 cap1, .bool d1] 136)) ao1 N1 cap1 n1) := W_hid (hS.alloc _)
  have L1 := W_hid hS.1
  have B1 := W_hid (bb)
  clear b bb hS
  have hN0 : ((N1 : Int) == 0) = false := by have := L1.out; have := hll.out.1; simp; omega
  have hN1 : ¬ (N1 : Int) = 0 := by have := L1.out; have := hll.out.1; omega
  have hN2 : 0 < N1 ∧ N1 ≤ 100000 := by have := L1.out; have := hll.out; omega
  have e10 := P11.out.cell (j := 0) rfl
  have e11 := P11.out.cell (j := 1) rfl
  have e12 := P11.out.cell (j := 2) rfl
  go_wp2_with fail
  refine (cL.out ao1 N1 cap1 _ B1.out T11.out hN2.1 hN2.2).mono ?_
  rintro e w2 ⟨rfl, b⟩
  have P12 := W_hid (P11.out.keep b)
  have T12 := W_hid (T11.out.below b (Nat.le_refl _))
  clear P11 T11
  have B2 := W_hid (B1.out.trans (b.mono B1.out.size))
  clear b
  clear e10 e11 e12
  go_wp2_with fail
  refine (cT.out _).mono ?_
  rintro e w0 ⟨rfl, rfl⟩
  go_wp2_with fail
  refine (cH.out _ B2.out).mono ?_
  rintro e w3 ⟨rfl, b⟩
  have P13 := W_hid (P12.out.keep b)
  have T13 := W_hid (T12.out.below b (Nat.le_refl _))
  clear P12 T12
  have B3 := W_hid (B2.out.trans (b.mono B2.out.size))
  clear b
  go_wp2_with fail
  go_ret
  exact ⟨rfl, B3.out⟩
set_option maxRecDepth 100000 in
set_option maxHeartbeats 8000000 in
theorem rUnlink_F (s : ByteArray) (hs : s.size ≤ maxLen) (w : World) (h : RW base rt rg I B L c S D (kap D) w) (h0 : PM.perr s = 0) (hnn : PM.pN s ≠ []) (p : Int) (dp : Dr) (hdp : D p = some dp) (z : ByteArray) (hpl : plA D (PM.pN s) = ((p, z), 0)) (hz : ¬ (z = PM.dot ∨ z = PM.dots)) (j : Int) (hlk : NT.look z dp.l = some j) (dj : Dr) (hD : D j = some dj) :
    Calls Tryz.prog 63 #[.pointer (some ⟨rt, 0, none⟩), .string s] w fun e w' => e = .returned (.int .i64 14) ∧ Below w.heap.size w w' := by
  have cP := fun w => W_hid (rparsed (w := w) hs)
  rw [h0] at cP
  have hll := W_hid (And.intro (List.length_pos_iff.2 hnn) (pN_len s))
  have cL := W_hid (fun (ao : Option Addr) (n cap : Nat) (W : World) (hb : Below w.heap.size w W) (hl : SS W ao n cap (PM.pN s)) (h0 : 0 < n) (hN : n ≤ 100000) => place_d (PM.pA s) (PM.pD s) (PM.pN s) ao n cap W (h.ex.keep hb) hl h0 hN)
  simp only [hpl] at cL
  have cT := W_hid (fun W => rdots_any z W)
  simp only [decide_eq_false hz] at cT
  have cH := W_hid (fun (W : World) (hb : Below w.heap.size w W) => has_d p z W (h.ex.keep hb) hdp)
  have hj0 := look_ne h.ex hdp hlk
  have hj1 : (j == 0) = false := by simpa using hj0
  simp only [hlk, Option.getD_some] at cH
  obtain ⟨K, cD⟩ := dir_yes w h.ex hD
  replace cD := W_hid cD
  have hK : (0 : Int) ≤ (K : Int) := by omega
  clear h h0 hnn hpl hdp hz hlk hD 
  generalize PM.pN s = n1 at *
  generalize PM.pD s = d1 at *
  generalize PM.pA s = a1 at *
  go_enter Tryz.func63, Tryz.ntmps63
  go_wp2_with fail
  refine (cP _).out.mono ?_
  rintro e w1 ⟨ao1, N1, cap1, rfl, hS, b⟩
  have bb := b.alloc b.size (.cells #[.bool a1, .slice ao1 N1 cap1, .bool d1] 136)
  have P11 : Hid (Blk (w1.alloc (.cells #[.bool a1, .slice ao1 N1 cap1, .bool d1] 136)) w1.heap.size 136 [.bool a1, .slice ao1 N1 cap1, .bool d1]) := W_hid (Blk.new _ _ _ rfl)
  have T11 : Hid (SS (w1.alloc (.cells #[.bool a1, .slice ao1 N1 cap1, .bool d1] 136)) ao1 N1 cap1 n1) := W_hid (hS.alloc _)
  have L1 := W_hid hS.1
  have B1 := W_hid (bb)
  clear b bb hS
  have hN0 : ((N1 : Int) == 0) = false := by have := L1.out; have := hll.out.1; simp; omega
  have hN1 : ¬ (N1 : Int) = 0 := by have := L1.out; have := hll.out.1; omega
  have hN2 : 0 < N1 ∧ N1 ≤ 100000 := by have := L1.out; have := hll.out; omega
  have e10 := P11.out.cell (j := 0) rfl
  have e11 := P11.out.cell (j := 1) rfl
  have e12 := P11.out.cell (j := 2) rfl
  go_wp2_with fail
  refine (cL.out ao1 N1 cap1 _ B1.out T11.out hN2.1 hN2.2).mono ?_
  rintro e w2 ⟨rfl, b⟩
  have P12 := W_hid (P11.out.keep b)
  have T12 := W_hid (T11.out.below b (Nat.le_refl _))
  clear P11 T11
  have B2 := W_hid (B1.out.trans (b.mono B1.out.size))
  clear b
  clear e10 e11 e12
  go_wp2_with fail
  refine (cT.out _).mono ?_
  rintro e w0 ⟨rfl, rfl⟩
  go_wp2_with fail
  refine (cH.out _ B2.out).mono ?_
  rintro e w3 ⟨rfl, b⟩
  have P13 := W_hid (P12.out.keep b)
  have T13 := W_hid (T12.out.below b (Nat.le_refl _))
  clear P12 T12
  have B3 := W_hid (B2.out.trans (b.mono B2.out.size))
  clear b
  go_wp2_with fail
  refine (cD.out _ B3.out).mono ?_
  rintro e w0 ⟨rfl, rfl⟩
  go_wp2_with fail
  go_ret
  exact ⟨rfl, B3.out⟩
set_option maxRecDepth 100000 in
set_option maxHeartbeats 8000000 in
theorem rUnlink_G (s : ByteArray) (hs : s.size ≤ maxLen) (w : World) (h : RW base rt rg I B L c S D (kap D) w) (h0 : PM.perr s = 0) (hnn : PM.pN s ≠ []) (p : Int) (dp : Dr) (hdp : D p = some dp) (z : ByteArray) (hpl : plA D (PM.pN s) = ((p, z), 0)) (hz : ¬ (z = PM.dot ∨ z = PM.dots)) (j : Int) (hlk : NT.look z dp.l = some j) (hD : D j = none) (hdd : PM.pD s = true) :
    Calls Tryz.prog 63 #[.pointer (some ⟨rt, 0, none⟩), .string s] w fun e w' => e = .returned (.int .i64 13) ∧ Below w.heap.size w w' := by
  have cP := fun w => W_hid (rparsed (w := w) hs)
  rw [h0] at cP
  have hll := W_hid (And.intro (List.length_pos_iff.2 hnn) (pN_len s))
  have cL := W_hid (fun (ao : Option Addr) (n cap : Nat) (W : World) (hb : Below w.heap.size w W) (hl : SS W ao n cap (PM.pN s)) (h0 : 0 < n) (hN : n ≤ 100000) => place_d (PM.pA s) (PM.pD s) (PM.pN s) ao n cap W (h.ex.keep hb) hl h0 hN)
  simp only [hpl] at cL
  have cT := W_hid (fun W => rdots_any z W)
  simp only [decide_eq_false hz] at cT
  have cH := W_hid (fun (W : World) (hb : Below w.heap.size w W) => has_d p z W (h.ex.keep hb) hdp)
  have hj0 := look_ne h.ex hdp hlk
  have hj1 : (j == 0) = false := by simpa using hj0
  simp only [hlk, Option.getD_some] at cH
  have cD := W_hid (fun (W : World) (hb : Below w.heap.size w W) => dir_no W (h.ex.keep hb) hD)
  clear h h0 hnn hpl hdp hz hlk hD 
  generalize PM.pN s = n1 at *
  generalize PM.pD s = d1 at *
  generalize PM.pA s = a1 at *
  subst hdd
  go_enter Tryz.func63, Tryz.ntmps63
  go_wp2_with fail
  refine (cP _).out.mono ?_
  rintro e w1 ⟨ao1, N1, cap1, rfl, hS, b⟩
  have bb := b.alloc b.size (.cells #[.bool a1, .slice ao1 N1 cap1, .bool true] 136)
  have P11 : Hid (Blk (w1.alloc (.cells #[.bool a1, .slice ao1 N1 cap1, .bool true] 136)) w1.heap.size 136 [.bool a1, .slice ao1 N1 cap1, .bool true]) := W_hid (Blk.new _ _ _ rfl)
  have T11 : Hid (SS (w1.alloc (.cells #[.bool a1, .slice ao1 N1 cap1, .bool true] 136)) ao1 N1 cap1 n1) := W_hid (hS.alloc _)
  have L1 := W_hid hS.1
  have B1 := W_hid (bb)
  clear b bb hS
  have hN0 : ((N1 : Int) == 0) = false := by have := L1.out; have := hll.out.1; simp; omega
  have hN1 : ¬ (N1 : Int) = 0 := by have := L1.out; have := hll.out.1; omega
  have hN2 : 0 < N1 ∧ N1 ≤ 100000 := by have := L1.out; have := hll.out; omega
  have e10 := P11.out.cell (j := 0) rfl
  have e11 := P11.out.cell (j := 1) rfl
  have e12 := P11.out.cell (j := 2) rfl
  go_wp2_with fail
  refine (cL.out ao1 N1 cap1 _ B1.out T11.out hN2.1 hN2.2).mono ?_
  rintro e w2 ⟨rfl, b⟩
  have P12 := W_hid (P11.out.keep b)
  have T12 := W_hid (T11.out.below b (Nat.le_refl _))
  clear P11 T11
  have B2 := W_hid (B1.out.trans (b.mono B1.out.size))
  clear b
  clear e10 e11 e12
  go_wp2_with fail
  refine (cT.out _).mono ?_
  rintro e w0 ⟨rfl, rfl⟩
  go_wp2_with fail
  refine (cH.out _ B2.out).mono ?_
  rintro e w3 ⟨rfl, b⟩
  have P13 := W_hid (P12.out.keep b)
  have T13 := W_hid (T12.out.below b (Nat.le_refl _))
  clear P12 T12
  have B3 := W_hid (B2.out.trans (b.mono B2.out.size))
  clear b
  go_wp2_with fail
  refine (cD.out _ B3.out).mono ?_
  rintro e w0 ⟨rfl, rfl⟩
  have e12 := P13.out.cell (j := 2) rfl
  go_wp2_with fail
  go_ret
  exact ⟨rfl, B3.out⟩
set_option maxRecDepth 100000 in
set_option maxHeartbeats 8000000 in
theorem rUnlink_H (s : ByteArray) (hs : s.size ≤ maxLen) (w : World) (h : RW base rt rg I B L c S D (kap D) w) (h0 : PM.perr s = 0) (hnn : PM.pN s ≠ []) (p : Int) (dp : Dr) (hdp : D p = some dp) (z : ByteArray) (hpl : plA D (PM.pN s) = ((p, z), 0)) (hz : ¬ (z = PM.dot ∨ z = PM.dots)) (j : Int) (hlk : NT.look z dp.l = some j) (hD : D j = none) (hdd : PM.pD s = false) (hfi : IN.Fine I L B k S) (hI : I ≤ 4096) (hL : L ≤ 32768) (hk : k < 1000000) :
    Calls Tryz.prog 63 #[.pointer (some ⟨rt, 0, none⟩), .string s] w fun e w' => e = .returned (.int .i64 0) ∧ RP base rt rg I B L (c + 2) (IN.ulS S j) (NT.cutD D p z) w w' := by
  have cP := fun w => W_hid (rparsed (w := w) hs)
  rw [h0] at cP
  have hll := W_hid (And.intro (List.length_pos_iff.2 hnn) (pN_len s))
  have cL := W_hid (fun (ao : Option Addr) (n cap : Nat) (W : World) (hb : Below w.heap.size w W) (hl : SS W ao n cap (PM.pN s)) (h0 : 0 < n) (hN : n ≤ 100000) => place_d (PM.pA s) (PM.pD s) (PM.pN s) ao n cap W (h.ex.keep hb) hl h0 hN)
  simp only [hpl] at cL
  have cT := W_hid (fun W => rdots_any z W)
  simp only [decide_eq_false hz] at cT
  have cH := W_hid (fun (W : World) (hb : Below w.heap.size w W) => has_d p z W (h.ex.keep hb) hdp)
  have hj0 := look_ne h.ex hdp hlk
  have hj1 : (j == 0) = false := by simpa using hj0
  simp only [hlk, Option.getD_some] at cH
  have cD := W_hid (fun (W : World) (hb : Below w.heap.size w W) => dir_no W (h.ex.keep hb) hD)
  have hlw := W_hid h.low
  have cX := W_hid (fun (W : World) (hb : Below w.heap.size w W) => drop_d p z W (h.keep hb) hdp)
  have cA := W_hid (fun (W : World) (h2 : RW base rt rg I B L c S (NT.cutD D p z) (kap D) W) => away_d j W h2 hfi hI hL hk)
  have hu : NT.upd (NT.cutD D p z) j none = NT.cutD D p z := by
    funext x
    by_cases e : x = j
    · rw [e, NT.upd_at, NT.cutD_none.2 hD]
    · rw [NT.upd_ne e]
  have hkp : kap (NT.cutD D p z) = kap D := by
    funext x
    unfold kap
    by_cases e : D x = none
    · rw [if_pos e, if_pos (NT.cutD_none.2 e)]
    · rw [if_neg e, if_neg (fun e2 => e (NT.cutD_none.1 e2))]
  rw [hu] at cA
  have hfin := W_hid (fun (W : World) (h2 : RW base rt rg I B L c (IN.ulS S j) (NT.cutD D p z) (kap D) W) (hK : Keeps base UT w W) => show RP base rt rg I B L (c + 2) (IN.ulS S j) (NT.cutD D p z) w W from ⟨by rw [hkp]; exact h2.more (by omega), hK⟩)
  clear h h0 hnn hpl hdp hz hlk hD hfi hkp hu 
  generalize PM.pN s = n1 at *
  generalize PM.pD s = d1 at *
  generalize PM.pA s = a1 at *
  subst hdd
  go_enter Tryz.func63, Tryz.ntmps63
  go_wp2_with fail
  refine (cP _).out.mono ?_
  rintro e w1 ⟨ao1, N1, cap1, rfl, hS, b⟩
  have bb := b.alloc b.size (.cells #[.bool a1, .slice ao1 N1 cap1, .bool false] 136)
  have P11 : Hid (Blk (w1.alloc (.cells #[.bool a1, .slice ao1 N1 cap1, .bool false] 136)) w1.heap.size 136 [.bool a1, .slice ao1 N1 cap1, .bool false]) := W_hid (Blk.new _ _ _ rfl)
  have T11 : Hid (SS (w1.alloc (.cells #[.bool a1, .slice ao1 N1 cap1, .bool false] 136)) ao1 N1 cap1 n1) := W_hid (hS.alloc _)
  have L1 := W_hid hS.1
  have B1 := W_hid (bb)
  clear b bb hS
  have hN0 : ((N1 : Int) == 0) = false := by have := L1.out; have := hll.out.1; simp; omega
  have hN1 : ¬ (N1 : Int) = 0 := by have := L1.out; have := hll.out.1; omega
  have hN2 : 0 < N1 ∧ N1 ≤ 100000 := by have := L1.out; have := hll.out; omega
  have e10 := P11.out.cell (j := 0) rfl
  have e11 := P11.out.cell (j := 1) rfl
  have e12 := P11.out.cell (j := 2) rfl
  go_wp2_with fail
  refine (cL.out ao1 N1 cap1 _ B1.out T11.out hN2.1 hN2.2).mono ?_
  rintro e w2 ⟨rfl, b⟩
  have P12 := W_hid (P11.out.keep b)
  have T12 := W_hid (T11.out.below b (Nat.le_refl _))
  clear P11 T11
  have B2 := W_hid (B1.out.trans (b.mono B1.out.size))
  clear b
  clear e10 e11 e12
  go_wp2_with fail
  refine (cT.out _).mono ?_
  rintro e w0 ⟨rfl, rfl⟩
  go_wp2_with fail
  refine (cH.out _ B2.out).mono ?_
  rintro e w3 ⟨rfl, b⟩
  have P13 := W_hid (P12.out.keep b)
  have T13 := W_hid (T12.out.below b (Nat.le_refl _))
  clear P12 T12
  have B3 := W_hid (B2.out.trans (b.mono B2.out.size))
  clear b
  go_wp2_with fail
  refine (cD.out _ B3.out).mono ?_
  rintro e w0 ⟨rfl, rfl⟩
  have e12 := P13.out.cell (j := 2) rfl
  go_wp2_with fail
  clear e12
  refine (cX.out _ B3.out).mono ?_
  rintro e w4 ⟨rfl, h5, k5⟩
  have k5 := W_hid ((Keeps.new B3.out hlw.out).trans k5)
  have cA1 := W_hid (cA.out _ h5)
  clear h5
  go_wp2_with fail
  refine cA1.out.mono ?_
  rintro e w5 ⟨rfl, h6, k6⟩
  have hF := W_hid (hfin.out _ h6 (k5.out.trans k6))
  clear h6 k6
  go_wp2_with fail
  go_ret
  exact ⟨rfl, hF.out⟩
set_option maxRecDepth 100000 in
set_option maxHeartbeats 8000000 in
theorem rRmdir_A (s : ByteArray) (hs : s.size ≤ maxLen) (w : World) (h0 : PM.perr s ≠ 0) :
    Calls Tryz.prog 64 #[.pointer (some ⟨rt, 0, none⟩), .string s] w fun e w' => e = .returned (.int .i64 (PM.perr s)) ∧ Below w.heap.size w w' := by
  have cP := fun w => W_hid (rparsed (w := w) hs)
  generalize PM.perr s = pe at *
  have hne : (pe != 0) = true := by simpa using h0
  replace h0 := W_hid h0
  generalize PM.pN s = n1 at *
  generalize PM.pD s = d1 at *
  generalize PM.pA s = a1 at *
  go_enter Tryz.func64, Tryz.ntmps64
  go_wp2_with fail
  refine (cP _).out.mono ?_
  rintro e w1 ⟨ao1, N1, cap1, rfl, hS, b⟩
  have bb := b.alloc b.size (.cells #[.bool a1, .slice ao1 N1 cap1, .bool d1] 136)
  have P11 : Hid (Blk (w1.alloc (.cells #[.bool a1, .slice ao1 N1 cap1, .bool d1] 136)) w1.heap.size 136 [.bool a1, .slice ao1 N1 cap1, .bool d1]) := W_hid (Blk.new _ _ _ rfl)
  have T11 : Hid (SS (w1.alloc (.cells #[.bool a1, .slice ao1 N1 cap1, .bool d1] 136)) ao1 N1 cap1 n1) := W_hid (hS.alloc _)
  have L1 := W_hid hS.1
  have B1 := W_hid (bb)
  clear b bb hS
  go_wp2_with fail
  go_ret
  exact ⟨rfl, B1.out⟩
set_option maxRecDepth 100000 in
set_option maxHeartbeats 8000000 in
theorem rRmdir_B (s : ByteArray) (hs : s.size ≤ maxLen) (w : World) (h0 : PM.perr s = 0) (hnil : PM.pN s = []) :
    Calls Tryz.prog 64 #[.pointer (some ⟨rt, 0, none⟩), .string s] w fun e w' => e = .returned (.int .i64 2) ∧ Below w.heap.size w w' := by
  have cP := fun w => W_hid (rparsed (w := w) hs)
  rw [h0] at cP
  rw [hnil] at cP
  clear h0 hnil
  generalize PM.pD s = d1 at *
  generalize PM.pA s = a1 at *
  obtain ⟨n1, hn1⟩ : ∃ n1 : List ByteArray, n1 = [] := ⟨_, rfl⟩
  rw [← hn1] at cP
  replace hn1 := W_hid hn1
  go_enter Tryz.func64, Tryz.ntmps64
  go_wp2_with fail
  refine (cP _).out.mono ?_
  rintro e w1 ⟨ao1, N1, cap1, rfl, hS, b⟩
  have bb := b.alloc b.size (.cells #[.bool a1, .slice ao1 N1 cap1, .bool d1] 136)
  have P11 : Hid (Blk (w1.alloc (.cells #[.bool a1, .slice ao1 N1 cap1, .bool d1] 136)) w1.heap.size 136 [.bool a1, .slice ao1 N1 cap1, .bool d1]) := W_hid (Blk.new _ _ _ rfl)
  have T11 : Hid (SS (w1.alloc (.cells #[.bool a1, .slice ao1 N1 cap1, .bool d1] 136)) ao1 N1 cap1 n1) := W_hid (hS.alloc _)
  have L1 := W_hid hS.1
  have B1 := W_hid (bb)
  clear b bb hS
  obtain rfl : N1 = 0 := by have := L1.out; rw [hn1.out] at this; simpa using this.symm
  go_wp2_with fail
  go_ret
  exact ⟨rfl, B1.out⟩
set_option maxRecDepth 100000 in
set_option maxHeartbeats 8000000 in
theorem rRmdir_C (s : ByteArray) (hs : s.size ≤ maxLen) (w : World) (h : RW base rt rg I B L c S D (kap D) w) (h0 : PM.perr s = 0) (hnn : PM.pN s ≠ []) (r : Int) (hE : (plA D (PM.pN s)).2 = r) (hr0 : r ≠ 0) :
    Calls Tryz.prog 64 #[.pointer (some ⟨rt, 0, none⟩), .string s] w fun e w' => e = .returned (.int .i64 r) ∧ Below w.heap.size w w' := by
  have cP := fun w => W_hid (rparsed (w := w) hs)
  rw [h0] at cP
  have hll := W_hid (And.intro (List.length_pos_iff.2 hnn) (pN_len s))
  have cL := W_hid (fun (ao : Option Addr) (n cap : Nat) (W : World) (hb : Below w.heap.size w W) (hl : SS W ao n cap (PM.pN s)) (h0 : 0 < n) (hN : n ≤ 100000) => place_d (PM.pA s) (PM.pD s) (PM.pN s) ao n cap W (h.ex.keep hb) hl h0 hN)
  have hpl := pl_err hnn (by rw [hE]; exact hr0)
  rw [hE] at hpl
  simp only [hpl] at cL
  have hne : (r != 0) = true := by simpa using hr0
  replace hr0 := W_hid hr0
  clear h h0 hnn hE hpl
  generalize PM.pN s = n1 at *
  generalize PM.pD s = d1 at *
  generalize PM.pA s = a1 at *
  go_enter Tryz.func64, Tryz.ntmps64
  go_wp2_with fail
  refine (cP _).out.mono ?_
  rintro e w1 ⟨ao1, N1, cap1, rfl, hS, b⟩
  have bb := b.alloc b.size (.cells #[.bool a1, .slice ao1 N1 cap1, .bool d1] 136)
  have P11 : Hid (Blk (w1.alloc (.cells #[.bool a1, .slice ao1 N1 cap1, .bool d1] 136)) w1.heap.size 136 [.bool a1, .slice ao1 N1 cap1, .bool d1]) := W_hid (Blk.new _ _ _ rfl)
  have T11 : Hid (SS (w1.alloc (.cells #[.bool a1, .slice ao1 N1 cap1, .bool d1] 136)) ao1 N1 cap1 n1) := W_hid (hS.alloc _)
  have L1 := W_hid hS.1
  have B1 := W_hid (bb)
  clear b bb hS
  have hN0 : ((N1 : Int) == 0) = false := by have := L1.out; have := hll.out.1; simp; omega
  have hN1 : ¬ (N1 : Int) = 0 := by have := L1.out; have := hll.out.1; omega
  have hN2 : 0 < N1 ∧ N1 ≤ 100000 := by have := L1.out; have := hll.out; omega
  have e10 := P11.out.cell (j := 0) rfl
  have e11 := P11.out.cell (j := 1) rfl
  have e12 := P11.out.cell (j := 2) rfl
  go_wp2_with fail
  refine (cL.out ao1 N1 cap1 _ B1.out T11.out hN2.1 hN2.2).mono ?_
  rintro e w2 ⟨rfl, b⟩
  have P12 := W_hid (P11.out.keep b)
  have T12 := W_hid (T11.out.below b (Nat.le_refl _))
  clear P11 T11
  have B2 := W_hid (B1.out.trans (b.mono B1.out.size))
  clear b
  clear e10 e11 e12
  go_wp2_with fail
  go_ret
  exact ⟨rfl, B2.out⟩
set_option maxRecDepth 100000 in
set_option maxHeartbeats 8000000 in
theorem rRmdir_D (s : ByteArray) (hs : s.size ≤ maxLen) (w : World) (h : RW base rt rg I B L c S D (kap D) w) (h0 : PM.perr s = 0) (hnn : PM.pN s ≠ []) (p : Int) (dp : Dr) (hdp : D p = some dp) (z : ByteArray) (hpl : plA D (PM.pN s) = ((p, z), 0)) (hz : z = PM.dot) :
    Calls Tryz.prog 64 #[.pointer (some ⟨rt, 0, none⟩), .string s] w fun e w' => e = .returned (.int .i64 2) ∧ Below w.heap.size w w' := by
  have cP := fun w => W_hid (rparsed (w := w) hs)
  rw [h0] at cP
  have hll := W_hid (And.intro (List.length_pos_iff.2 hnn) (pN_len s))
  have cL := W_hid (fun (ao : Option Addr) (n cap : Nat) (W : World) (hb : Below w.heap.size w W) (hl : SS W ao n cap (PM.pN s)) (h0 : 0 < n) (hN : n ≤ 100000) => place_d (PM.pA s) (PM.pD s) (PM.pN s) ao n cap W (h.ex.keep hb) hl h0 hN)
  simp only [hpl] at cL
  have z1 := dot_yes hz
  clear h h0 hnn hpl hdp hz 
  generalize PM.pN s = n1 at *
  generalize PM.pD s = d1 at *
  generalize PM.pA s = a1 at *
  go_enter Tryz.func64, Tryz.ntmps64
  go_wp2_with fail
  refine (cP _).out.mono ?_
  rintro e w1 ⟨ao1, N1, cap1, rfl, hS, b⟩
  have bb := b.alloc b.size (.cells #[.bool a1, .slice ao1 N1 cap1, .bool d1] 136)
  have P11 : Hid (Blk (w1.alloc (.cells #[.bool a1, .slice ao1 N1 cap1, .bool d1] 136)) w1.heap.size 136 [.bool a1, .slice ao1 N1 cap1, .bool d1]) := W_hid (Blk.new _ _ _ rfl)
  have T11 : Hid (SS (w1.alloc (.cells #[.bool a1, .slice ao1 N1 cap1, .bool d1] 136)) ao1 N1 cap1 n1) := W_hid (hS.alloc _)
  have L1 := W_hid hS.1
  have B1 := W_hid (bb)
  clear b bb hS
  have hN0 : ((N1 : Int) == 0) = false := by have := L1.out; have := hll.out.1; simp; omega
  have hN1 : ¬ (N1 : Int) = 0 := by have := L1.out; have := hll.out.1; omega
  have hN2 : 0 < N1 ∧ N1 ≤ 100000 := by have := L1.out; have := hll.out; omega
  have e10 := P11.out.cell (j := 0) rfl
  have e11 := P11.out.cell (j := 1) rfl
  have e12 := P11.out.cell (j := 2) rfl
  go_wp2_with fail
  refine (cL.out ao1 N1 cap1 _ B1.out T11.out hN2.1 hN2.2).mono ?_
  rintro e w2 ⟨rfl, b⟩
  have P12 := W_hid (P11.out.keep b)
  have T12 := W_hid (T11.out.below b (Nat.le_refl _))
  clear P11 T11
  have B2 := W_hid (B1.out.trans (b.mono B1.out.size))
  clear b
  clear e10 e11 e12
  go_wp2_with fail
  go_ret
  exact ⟨rfl, B2.out⟩
set_option maxRecDepth 100000 in
set_option maxHeartbeats 8000000 in
theorem rRmdir_DD (s : ByteArray) (hs : s.size ≤ maxLen) (w : World) (h : RW base rt rg I B L c S D (kap D) w) (h0 : PM.perr s = 0) (hnn : PM.pN s ≠ []) (p : Int) (dp : Dr) (hdp : D p = some dp) (z : ByteArray) (hpl : plA D (PM.pN s) = ((p, z), 0)) (hz : z = PM.dots) :
    Calls Tryz.prog 64 #[.pointer (some ⟨rt, 0, none⟩), .string s] w fun e w' => e = .returned (.int .i64 15) ∧ Below w.heap.size w w' := by
  have cP := fun w => W_hid (rparsed (w := w) hs)
  rw [h0] at cP
  have hll := W_hid (And.intro (List.length_pos_iff.2 hnn) (pN_len s))
  have cL := W_hid (fun (ao : Option Addr) (n cap : Nat) (W : World) (hb : Below w.heap.size w W) (hl : SS W ao n cap (PM.pN s)) (h0 : 0 < n) (hN : n ≤ 100000) => place_d (PM.pA s) (PM.pD s) (PM.pN s) ao n cap W (h.ex.keep hb) hl h0 hN)
  simp only [hpl] at cL
  have hz1 : ¬ z = PM.dot := fun e => PM.dot_ne (e.symm.trans hz)
  obtain ⟨z1, z2⟩ := dot_no hz1
  have z3 := dots_yes hz
  clear h h0 hnn hpl hdp hz hz1 
  generalize PM.pN s = n1 at *
  generalize PM.pD s = d1 at *
  generalize PM.pA s = a1 at *
  go_enter Tryz.func64, Tryz.ntmps64
  go_wp2_with fail
  refine (cP _).out.mono ?_
  rintro e w1 ⟨ao1, N1, cap1, rfl, hS, b⟩
  have bb := b.alloc b.size (.cells #[.bool a1, .slice ao1 N1 cap1, .bool d1] 136)
  have P11 : Hid (Blk (w1.alloc (.cells #[.bool a1, .slice ao1 N1 cap1, .bool d1] 136)) w1.heap.size 136 [.bool a1, .slice ao1 N1 cap1, .bool d1]) := W_hid (Blk.new _ _ _ rfl)
  have T11 : Hid (SS (w1.alloc (.cells #[.bool a1, .slice ao1 N1 cap1, .bool d1] 136)) ao1 N1 cap1 n1) := W_hid (hS.alloc _)
  have L1 := W_hid hS.1
  have B1 := W_hid (bb)
  clear b bb hS
  have hN0 : ((N1 : Int) == 0) = false := by have := L1.out; have := hll.out.1; simp; omega
  have hN1 : ¬ (N1 : Int) = 0 := by have := L1.out; have := hll.out.1; omega
  have hN2 : 0 < N1 ∧ N1 ≤ 100000 := by have := L1.out; have := hll.out; omega
  have e10 := P11.out.cell (j := 0) rfl
  have e11 := P11.out.cell (j := 1) rfl
  have e12 := P11.out.cell (j := 2) rfl
  go_wp2_with fail
  refine (cL.out ao1 N1 cap1 _ B1.out T11.out hN2.1 hN2.2).mono ?_
  rintro e w2 ⟨rfl, b⟩
  have P12 := W_hid (P11.out.keep b)
  have T12 := W_hid (T11.out.below b (Nat.le_refl _))
  clear P11 T11
  have B2 := W_hid (B1.out.trans (b.mono B1.out.size))
  clear b
  clear e10 e11 e12
  go_wp2_with fail
  go_ret
  exact ⟨rfl, B2.out⟩
set_option maxRecDepth 100000 in
set_option maxHeartbeats 8000000 in
theorem rRmdir_E (s : ByteArray) (hs : s.size ≤ maxLen) (w : World) (h : RW base rt rg I B L c S D (kap D) w) (h0 : PM.perr s = 0) (hnn : PM.pN s ≠ []) (p : Int) (dp : Dr) (hdp : D p = some dp) (z : ByteArray) (hpl : plA D (PM.pN s) = ((p, z), 0)) (hz : ¬ (z = PM.dot ∨ z = PM.dots)) (hlk : NT.look z dp.l = none) :
    Calls Tryz.prog 64 #[.pointer (some ⟨rt, 0, none⟩), .string s] w fun e w' => e = .returned (.int .i64 11) ∧ Below w.heap.size w w' := by
  have cP := fun w => W_hid (rparsed (w := w) hs)
  rw [h0] at cP
  have hll := W_hid (And.intro (List.length_pos_iff.2 hnn) (pN_len s))
  have cL := W_hid (fun (ao : Option Addr) (n cap : Nat) (W : World) (hb : Below w.heap.size w W) (hl : SS W ao n cap (PM.pN s)) (h0 : 0 < n) (hN : n ≤ 100000) => place_d (PM.pA s) (PM.pD s) (PM.pN s) ao n cap W (h.ex.keep hb) hl h0 hN)
  simp only [hpl] at cL
  obtain ⟨z1, z2⟩ := dot_no (fun e => hz (.inl e))
  obtain ⟨z3, z4⟩ := dots_no (fun e => hz (.inr e))
  have cH := W_hid (fun (W : World) (hb : Below w.heap.size w W) => has_d p z W (h.ex.keep hb) hdp)
  simp only [hlk, Option.getD_none] at cH
  clear h h0 hnn hpl hdp hz hlk 
  generalize PM.pN s = n1 at *
  generalize PM.pD s = d1 at *
  generalize PM.pA s = a1 at *
  go_enter Tryz.func64, Tryz.ntmps64
  go_wp2_with fail
  refine (cP _).out.mono ?_
  rintro e w1 ⟨ao1, N1, cap1, rfl, hS, b⟩
  have bb := b.alloc b.size (.cells #[.bool a1, .slice ao1 N1 cap1, .bool d1] 136)
  have P11 : Hid (Blk (w1.alloc (.cells #[.bool a1, .slice ao1 N1 cap1, .bool d1] 136)) w1.heap.size 136 [.bool a1, .slice ao1 N1 cap1, .bool d1]) := W_hid (Blk.new _ _ _ rfl)
  have T11 : Hid (SS (w1.alloc (.cells #[.bool a1, .slice ao1 N1 cap1, .bool d1] 136)) ao1 N1 cap1 n1) := W_hid (hS.alloc _)
  have L1 := W_hid hS.1
  have B1 := W_hid (bb)
  clear b bb hS
  have hN0 : ((N1 : Int) == 0) = false := by have := L1.out; have := hll.out.1; simp; omega
  have hN1 : ¬ (N1 : Int) = 0 := by have := L1.out; have := hll.out.1; omega
  have hN2 : 0 < N1 ∧ N1 ≤ 100000 := by have := L1.out; have := hll.out; omega
  have e10 := P11.out.cell (j := 0) rfl
  have e11 := P11.out.cell (j := 1) rfl
  have e12 := P11.out.cell (j := 2) rfl
  go_wp2_with fail
  refine (cL.out ao1 N1 cap1 _ B1.out T11.out hN2.1 hN2.2).mono ?_
  rintro e w2 ⟨rfl, b⟩
  have P12 := W_hid (P11.out.keep b)
  have T12 := W_hid (T11.out.below b (Nat.le_refl _))
  clear P11 T11
  have B2 := W_hid (B1.out.trans (b.mono B1.out.size))
  clear b
  clear e10 e11 e12
  go_wp2_with fail
  refine (cH.out _ B2.out).mono ?_
  rintro e w3 ⟨rfl, b⟩
  have P13 := W_hid (P12.out.keep b)
  have T13 := W_hid (T12.out.below b (Nat.le_refl _))
  clear P12 T12
  have B3 := W_hid (B2.out.trans (b.mono B2.out.size))
  clear b
  go_wp2_with fail
  go_ret
  exact ⟨rfl, B3.out⟩
set_option maxRecDepth 100000 in
set_option maxHeartbeats 8000000 in
theorem rRmdir_F (s : ByteArray) (hs : s.size ≤ maxLen) (w : World) (h : RW base rt rg I B L c S D (kap D) w) (h0 : PM.perr s = 0) (hnn : PM.pN s ≠ []) (p : Int) (dp : Dr) (hdp : D p = some dp) (z : ByteArray) (hpl : plA D (PM.pN s) = ((p, z), 0)) (hz : ¬ (z = PM.dot ∨ z = PM.dots)) (j : Int) (hlk : NT.look z dp.l = some j) (hD : D j = none) :
    Calls Tryz.prog 64 #[.pointer (some ⟨rt, 0, none⟩), .string s] w fun e w' => e = .returned (.int .i64 13) ∧ Below w.heap.size w w' := by
  have cP := fun w => W_hid (rparsed (w := w) hs)
  rw [h0] at cP
  have hll := W_hid (And.intro (List.length_pos_iff.2 hnn) (pN_len s))
  have cL := W_hid (fun (ao : Option Addr) (n cap : Nat) (W : World) (hb : Below w.heap.size w W) (hl : SS W ao n cap (PM.pN s)) (h0 : 0 < n) (hN : n ≤ 100000) => place_d (PM.pA s) (PM.pD s) (PM.pN s) ao n cap W (h.ex.keep hb) hl h0 hN)
  simp only [hpl] at cL
  obtain ⟨z1, z2⟩ := dot_no (fun e => hz (.inl e))
  obtain ⟨z3, z4⟩ := dots_no (fun e => hz (.inr e))
  have cH := W_hid (fun (W : World) (hb : Below w.heap.size w W) => has_d p z W (h.ex.keep hb) hdp)
  have hj0 := look_ne h.ex hdp hlk
  have hj1 : (j == 0) = false := by simpa using hj0
  simp only [hlk, Option.getD_some] at cH
  have cD := W_hid (fun (W : World) (hb : Below w.heap.size w W) => dir_no W (h.ex.keep hb) hD)
  clear h h0 hnn hpl hdp hz hlk hD 
  generalize PM.pN s = n1 at *
  generalize PM.pD s = d1 at *
  generalize PM.pA s = a1 at *
  go_enter Tryz.func64, Tryz.ntmps64
  go_wp2_with fail
  refine (cP _).out.mono ?_
  rintro e w1 ⟨ao1, N1, cap1, rfl, hS, b⟩
  have bb := b.alloc b.size (.cells #[.bool a1, .slice ao1 N1 cap1, .bool d1] 136)
  have P11 : Hid (Blk (w1.alloc (.cells #[.bool a1, .slice ao1 N1 cap1, .bool d1] 136)) w1.heap.size 136 [.bool a1, .slice ao1 N1 cap1, .bool d1]) := W_hid (Blk.new _ _ _ rfl)
  have T11 : Hid (SS (w1.alloc (.cells #[.bool a1, .slice ao1 N1 cap1, .bool d1] 136)) ao1 N1 cap1 n1) := W_hid (hS.alloc _)
  have L1 := W_hid hS.1
  have B1 := W_hid (bb)
  clear b bb hS
  have hN0 : ((N1 : Int) == 0) = false := by have := L1.out; have := hll.out.1; simp; omega
  have hN1 : ¬ (N1 : Int) = 0 := by have := L1.out; have := hll.out.1; omega
  have hN2 : 0 < N1 ∧ N1 ≤ 100000 := by have := L1.out; have := hll.out; omega
  have e10 := P11.out.cell (j := 0) rfl
  have e11 := P11.out.cell (j := 1) rfl
  have e12 := P11.out.cell (j := 2) rfl
  go_wp2_with fail
  refine (cL.out ao1 N1 cap1 _ B1.out T11.out hN2.1 hN2.2).mono ?_
  rintro e w2 ⟨rfl, b⟩
  have P12 := W_hid (P11.out.keep b)
  have T12 := W_hid (T11.out.below b (Nat.le_refl _))
  clear P11 T11
  have B2 := W_hid (B1.out.trans (b.mono B1.out.size))
  clear b
  clear e10 e11 e12
  go_wp2_with fail
  refine (cH.out _ B2.out).mono ?_
  rintro e w3 ⟨rfl, b⟩
  have P13 := W_hid (P12.out.keep b)
  have T13 := W_hid (T12.out.below b (Nat.le_refl _))
  clear P12 T12
  have B3 := W_hid (B2.out.trans (b.mono B2.out.size))
  clear b
  go_wp2_with fail
  refine (cD.out _ B3.out).mono ?_
  rintro e w0 ⟨rfl, rfl⟩
  go_wp2_with fail
  go_ret
  exact ⟨rfl, B3.out⟩
set_option maxRecDepth 100000 in
set_option maxHeartbeats 8000000 in
theorem rRmdir_G (s : ByteArray) (hs : s.size ≤ maxLen) (w : World) (h : RW base rt rg I B L c S D (kap D) w) (h0 : PM.perr s = 0) (hnn : PM.pN s ≠ []) (p : Int) (dp : Dr) (hdp : D p = some dp) (z : ByteArray) (hpl : plA D (PM.pN s) = ((p, z), 0)) (hz : ¬ (z = PM.dot ∨ z = PM.dots)) (j : Int) (hlk : NT.look z dp.l = some j) (dj : Dr) (hD : D j = some dj) (hl : dj.l ≠ []) :
    Calls Tryz.prog 64 #[.pointer (some ⟨rt, 0, none⟩), .string s] w fun e w' => e = .returned (.int .i64 15) ∧ Below w.heap.size w w' := by
  have cP := fun w => W_hid (rparsed (w := w) hs)
  rw [h0] at cP
  have hll := W_hid (And.intro (List.length_pos_iff.2 hnn) (pN_len s))
  have cL := W_hid (fun (ao : Option Addr) (n cap : Nat) (W : World) (hb : Below w.heap.size w W) (hl : SS W ao n cap (PM.pN s)) (h0 : 0 < n) (hN : n ≤ 100000) => place_d (PM.pA s) (PM.pD s) (PM.pN s) ao n cap W (h.ex.keep hb) hl h0 hN)
  simp only [hpl] at cL
  obtain ⟨z1, z2⟩ := dot_no (fun e => hz (.inl e))
  obtain ⟨z3, z4⟩ := dots_no (fun e => hz (.inr e))
  have cH := W_hid (fun (W : World) (hb : Below w.heap.size w W) => has_d p z W (h.ex.keep hb) hdp)
  have hj0 := look_ne h.ex hdp hlk
  have hj1 : (j == 0) = false := by simpa using hj0
  simp only [hlk, Option.getD_some] at cH
  obtain ⟨K, g, ND, capD, cD, hKN, hNc, hW⟩ := h.parent hD
  replace cD := W_hid cD
  replace hW := W_hid hW
  have hK : ¬ (K : Int) < 0 := by omega
  have hKN2 : (K : Int) < (ND : Int) := by omega
  have hl2 : (0 : Int) < (dj.l.length : Int) := by have := List.length_pos_iff.2 hl; omega
  generalize dj.l.length = LJ at *
  clear h h0 hnn hpl hdp hz hlk hD hl 
  generalize PM.pN s = n1 at *
  generalize PM.pD s = d1 at *
  generalize PM.pA s = a1 at *
  go_enter Tryz.func64, Tryz.ntmps64
  go_wp2_with fail
  refine (cP _).out.mono ?_
  rintro e w1 ⟨ao1, N1, cap1, rfl, hS, b⟩
  have bb := b.alloc b.size (.cells #[.bool a1, .slice ao1 N1 cap1, .bool d1] 136)
  have P11 : Hid (Blk (w1.alloc (.cells #[.bool a1, .slice ao1 N1 cap1, .bool d1] 136)) w1.heap.size 136 [.bool a1, .slice ao1 N1 cap1, .bool d1]) := W_hid (Blk.new _ _ _ rfl)
  have T11 : Hid (SS (w1.alloc (.cells #[.bool a1, .slice ao1 N1 cap1, .bool d1] 136)) ao1 N1 cap1 n1) := W_hid (hS.alloc _)
  have L1 := W_hid hS.1
  have B1 := W_hid (bb)
  clear b bb hS
  have hN0 : ((N1 : Int) == 0) = false := by have := L1.out; have := hll.out.1; simp; omega
  have hN1 : ¬ (N1 : Int) = 0 := by have := L1.out; have := hll.out.1; omega
  have hN2 : 0 < N1 ∧ N1 ≤ 100000 := by have := L1.out; have := hll.out; omega
  have e10 := P11.out.cell (j := 0) rfl
  have e11 := P11.out.cell (j := 1) rfl
  have e12 := P11.out.cell (j := 2) rfl
  go_wp2_with fail
  refine (cL.out ao1 N1 cap1 _ B1.out T11.out hN2.1 hN2.2).mono ?_
  rintro e w2 ⟨rfl, b⟩
  have P12 := W_hid (P11.out.keep b)
  have T12 := W_hid (T11.out.below b (Nat.le_refl _))
  clear P11 T11
  have B2 := W_hid (B1.out.trans (b.mono B1.out.size))
  clear b
  clear e10 e11 e12
  go_wp2_with fail
  refine (cH.out _ B2.out).mono ?_
  rintro e w3 ⟨rfl, b⟩
  have P13 := W_hid (P12.out.keep b)
  have T13 := W_hid (T12.out.below b (Nat.le_refl _))
  clear P12 T12
  have B3 := W_hid (B2.out.trans (b.mono B2.out.size))
  clear b
  go_wp2_with fail
  refine (cD.out _ B3.out).mono ?_
  rintro e w0 ⟨rfl, rfl⟩
  obtain ⟨q1, -, -, ⟨aoJ, ccJ, q2⟩, -⟩ := hW.out _ B3.out
  go_wp2_with fail
  go_region_held3 (fun w' => w'.cell? ⟨rt, 1, none⟩ = some (.slice (some ⟨g, 0, none⟩) ND capD) ∧ w'.cell? ⟨g, K * 3 + 2, none⟩ = some (.slice aoJ LJ ccJ) ∧ Below w.heap.size w w') (first | assumption | (refine ⟨?_, ?_, ?_⟩ <;> first | assumption | exact B3.out | exact B3.out.drew | exact Below.drew (by assumption) | go_keep)) (first | (go_at_call 128; refine (cD.out _ (by first | exact B3.out.drew | assumption | exact Below.drew (by assumption))).mono ?_; rintro e w0 ⟨rfl, rfl⟩))
  have B4 := W_hid B3.out.drew
  clear q1 q2
  go_wp2_with fail
  go_ret
  exact ⟨rfl, B4.out⟩
set_option maxRecDepth 100000 in
set_option maxHeartbeats 8000000 in
theorem rRmdir_H (s : ByteArray) (hs : s.size ≤ maxLen) (w : World) (h : RW base rt rg I B L c S D (kap D) w) (h0 : PM.perr s = 0) (hnn : PM.pN s ≠ []) (p : Int) (dp : Dr) (hdp : D p = some dp) (z : ByteArray) (hpl : plA D (PM.pN s) = ((p, z), 0)) (hz : ¬ (z = PM.dot ∨ z = PM.dots)) (j : Int) (hlk : NT.look z dp.l = some j) (dj : Dr) (hD : D j = some dj) (hl : dj.l = []) (hfi : IN.Fine I L B k S) (hI : I ≤ 4096) (hL : L ≤ 32768) (hk : k < 1000000) (hnm : ∀ m d k x, NT.upd (NT.cutD D p z) j none m = some d → (k, x) ∈ d.l → x ≠ j) :
    Calls Tryz.prog 64 #[.pointer (some ⟨rt, 0, none⟩), .string s] w fun e w' => e = .returned (.int .i64 0) ∧ RP base rt rg I B L (c + 2) (IN.ulS S j) (NT.upd (NT.cutD D p z) j none) w w' := by
  have cP := fun w => W_hid (rparsed (w := w) hs)
  rw [h0] at cP
  have hll := W_hid (And.intro (List.length_pos_iff.2 hnn) (pN_len s))
  have cL := W_hid (fun (ao : Option Addr) (n cap : Nat) (W : World) (hb : Below w.heap.size w W) (hl : SS W ao n cap (PM.pN s)) (h0 : 0 < n) (hN : n ≤ 100000) => place_d (PM.pA s) (PM.pD s) (PM.pN s) ao n cap W (h.ex.keep hb) hl h0 hN)
  simp only [hpl] at cL
  obtain ⟨z1, z2⟩ := dot_no (fun e => hz (.inl e))
  obtain ⟨z3, z4⟩ := dots_no (fun e => hz (.inr e))
  have cH := W_hid (fun (W : World) (hb : Below w.heap.size w W) => has_d p z W (h.ex.keep hb) hdp)
  have hj0 := look_ne h.ex hdp hlk
  have hj1 : (j == 0) = false := by simpa using hj0
  simp only [hlk, Option.getD_some] at cH
  obtain ⟨K, g, ND, capD, cD, hKN, hNc, hW⟩ := h.parent hD
  replace cD := W_hid cD
  replace hW := W_hid hW
  have hK : ¬ (K : Int) < 0 := by omega
  have hKN2 : (K : Int) < (ND : Int) := by omega
  have hl2 : dj.l.length = 0 := by rw [hl]; rfl
  rw [hl2] at hW
  generalize dj.l.length = LJ at *
  have hlw := W_hid h.low
  have cX := W_hid (fun (W : World) (hb : Below w.heap.size w W) => drop_d p z W (h.keep hb) hdp)
  have cA := W_hid (fun (W : World) (h2 : RW base rt rg I B L c S (NT.cutD D p z) (kap D) W) => away_d j W h2 hfi hI hL hk)
  have hkp : ∀ m d k x, NT.upd (NT.cutD D p z) j none m = some d → (k, x) ∈ d.l → kap D x = kap (NT.upd (NT.cutD D p z) j none) x := fun m d k x hm hx => by
    have hxj := hnm m d k x hm hx
    unfold kap
    rw [NT.upd_ne hxj]
    by_cases e : D x = none
    · rw [if_pos e, if_pos (NT.cutD_none.2 e)]
    · rw [if_neg e, if_neg (fun e2 => e (NT.cutD_none.1 e2))]
  have hfin := W_hid (fun (W : World) (h2 : RW base rt rg I B L c (IN.ulS S j) (NT.upd (NT.cutD D p z) j none) (kap D) W) (hK : Keeps base UT w W) => show RP base rt rg I B L (c + 2) (IN.ulS S j) (NT.upd (NT.cutD D p z) j none) w W from ⟨(h2.kinds hkp).more (by omega), hK⟩)
  clear h h0 hnn hpl hdp hz hlk hD hl hfi hkp hnm 
  generalize PM.pN s = n1 at *
  generalize PM.pD s = d1 at *
  generalize PM.pA s = a1 at *
  go_enter Tryz.func64, Tryz.ntmps64
  go_wp2_with fail
  refine (cP _).out.mono ?_
  rintro e w1 ⟨ao1, N1, cap1, rfl, hS, b⟩
  have bb := b.alloc b.size (.cells #[.bool a1, .slice ao1 N1 cap1, .bool d1] 136)
  have P11 : Hid (Blk (w1.alloc (.cells #[.bool a1, .slice ao1 N1 cap1, .bool d1] 136)) w1.heap.size 136 [.bool a1, .slice ao1 N1 cap1, .bool d1]) := W_hid (Blk.new _ _ _ rfl)
  have T11 : Hid (SS (w1.alloc (.cells #[.bool a1, .slice ao1 N1 cap1, .bool d1] 136)) ao1 N1 cap1 n1) := W_hid (hS.alloc _)
  have L1 := W_hid hS.1
  have B1 := W_hid (bb)
  clear b bb hS
  have hN0 : ((N1 : Int) == 0) = false := by have := L1.out; have := hll.out.1; simp; omega
  have hN1 : ¬ (N1 : Int) = 0 := by have := L1.out; have := hll.out.1; omega
  have hN2 : 0 < N1 ∧ N1 ≤ 100000 := by have := L1.out; have := hll.out; omega
  have e10 := P11.out.cell (j := 0) rfl
  have e11 := P11.out.cell (j := 1) rfl
  have e12 := P11.out.cell (j := 2) rfl
  go_wp2_with fail
  refine (cL.out ao1 N1 cap1 _ B1.out T11.out hN2.1 hN2.2).mono ?_
  rintro e w2 ⟨rfl, b⟩
  have P12 := W_hid (P11.out.keep b)
  have T12 := W_hid (T11.out.below b (Nat.le_refl _))
  clear P11 T11
  have B2 := W_hid (B1.out.trans (b.mono B1.out.size))
  clear b
  clear e10 e11 e12
  go_wp2_with fail
  refine (cH.out _ B2.out).mono ?_
  rintro e w3 ⟨rfl, b⟩
  have P13 := W_hid (P12.out.keep b)
  have T13 := W_hid (T12.out.below b (Nat.le_refl _))
  clear P12 T12
  have B3 := W_hid (B2.out.trans (b.mono B2.out.size))
  clear b
  go_wp2_with fail
  refine (cD.out _ B3.out).mono ?_
  rintro e w0 ⟨rfl, rfl⟩
  obtain ⟨q1, -, -, ⟨aoJ, ccJ, q2⟩, -⟩ := hW.out _ B3.out
  go_wp2_with fail
  go_region_held3 (fun w' => w'.cell? ⟨rt, 1, none⟩ = some (.slice (some ⟨g, 0, none⟩) ND capD) ∧ w'.cell? ⟨g, K * 3 + 2, none⟩ = some (.slice aoJ 0 ccJ) ∧ Below w.heap.size w w') (first | assumption | (refine ⟨?_, ?_, ?_⟩ <;> first | assumption | exact B3.out | exact B3.out.drew | exact Below.drew (by assumption) | go_keep)) (first | (go_at_call 128; refine (cD.out _ (by first | exact B3.out.drew | assumption | exact Below.drew (by assumption))).mono ?_; rintro e w0 ⟨rfl, rfl⟩))
  have B4 := W_hid B3.out.drew
  clear q1 q2
  go_wp2_with fail
  refine (cX.out _ B4.out).mono ?_
  rintro e w5 ⟨rfl, h5, k5⟩
  have k5 := W_hid ((Keeps.new B4.out hlw.out).trans k5)
  have cA1 := W_hid (cA.out _ h5)
  clear h5
  go_wp2_with fail
  refine cA1.out.mono ?_
  rintro e w6 ⟨rfl, h6, k6⟩
  have hF := W_hid (hfin.out _ h6 (k5.out.trans k6))
  clear h6 k6
  go_wp2_with fail
  go_ret
  exact ⟨rfl, hF.out⟩
theorem comp_last {s : ByteArray} (hnn : PM.pN s ≠ []) : PM.comp (NT.last (PM.pN s)) = true := by
  have h0 := List.length_pos_iff.2 hnn
  refine pN_comp s _ ?_
  rw [← last_at (PM.pN s) (PM.pN s).length rfl (by omega)]
  exact List.getElem_mem _
theorem name_no {z : ByteArray} (hk : PM.comp z = true) : PM.name z = false ↔ (z = PM.dot ∨ z = PM.dots) := by
  unfold PM.name
  rw [hk]
  by_cases e1 : z = PM.dot <;> by_cases e2 : z = PM.dots <;> simp [e1, e2]
theorem rUnlink_all (s : ByteArray) (hs : s.size ≤ maxLen) (w : World) (h : RW base rt rg I B L c S D (kap D) w) (hfi : IN.Fine I L B k S) (hI : I ≤ 4096) (hL : L ≤ 32768) (hk : k < 1000000) :
    Calls Tryz.prog 63 #[.pointer (some ⟨rt, 0, none⟩), .string s] w fun e w' => e = .returned (.int .i64 (er (NT.unlR D s))) ∧ RP base rt rg I B L (c + 2) (NT.unlS S D s).1 (NT.unlS S D s).2 w w' := by
  have err : ∀ r, NT.unlR D s = .error r → Calls Tryz.prog 63 #[.pointer (some ⟨rt, 0, none⟩), .string s] w (fun e w' => e = .returned (.int .i64 r) ∧ Below w.heap.size w w') → Calls Tryz.prog 63 #[.pointer (some ⟨rt, 0, none⟩), .string s] w fun e w' => e = .returned (.int .i64 (er (NT.unlR D s))) ∧ RP base rt rg I B L (c + 2) (NT.unlS S D s).1 (NT.unlS S D s).2 w w' := fun r hr hc => by
    unfold NT.unlS
    rw [hr]
    refine hc.mono ?_
    rintro e w' ⟨rfl, hb⟩
    exact ⟨rfl, h.same hb⟩
  by_cases h0 : PM.perr s = 0
  · by_cases hnn : PM.pN s = []
    · exact err 14 (by unfold NT.unlR NT.cutR NT.placeC NT.place; rw [if_pos h0, if_pos hnn]) (rUnlink_B s hs w h0 hnn)
    · by_cases hE : (plA D (PM.pN s)).2 = 0
      · obtain ⟨p, dp, hdp, hpl, -, hp, -⟩ := pl_ok hnn hE
        have hu : ∀ v, NT.ulc D (NT.last (PM.pN s)) (PM.pD s) p = v → NT.unlR D s = if v = 0 then .ok p else .error v := fun v hv => by
          unfold NT.unlR NT.cutR NT.placeC
          rw [if_pos h0, hp]
          simp only [hv]
        have hat : NT.at_ D p (NT.last (PM.pN s)) = NT.look (NT.last (PM.pN s)) dp.l := by unfold NT.at_; rw [hdp]
        by_cases hz : NT.last (PM.pN s) = PM.dot ∨ NT.last (PM.pN s) = PM.dots
        · exact err 14 (hu 14 (by unfold NT.ulc; rw [if_pos ((name_no (comp_last hnn)).2 hz)])) (rUnlink_D s hs w h h0 hnn p dp hdp _ hpl hz)
        · have hul : NT.ulc D (NT.last (PM.pN s)) (PM.pD s) p = (match NT.look (NT.last (PM.pN s)) dp.l with | none => 11 | some x => if D x ≠ none then 14 else if PM.pD s = true then 13 else 0) := by
            unfold NT.ulc
            rw [if_neg (fun e => hz ((name_no (comp_last hnn)).1 e)), hat]
            rfl
          cases hlk : NT.look (NT.last (PM.pN s)) dp.l with
          | none => exact err 11 (hu 11 (by rw [hul, hlk])) (rUnlink_E s hs w h h0 hnn p dp hdp _ hpl hz hlk)
          | some j =>
            rw [hlk] at hul
            simp only at hul
            cases hD : D j with
            | some dj => exact err 14 (hu 14 (by rw [hul, hD, if_pos (by simp)])) (rUnlink_F s hs w h h0 hnn p dp hdp _ hpl hz j hlk dj hD)
            | none =>
              rw [hD, if_neg (fun e => e rfl)] at hul
              cases hd : PM.pD s with
              | true => exact err 13 (hu 13 (by rw [hul, hd, if_pos rfl])) (rUnlink_G s hs w h h0 hnn p dp hdp _ hpl hz j hlk hD hd)
              | false =>
                have e := hu 0 (by rw [hul, hd, if_neg (by simp)])
                rw [if_pos rfl] at e
                unfold NT.unlS
                rw [e]
                simp only [er]
                unfold NT.tgt
                rw [hat, hlk]
                exact rUnlink_H s hs w h h0 hnn p dp hdp _ hpl hz j hlk hD hd hfi hI hL hk
      · exact err _ (by unfold NT.unlR NT.cutR NT.placeC; rw [if_pos h0, pl_place hnn hE]) (rUnlink_C s hs w h h0 hnn _ rfl hE)
  · exact err _ (by unfold NT.unlR NT.cutR; rw [if_neg h0]) (rUnlink_A s hs w h0)
theorem rRmdir_all (s : ByteArray) (hs : s.size ≤ maxLen) (w : World) (h : RW base rt rg I B L c S D (kap D) w) {ct : Nat} (hti : NT.TI I ct NT.e0 S D) (hfi : IN.Fine I L B k S) (hI : I ≤ 4096) (hL : L ≤ 32768) (hk : k < 1000000) :
    Calls Tryz.prog 64 #[.pointer (some ⟨rt, 0, none⟩), .string s] w fun e w' => e = .returned (.int .i64 (er (NT.rmdR D s))) ∧ RP base rt rg I B L (c + 2) (NT.rmdS S D s).1 (NT.rmdS S D s).2 w w' := by
  have err : ∀ r, NT.rmdR D s = .error r → Calls Tryz.prog 64 #[.pointer (some ⟨rt, 0, none⟩), .string s] w (fun e w' => e = .returned (.int .i64 r) ∧ Below w.heap.size w w') → Calls Tryz.prog 64 #[.pointer (some ⟨rt, 0, none⟩), .string s] w fun e w' => e = .returned (.int .i64 (er (NT.rmdR D s))) ∧ RP base rt rg I B L (c + 2) (NT.rmdS S D s).1 (NT.rmdS S D s).2 w w' := fun r hr hc => by
    unfold NT.rmdS
    rw [hr]
    refine hc.mono ?_
    rintro e w' ⟨rfl, hb⟩
    exact ⟨rfl, h.same hb⟩
  by_cases h0 : PM.perr s = 0
  · by_cases hnn : PM.pN s = []
    · exact err 2 (by unfold NT.rmdR NT.cutR NT.placeC NT.place; rw [if_pos h0, if_pos hnn]) (rRmdir_B s hs w h0 hnn)
    · by_cases hE : (plA D (PM.pN s)).2 = 0
      · obtain ⟨p, dp, hdp, hpl, -, -, hp⟩ := pl_ok hnn hE
        have hu : ∀ v, NT.rmc D (NT.last (PM.pN s)) p = v → NT.rmdR D s = if v = 0 then .ok p else .error v := fun v hv => by
          unfold NT.rmdR NT.cutR NT.placeC
          rw [if_pos h0, hp]
          simp only [hv]
        have hat : NT.at_ D p (NT.last (PM.pN s)) = NT.look (NT.last (PM.pN s)) dp.l := by unfold NT.at_; rw [hdp]
        by_cases hz1 : NT.last (PM.pN s) = PM.dot
        · exact err 2 (hu 2 (by unfold NT.rmc; rw [if_pos hz1])) (rRmdir_D s hs w h h0 hnn p dp hdp _ hpl hz1)
        · by_cases hz2 : NT.last (PM.pN s) = PM.dots
          · exact err 15 (hu 15 (by unfold NT.rmc; rw [if_neg hz1, if_pos hz2])) (rRmdir_DD s hs w h h0 hnn p dp hdp _ hpl hz2)
          · have hz : ¬ (NT.last (PM.pN s) = PM.dot ∨ NT.last (PM.pN s) = PM.dots) := fun e => e.elim hz1 hz2
            have hul : NT.rmc D (NT.last (PM.pN s)) p = (match NT.look (NT.last (PM.pN s)) dp.l with | none => 11 | some x => match D x with | none => 13 | some dx => if dx.l ≠ [] then 15 else 0) := by
              unfold NT.rmc
              rw [if_neg hz1, if_neg hz2, hat]
              rfl
            cases hlk : NT.look (NT.last (PM.pN s)) dp.l with
            | none => exact err 11 (hu 11 (by rw [hul, hlk])) (rRmdir_E s hs w h h0 hnn p dp hdp _ hpl hz hlk)
            | some j =>
              rw [hlk] at hul hat
              simp only at hul
              cases hD : D j with
              | none => exact err 13 (hu 13 (by rw [hul, hD])) (rRmdir_F s hs w h h0 hnn p dp hdp _ hpl hz j hlk hD)
              | some dj =>
                rw [hD] at hul
                simp only at hul
                by_cases hl : dj.l = []
                · have e := hu 0 (by rw [hul, if_neg (fun e => e hl)])
                  rw [if_pos rfl] at e
                  unfold NT.rmdS
                  rw [e]
                  simp only [er]
                  unfold NT.tgt
                  rw [hat]
                  have ht := hti.rmdir hat hD hl
                  exact rRmdir_H s hs w h h0 hnn p dp hdp _ hpl hz j hlk dj hD hl hfi hI hL hk (TI_free ht (hti.ul_dir hD))
                · exact err 15 (hu 15 (by rw [hul, if_pos hl])) (rRmdir_G s hs w h h0 hnn p dp hdp _ hpl hz j hlk dj hD hl)
      · exact err _ (by unfold NT.rmdR NT.cutR NT.placeC; rw [if_pos h0, pl_place hnn hE]) (rRmdir_C s hs w h h0 hnn _ rfl hE)
  · exact err _ (by unfold NT.rmdR NT.cutR; rw [if_neg h0]) (rRmdir_A s hs w h0)
end
end RN
end Go.Proofs.YtmnmheocmcmpmaaGreat

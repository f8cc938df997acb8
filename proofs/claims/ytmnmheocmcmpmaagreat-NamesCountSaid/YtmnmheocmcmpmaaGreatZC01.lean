/- Contracts of the document's own Right, end, cut, Stored, Cut and Same. -/
import Derived.Test.YtmnmheocmcmpmaaGreatZX02
import Derived.Test.YtmnmheocmcmpmaaGreatZB08
import Derived.Test.YtmnmheocmcmpmaaGreatZB03
import Derived.Deep.Slices
import Derived.Test.YtmnmheocmcmpmaaGreatZB06
import Derived.Deep.RegionHeld3
import Derived.OrdersHeld
import Derived.Test.YtmnmheocmcmpmaaGreatZB02
import Derived.ShutString
import Derived.ChangeOld
import Derived.Test.YtmnmheocmcmpmaaGreatZB01

namespace Go.Proofs.YtmnmheocmcmpmaaGreat
open Go.ChangeShapes Go.WideShapes Go.ChangeAt Go.RowKit
set_option linter.unusedVariables false
set_option linter.unusedSimpArgs false
namespace RN
open IN (Keeps)
open NT (Dr Ds er nu findR)
section
variable {base rt rg I B L c k : Nat} {S : Int → Option IN.Nd} {D : Ds} {κ : Int → Int} {w w' : World}
set_option maxRecDepth 100000
set_option maxHeartbeats 8000000
theorem pblk (w : World) (a d : Bool) (o : Option Addr) (n c : Nat) : Blk (w.alloc (.cells #[.bool a, .slice o n c, .bool d] 136)) w.heap.size 136 [.bool a, .slice o n c, .bool d] := Blk.new _ _ _ rfl
theorem rRename_A (s t : ByteArray) (hs : s.size ≤ maxLen) (ht : t.size ≤ maxLen) (w : World) (h0 : PM.perr s ≠ 0) :
    Calls Tryz.prog 65 #[.pointer (some ⟨rt, 0, none⟩), .string s, .string t] w fun e w' => e = .returned (.int .i64 (PM.perr s)) ∧ Below w.heap.size w w' := by
  have cP := fun w => W_hid (rparsed (w := w) hs)
  have cQ := fun w => W_hid (rparsed (w := w) ht)
  generalize PM.perr s = pe at *
  have hne : (pe != 0) = true := by simpa using h0
  replace h0 := W_hid h0
  generalize PM.pN s = n1 at *
  generalize PM.pD s = d1 at *
  generalize PM.pA s = a1 at *
  generalize PM.pN t = n2 at *
  generalize PM.pD t = d2 at *
  generalize PM.pA t = a2 at *
  go_enter Tryz.func65, Tryz.ntmps65
  go_wp2_with fail
  refine (cP _).out.mono ?_
  rintro e w1 ⟨ao1, N1, cap1, rfl, hS, b⟩
  have bb := b.alloc b.size (.cells #[.bool a1, .slice ao1 N1 cap1, .bool d1] 136)
  have P11 := W_hid (pblk w1 a1 d1 ao1 N1 cap1)
  have T11 := W_hid (hS.alloc (.cells #[.bool a1, .slice ao1 N1 cap1, .bool d1] 136))
  have L1 := W_hid hS.1
  have B1 := W_hid (bb)
  clear b bb hS
  go_wp2_with fail
  go_ret
  exact ⟨rfl, B1.out⟩
theorem rRename_B (s t : ByteArray) (hs : s.size ≤ maxLen) (ht : t.size ≤ maxLen) (w : World) (h0 : PM.perr s = 0) (h1 : PM.perr t ≠ 0) :
    Calls Tryz.prog 65 #[.pointer (some ⟨rt, 0, none⟩), .string s, .string t] w fun e w' => e = .returned (.int .i64 (PM.perr t)) ∧ Below w.heap.size w w' := by
  have cP := fun w => W_hid (rparsed (w := w) hs)
  have cQ := fun w => W_hid (rparsed (w := w) ht)
  rw [h0] at cP
  generalize PM.perr t = pe at *
  have hne : (pe != 0) = true := by simpa using h1
  replace h1 := W_hid h1
  clear h0
  generalize PM.pN s = n1 at *
  generalize PM.pD s = d1 at *
  generalize PM.pA s = a1 at *
  generalize PM.pN t = n2 at *
  generalize PM.pD t = d2 at *
  generalize PM.pA t = a2 at *
  go_enter Tryz.func65, Tryz.ntmps65
  go_wp2_with fail
  refine (cP _).out.mono ?_
  rintro e w1 ⟨ao1, N1, cap1, rfl, hS, b⟩
  have bb := b.alloc b.size (.cells #[.bool a1, .slice ao1 N1 cap1, .bool d1] 136)
  have P11 := W_hid (pblk w1 a1 d1 ao1 N1 cap1)
  have T11 := W_hid (hS.alloc (.cells #[.bool a1, .slice ao1 N1 cap1, .bool d1] 136))
  have L1 := W_hid hS.1
  have B1 := W_hid (bb)
  clear b bb hS
  go_wp2_with fail
  refine (cQ _).out.mono ?_
  rintro e w2 ⟨ao2, N2, cap2, rfl, hS, b⟩
  have bb := b.alloc b.size (.cells #[.bool a2, .slice ao2 N2 cap2, .bool d2] 136)
  have P22 := W_hid (pblk w2 a2 d2 ao2 N2 cap2)
  have T22 := W_hid (hS.alloc (.cells #[.bool a2, .slice ao2 N2 cap2, .bool d2] 136))
  have L2 := W_hid hS.1
  have P12 := W_hid (P11.out.keep bb)
  have T12 := W_hid (T11.out.below bb (Nat.le_refl _))
  clear P11 T11
  have B2 := W_hid (B1.out.trans (bb.mono B1.out.size))
  clear b bb hS
  go_wp2_with fail
  go_ret
  exact ⟨rfl, B2.out⟩
theorem rRename_Ca (s t : ByteArray) (hs : s.size ≤ maxLen) (ht : t.size ≤ maxLen) (w : World) (h0 : PM.perr s = 0) (h1 : PM.perr t = 0) (hn : PM.pN s = []) :
    Calls Tryz.prog 65 #[.pointer (some ⟨rt, 0, none⟩), .string s, .string t] w fun e w' => e = .returned (.int .i64 2) ∧ Below w.heap.size w w' := by
  have cP := fun w => W_hid (rparsed (w := w) hs)
  have cQ := fun w => W_hid (rparsed (w := w) ht)
  rw [h0] at cP
  rw [h1] at cQ
  rw [hn] at cP
  clear h0 h1 hn
  generalize PM.pD s = d1 at *
  generalize PM.pA s = a1 at *
  obtain ⟨n1, hn1⟩ : ∃ n1 : List ByteArray, n1 = [] := ⟨_, rfl⟩
  rw [← hn1] at cP
  replace hn1 := W_hid hn1
  generalize PM.pN t = n2 at *
  generalize PM.pD t = d2 at *
  generalize PM.pA t = a2 at *
  go_enter Tryz.func65, Tryz.ntmps65
  go_wp2_with fail
  refine (cP _).out.mono ?_
  rintro e w1 ⟨ao1, N1, cap1, rfl, hS, b⟩
  have bb := b.alloc b.size (.cells #[.bool a1, .slice ao1 N1 cap1, .bool d1] 136)
  have P11 := W_hid (pblk w1 a1 d1 ao1 N1 cap1)
  have T11 := W_hid (hS.alloc (.cells #[.bool a1, .slice ao1 N1 cap1, .bool d1] 136))
  have L1 := W_hid hS.1
  have B1 := W_hid (bb)
  clear b bb hS
  go_wp2_with fail
  refine (cQ _).out.mono ?_
  rintro e w2 ⟨ao2, N2, cap2, rfl, hS, b⟩
  have bb := b.alloc b.size (.cells #[.bool a2, .slice ao2 N2 cap2, .bool d2] 136)
  have P22 := W_hid (pblk w2 a2 d2 ao2 N2 cap2)
  have T22 := W_hid (hS.alloc (.cells #[.bool a2, .slice ao2 N2 cap2, .bool d2] 136))
  have L2 := W_hid hS.1
  have P12 := W_hid (P11.out.keep bb)
  have T12 := W_hid (T11.out.below bb (Nat.le_refl _))
  clear P11 T11
  have B2 := W_hid (B1.out.trans (bb.mono B1.out.size))
  clear b bb hS
  obtain rfl : N1 = 0 := by have := L1.out; rw [hn1.out] at this; simpa using this.symm
  have e11 := P12.out.cell (j := 1) rfl
  have e21 := P22.out.cell (j := 1) rfl
  go_wp2_with fail
  go_ret
  exact ⟨rfl, B2.out⟩
theorem rRename_Cb (s t : ByteArray) (hs : s.size ≤ maxLen) (ht : t.size ≤ maxLen) (w : World) (h0 : PM.perr s = 0) (h1 : PM.perr t = 0) (hm : PM.pN s ≠ []) (hn : PM.pN t = []) :
    Calls Tryz.prog 65 #[.pointer (some ⟨rt, 0, none⟩), .string s, .string t] w fun e w' => e = .returned (.int .i64 2) ∧ Below w.heap.size w w' := by
  have cP := fun w => W_hid (rparsed (w := w) hs)
  have cQ := fun w => W_hid (rparsed (w := w) ht)
  rw [h0] at cP
  rw [h1] at cQ
  rw [hn] at cQ
  have hl1 := W_hid (List.length_pos_iff.2 hm)
  clear h0 h1 hn hm
  generalize PM.pN s = n1 at *
  generalize PM.pD s = d1 at *
  generalize PM.pA s = a1 at *
  generalize PM.pD t = d2 at *
  generalize PM.pA t = a2 at *
  obtain ⟨n2, hn2⟩ : ∃ n2 : List ByteArray, n2 = [] := ⟨_, rfl⟩
  rw [← hn2] at cQ
  replace hn2 := W_hid hn2
  go_enter Tryz.func65, Tryz.ntmps65
  go_wp2_with fail
  refine (cP _).out.mono ?_
  rintro e w1 ⟨ao1, N1, cap1, rfl, hS, b⟩
  have bb := b.alloc b.size (.cells #[.bool a1, .slice ao1 N1 cap1, .bool d1] 136)
  have P11 := W_hid (pblk w1 a1 d1 ao1 N1 cap1)
  have T11 := W_hid (hS.alloc (.cells #[.bool a1, .slice ao1 N1 cap1, .bool d1] 136))
  have L1 := W_hid hS.1
  have B1 := W_hid (bb)
  clear b bb hS
  go_wp2_with fail
  refine (cQ _).out.mono ?_
  rintro e w2 ⟨ao2, N2, cap2, rfl, hS, b⟩
  have bb := b.alloc b.size (.cells #[.bool a2, .slice ao2 N2 cap2, .bool d2] 136)
  have P22 := W_hid (pblk w2 a2 d2 ao2 N2 cap2)
  have T22 := W_hid (hS.alloc (.cells #[.bool a2, .slice ao2 N2 cap2, .bool d2] 136))
  have L2 := W_hid hS.1
  have P12 := W_hid (P11.out.keep bb)
  have T12 := W_hid (T11.out.below bb (Nat.le_refl _))
  clear P11 T11
  have B2 := W_hid (B1.out.trans (bb.mono B1.out.size))
  clear b bb hS
  have hN0 : ((N1 : Int) == 0) = false := by have := L1.out; have := hl1.out; simp; omega
  have hN1 : ¬ (N1 : Int) = 0 := by have := L1.out; have := hl1.out; omega
  obtain rfl : N2 = 0 := by have := L2.out; rw [hn2.out] at this; simpa using this.symm
  have e11 := P12.out.cell (j := 1) rfl
  have e21 := P22.out.cell (j := 1) rfl
  go_wp2_with fail
  go_ret
  exact ⟨rfl, B2.out⟩
theorem rRename_D (s t : ByteArray) (hs : s.size ≤ maxLen) (ht : t.size ≤ maxLen) (w : World) (h : RW base rt rg I B L c S D (kap D) w) (h0 : PM.perr s = 0) (h1 : PM.perr t = 0) (hnn1 : PM.pN s ≠ []) (hnn2 : PM.pN t ≠ []) (r : Int) (hE : (plA D (PM.pN s)).2 = r) (hr0 : r ≠ 0) :
    Calls Tryz.prog 65 #[.pointer (some ⟨rt, 0, none⟩), .string s, .string t] w fun e w' => e = .returned (.int .i64 r) ∧ Below w.heap.size w w' := by
  have cP := fun w => W_hid (rparsed (w := w) hs)
  have cQ := fun w => W_hid (rparsed (w := w) ht)
  rw [h0] at cP
  rw [h1] at cQ
  have hl1 := W_hid (And.intro (List.length_pos_iff.2 hnn1) (pN_len s))
  have hl2 := W_hid (And.intro (List.length_pos_iff.2 hnn2) (pN_len t))
  have cX := W_hid (fun (ao : Option Addr) (n cap : Nat) (W : World) (hb : Below w.heap.size w W) (hl : SS W ao n cap (PM.pN s)) (h0 : 0 < n) (hN : n ≤ 100000) => place_d (PM.pA s) (PM.pD s) (PM.pN s) ao n cap W (h.ex.keep hb) hl h0 hN)
  have cY := W_hid (fun (ao : Option Addr) (n cap : Nat) (W : World) (hb : Below w.heap.size w W) (hl : SS W ao n cap (PM.pN t)) (h0 : 0 < n) (hN : n ≤ 100000) => place_d (PM.pA t) (PM.pD t) (PM.pN t) ao n cap W (h.ex.keep hb) hl h0 hN)
  have hpl := pl_err hnn1 (by rw [hE]; exact hr0)
  rw [hE] at hpl
  simp only [hpl] at cX
  have hne : (r != 0) = true := by simpa using hr0
  replace hr0 := W_hid hr0
  clear h h0 h1 hnn1 hnn2 hE hpl cY
  generalize PM.pN s = n1 at *
  generalize PM.pD s = d1 at *
  generalize PM.pA s = a1 at *
  generalize PM.pN t = n2 at *
  generalize PM.pD t = d2 at *
  generalize PM.pA t = a2 at *
  go_enter Tryz.func65, Tryz.ntmps65
  go_wp2_with fail
  refine (cP _).out.mono ?_
  rintro e w1 ⟨ao1, N1, cap1, rfl, hS, b⟩
  have bb := b.alloc b.size (.cells #[.bool a1, .slice ao1 N1 cap1, .bool d1] 136)
  have P11 := W_hid (pblk w1 a1 d1 ao1 N1 cap1)
  have T11 := W_hid (hS.alloc (.cells #[.bool a1, .slice ao1 N1 cap1, .bool d1] 136))
  have L1 := W_hid hS.1
  have B1 := W_hid (bb)
  clear b bb hS
  go_wp2_with fail
  refine (cQ _).out.mono ?_
  rintro e w2 ⟨ao2, N2, cap2, rfl, hS, b⟩
  have bb := b.alloc b.size (.cells #[.bool a2, .slice ao2 N2 cap2, .bool d2] 136)
  have P22 := W_hid (pblk w2 a2 d2 ao2 N2 cap2)
  have T22 := W_hid (hS.alloc (.cells #[.bool a2, .slice ao2 N2 cap2, .bool d2] 136))
  have L2 := W_hid hS.1
  have P12 := W_hid (P11.out.keep bb)
  have T12 := W_hid (T11.out.below bb (Nat.le_refl _))
  clear P11 T11
  have B2 := W_hid (B1.out.trans (bb.mono B1.out.size))
  clear b bb hS
  have hN01 : ((N1 : Int) == 0) = false := by have := L1.out; have := hl1.out.1; simp; omega
  have hN11 : ¬ (N1 : Int) = 0 := by have := L1.out; have := hl1.out.1; omega
  have hN21 : 0 < N1 ∧ N1 ≤ 100000 := by have := L1.out; have := hl1.out; omega
  have hN02 : ((N2 : Int) == 0) = false := by have := L2.out; have := hl2.out.1; simp; omega
  have hN12 : ¬ (N2 : Int) = 0 := by have := L2.out; have := hl2.out.1; omega
  have hN22 : 0 < N2 ∧ N2 ≤ 100000 := by have := L2.out; have := hl2.out; omega
  have e10 := P12.out.cell (j := 0) rfl
  have e11 := P12.out.cell (j := 1) rfl
  have e12 := P12.out.cell (j := 2) rfl
  have e21 := P22.out.cell (j := 1) rfl
  go_wp2_with fail
  refine (cX.out ao1 N1 cap1 _ B2.out T12.out hN21.1 hN21.2).mono ?_
  rintro e w3 ⟨rfl, b⟩
  have P13 := W_hid (P12.out.keep b)
  have T13 := W_hid (T12.out.below b (Nat.le_refl _))
  clear P12 T12
  have P23 := W_hid (P22.out.keep b)
  have T23 := W_hid (T22.out.below b (Nat.le_refl _))
  clear P22 T22
  have B3 := W_hid (B2.out.trans (b.mono B2.out.size))
  clear b
  clear e10 e11 e12 e21
  go_wp2_with fail
  go_ret
  exact ⟨rfl, B3.out⟩
theorem rRename_E (s t : ByteArray) (hs : s.size ≤ maxLen) (ht : t.size ≤ maxLen) (w : World) (h : RW base rt rg I B L c S D (kap D) w) (h0 : PM.perr s = 0) (h1 : PM.perr t = 0) (hnn1 : PM.pN s ≠ []) (hnn2 : PM.pN t ≠ []) (pf : Int) (dpf : Dr) (hpf : D pf = some dpf) (z1 : ByteArray) (hpl1 : plA D (PM.pN s) = ((pf, z1), 0)) (r : Int) (hE : (plA D (PM.pN t)).2 = r) (hr0 : r ≠ 0) :
    Calls Tryz.prog 65 #[.pointer (some ⟨rt, 0, none⟩), .string s, .string t] w fun e w' => e = .returned (.int .i64 r) ∧ Below w.heap.size w w' := by
  have cP := fun w => W_hid (rparsed (w := w) hs)
  have cQ := fun w => W_hid (rparsed (w := w) ht)
  rw [h0] at cP
  rw [h1] at cQ
  have hl1 := W_hid (And.intro (List.length_pos_iff.2 hnn1) (pN_len s))
  have hl2 := W_hid (And.intro (List.length_pos_iff.2 hnn2) (pN_len t))
  have cX := W_hid (fun (ao : Option Addr) (n cap : Nat) (W : World) (hb : Below w.heap.size w W) (hl : SS W ao n cap (PM.pN s)) (h0 : 0 < n) (hN : n ≤ 100000) => place_d (PM.pA s) (PM.pD s) (PM.pN s) ao n cap W (h.ex.keep hb) hl h0 hN)
  have cY := W_hid (fun (ao : Option Addr) (n cap : Nat) (W : World) (hb : Below w.heap.size w W) (hl : SS W ao n cap (PM.pN t)) (h0 : 0 < n) (hN : n ≤ 100000) => place_d (PM.pA t) (PM.pD t) (PM.pN t) ao n cap W (h.ex.keep hb) hl h0 hN)
  simp only [hpl1] at cX
  have hpl := pl_err hnn2 (by rw [hE]; exact hr0)
  rw [hE] at hpl
  simp only [hpl] at cY
  have hne : (r != 0) = true := by simpa using hr0
  replace hr0 := W_hid hr0
  clear h h0 h1 hnn1 hnn2 hpl1 hpf hE hpl 
  generalize PM.pN s = n1 at *
  generalize PM.pD s = d1 at *
  generalize PM.pA s = a1 at *
  generalize PM.pN t = n2 at *
  generalize PM.pD t = d2 at *
  generalize PM.pA t = a2 at *
  go_enter Tryz.func65, Tryz.ntmps65
  go_wp2_with fail
  refine (cP _).out.mono ?_
  rintro e w1 ⟨ao1, N1, cap1, rfl, hS, b⟩
  have bb := b.alloc b.size (.cells #[.bool a1, .slice ao1 N1 cap1, .bool d1] 136)
  have P11 := W_hid (pblk w1 a1 d1 ao1 N1 cap1)
  have T11 := W_hid (hS.alloc (.cells #[.bool a1, .slice ao1 N1 cap1, .bool d1] 136))
  have L1 := W_hid hS.1
  have B1 := W_hid (bb)
  clear b bb hS
  go_wp2_with fail
  refine (cQ _).out.mono ?_
  rintro e w2 ⟨ao2, N2, cap2, rfl, hS, b⟩
  have bb := b.alloc b.size (.cells #[.bool a2, .slice ao2 N2 cap2, .bool d2] 136)
  have P22 := W_hid (pblk w2 a2 d2 ao2 N2 cap2)
  have T22 := W_hid (hS.alloc (.cells #[.bool a2, .slice ao2 N2 cap2, .bool d2] 136))
  have L2 := W_hid hS.1
  have P12 := W_hid (P11.out.keep bb)
  have T12 := W_hid (T11.out.below bb (Nat.le_refl _))
  clear P11 T11
  have B2 := W_hid (B1.out.trans (bb.mono B1.out.size))
  clear b bb hS
  have hN01 : ((N1 : Int) == 0) = false := by have := L1.out; have := hl1.out.1; simp; omega
  have hN11 : ¬ (N1 : Int) = 0 := by have := L1.out; have := hl1.out.1; omega
  have hN21 : 0 < N1 ∧ N1 ≤ 100000 := by have := L1.out; have := hl1.out; omega
  have hN02 : ((N2 : Int) == 0) = false := by have := L2.out; have := hl2.out.1; simp; omega
  have hN12 : ¬ (N2 : Int) = 0 := by have := L2.out; have := hl2.out.1; omega
  have hN22 : 0 < N2 ∧ N2 ≤ 100000 := by have := L2.out; have := hl2.out; omega
  have e10 := P12.out.cell (j := 0) rfl
  have e11 := P12.out.cell (j := 1) rfl
  have e12 := P12.out.cell (j := 2) rfl
  have e21 := P22.out.cell (j := 1) rfl
  go_wp2_with fail
  refine (cX.out ao1 N1 cap1 _ B2.out T12.out hN21.1 hN21.2).mono ?_
  rintro e w3 ⟨rfl, b⟩
  have P13 := W_hid (P12.out.keep b)
  have T13 := W_hid (T12.out.below b (Nat.le_refl _))
  clear P12 T12
  have P23 := W_hid (P22.out.keep b)
  have T23 := W_hid (T22.out.below b (Nat.le_refl _))
  clear P22 T22
  have B3 := W_hid (B2.out.trans (b.mono B2.out.size))
  clear b
  clear e10 e11 e12 e21
  have e20 := P23.out.cell (j := 0) rfl
  have e21 := P23.out.cell (j := 1) rfl
  have e22 := P23.out.cell (j := 2) rfl
  go_wp2_with fail
  refine (cY.out ao2 N2 cap2 _ B3.out T23.out hN22.1 hN22.2).mono ?_
  rintro e w4 ⟨rfl, b⟩
  have P14 := W_hid (P13.out.keep b)
  have T14 := W_hid (T13.out.below b (Nat.le_refl _))
  clear P13 T13
  have P24 := W_hid (P23.out.keep b)
  have T24 := W_hid (T23.out.below b (Nat.le_refl _))
  clear P23 T23
  have B4 := W_hid (B3.out.trans (b.mono B3.out.size))
  clear b
  clear e20 e21 e22
  go_wp2_with fail
  go_ret
  exact ⟨rfl, B4.out⟩
theorem rRename_Fa (s t : ByteArray) (hs : s.size ≤ maxLen) (ht : t.size ≤ maxLen) (w : World) (h : RW base rt rg I B L c S D (kap D) w) (h0 : PM.perr s = 0) (h1 : PM.perr t = 0) (hnn1 : PM.pN s ≠ []) (hnn2 : PM.pN t ≠ []) (pf : Int) (dpf : Dr) (hpf : D pf = some dpf) (z1 : ByteArray) (hpl1 : plA D (PM.pN s) = ((pf, z1), 0)) (pt : Int) (dpt : Dr) (hpt : D pt = some dpt) (z2 : ByteArray) (hpl2 : plA D (PM.pN t) = ((pt, z2), 0)) (hz1 : (z1 = PM.dot ∨ z1 = PM.dots)) (hz2 : (z2 = PM.dot ∨ z2 = PM.dots)) :
    Calls Tryz.prog 65 #[.pointer (some ⟨rt, 0, none⟩), .string s, .string t] w fun e w' => e = .returned (.int .i64 2) ∧ Below w.heap.size w w' := by
  have cP := fun w => W_hid (rparsed (w := w) hs)
  have cQ := fun w => W_hid (rparsed (w := w) ht)
  rw [h0] at cP
  rw [h1] at cQ
  have hl1 := W_hid (And.intro (List.length_pos_iff.2 hnn1) (pN_len s))
  have hl2 := W_hid (And.intro (List.length_pos_iff.2 hnn2) (pN_len t))
  have cX := W_hid (fun (ao : Option Addr) (n cap : Nat) (W : World) (hb : Below w.heap.size w W) (hl : SS W ao n cap (PM.pN s)) (h0 : 0 < n) (hN : n ≤ 100000) => place_d (PM.pA s) (PM.pD s) (PM.pN s) ao n cap W (h.ex.keep hb) hl h0 hN)
  have cY := W_hid (fun (ao : Option Addr) (n cap : Nat) (W : World) (hb : Below w.heap.size w W) (hl : SS W ao n cap (PM.pN t)) (h0 : 0 < n) (hN : n ≤ 100000) => place_d (PM.pA t) (PM.pD t) (PM.pN t) ao n cap W (h.ex.keep hb) hl h0 hN)
  simp only [hpl1] at cX
  simp only [hpl2] at cY
  have cS := W_hid (fun W => rdots_any z1 W)
  have cT := W_hid (fun W => rdots_any z2 W)
  simp only [decide_eq_true hz1] at cS
  simp only [decide_eq_true hz2] at cT
  clear h h0 h1 hnn1 hnn2 hpl1 hpf hpl2 hpt hz1 hz2 
  generalize PM.pN s = n1 at *
  generalize PM.pD s = d1 at *
  generalize PM.pA s = a1 at *
  generalize PM.pN t = n2 at *
  generalize PM.pD t = d2 at *
  generalize PM.pA t = a2 at *
  go_enter Tryz.func65, Tryz.ntmps65
  go_wp2_with fail
  refine (cP _).out.mono ?_
  rintro e w1 ⟨ao1, N1, cap1, rfl, hS, b⟩
  have bb := b.alloc b.size (.cells #[.bool a1, .slice ao1 N1 cap1, .bool d1] 136)
  have P11 := W_hid (pblk w1 a1 d1 ao1 N1 cap1)
  have T11 := W_hid (hS.alloc (.cells #[.bool a1, .slice ao1 N1 cap1, .bool d1] 136))
  have L1 := W_hid hS.1
  have B1 := W_hid (bb)
  clear b bb hS
  go_wp2_with fail
  refine (cQ _).out.mono ?_
  rintro e w2 ⟨ao2, N2, cap2, rfl, hS, b⟩
  have bb := b.alloc b.size (.cells #[.bool a2, .slice ao2 N2 cap2, .bool d2] 136)
  have P22 := W_hid (pblk w2 a2 d2 ao2 N2 cap2)
  have T22 := W_hid (hS.alloc (.cells #[.bool a2, .slice ao2 N2 cap2, .bool d2] 136))
  have L2 := W_hid hS.1
  have P12 := W_hid (P11.out.keep bb)
  have T12 := W_hid (T11.out.below bb (Nat.le_refl _))
  clear P11 T11
  have B2 := W_hid (B1.out.trans (bb.mono B1.out.size))
  clear b bb hS
  have hN01 : ((N1 : Int) == 0) = false := by have := L1.out; have := hl1.out.1; simp; omega
  have hN11 : ¬ (N1 : Int) = 0 := by have := L1.out; have := hl1.out.1; omega
  have hN21 : 0 < N1 ∧ N1 ≤ 100000 := by have := L1.out; have := hl1.out; omega
  have hN02 : ((N2 : Int) == 0) = false := by have := L2.out; have := hl2.out.1; simp; omega
  have hN12 : ¬ (N2 : Int) = 0 := by have := L2.out; have := hl2.out.1; omega
  have hN22 : 0 < N2 ∧ N2 ≤ 100000 := by have := L2.out; have := hl2.out; omega
  have e10 := P12.out.cell (j := 0) rfl
  have e11 := P12.out.cell (j := 1) rfl
  have e12 := P12.out.cell (j := 2) rfl
  have e21 := P22.out.cell (j := 1) rfl
  go_wp2_with fail
  refine (cX.out ao1 N1 cap1 _ B2.out T12.out hN21.1 hN21.2).mono ?_
  rintro e w3 ⟨rfl, b⟩
  have P13 := W_hid (P12.out.keep b)
  have T13 := W_hid (T12.out.below b (Nat.le_refl _))
  clear P12 T12
  have P23 := W_hid (P22.out.keep b)
  have T23 := W_hid (T22.out.below b (Nat.le_refl _))
  clear P22 T22
  have B3 := W_hid (B2.out.trans (b.mono B2.out.size))
  clear b
  clear e10 e11 e12 e21
  have e20 := P23.out.cell (j := 0) rfl
  have e21 := P23.out.cell (j := 1) rfl
  have e22 := P23.out.cell (j := 2) rfl
  go_wp2_with fail
  refine (cY.out ao2 N2 cap2 _ B3.out T23.out hN22.1 hN22.2).mono ?_
  rintro e w4 ⟨rfl, b⟩
  have P14 := W_hid (P13.out.keep b)
  have T14 := W_hid (T13.out.below b (Nat.le_refl _))
  clear P13 T13
  have P24 := W_hid (P23.out.keep b)
  have T24 := W_hid (T23.out.below b (Nat.le_refl _))
  clear P23 T23
  have B4 := W_hid (B3.out.trans (b.mono B3.out.size))
  clear b
  clear e20 e21 e22
  go_wp2_with fail
  refine (cS.out _).mono ?_
  rintro e w0 ⟨rfl, rfl⟩
  go_wp2_with fail
  refine (cT.out _).mono ?_
  rintro e w0 ⟨rfl, rfl⟩
  go_wp2_with fail
  go_ret
  exact ⟨rfl, B4.out⟩
theorem rRename_Fb (s t : ByteArray) (hs : s.size ≤ maxLen) (ht : t.size ≤ maxLen) (w : World) (h : RW base rt rg I B L c S D (kap D) w) (h0 : PM.perr s = 0) (h1 : PM.perr t = 0) (hnn1 : PM.pN s ≠ []) (hnn2 : PM.pN t ≠ []) (pf : Int) (dpf : Dr) (hpf : D pf = some dpf) (z1 : ByteArray) (hpl1 : plA D (PM.pN s) = ((pf, z1), 0)) (pt : Int) (dpt : Dr) (hpt : D pt = some dpt) (z2 : ByteArray) (hpl2 : plA D (PM.pN t) = ((pt, z2), 0)) (hz1 : (z1 = PM.dot ∨ z1 = PM.dots)) (hz2 : ¬ (z2 = PM.dot ∨ z2 = PM.dots)) :
    Calls Tryz.prog 65 #[.pointer (some ⟨rt, 0, none⟩), .string s, .string t] w fun e w' => e = .returned (.int .i64 2) ∧ Below w.heap.size w w' := by
  have cP := fun w => W_hid (rparsed (w := w) hs)
  have cQ := fun w => W_hid (rparsed (w := w) ht)
  rw [h0] at cP
  rw [h1] at cQ
  have hl1 := W_hid (And.intro (List.length_pos_iff.2 hnn1) (pN_len s))
  have hl2 := W_hid (And.intro (List.length_pos_iff.2 hnn2) (pN_len t))
  have cX := W_hid (fun (ao : Option Addr) (n cap : Nat) (W : World) (hb : Below w.heap.size w W) (hl : SS W ao n cap (PM.pN s)) (h0 : 0 < n) (hN : n ≤ 100000) => place_d (PM.pA s) (PM.pD s) (PM.pN s) ao n cap W (h.ex.keep hb) hl h0 hN)
  have cY := W_hid (fun (ao : Option Addr) (n cap : Nat) (W : World) (hb : Below w.heap.size w W) (hl : SS W ao n cap (PM.pN t)) (h0 : 0 < n) (hN : n ≤ 100000) => place_d (PM.pA t) (PM.pD t) (PM.pN t) ao n cap W (h.ex.keep hb) hl h0 hN)
  simp only [hpl1] at cX
  simp only [hpl2] at cY
  have cS := W_hid (fun W => rdots_any z1 W)
  have cT := W_hid (fun W => rdots_any z2 W)
  simp only [decide_eq_true hz1] at cS
  simp only [decide_eq_false hz2] at cT
  clear h h0 h1 hnn1 hnn2 hpl1 hpf hpl2 hpt hz1 hz2 
  generalize PM.pN s = n1 at *
  generalize PM.pD s = d1 at *
  generalize PM.pA s = a1 at *
  generalize PM.pN t = n2 at *
  generalize PM.pD t = d2 at *
  generalize PM.pA t = a2 at *
  go_enter Tryz.func65, Tryz.ntmps65
  go_wp2_with fail
  refine (cP _).out.mono ?_
  rintro e w1 ⟨ao1, N1, cap1, rfl, hS, b⟩
  have bb := b.alloc b.size (.cells #[.bool a1, .slice ao1 N1 cap1, .bool d1] 136)
  have P11 := W_hid (pblk w1 a1 d1 ao1 N1 cap1)
  have T11 := W_hid (hS.alloc (.cells #[.bool a1, .slice ao1 N1 cap1, .bool d1] 136))
  have L1 := W_hid hS.1
  have B1 := W_hid (bb)
  clear b bb hS
  go_wp2_with fail
  refine (cQ _).out.mono ?_
  rintro e w2 ⟨ao2, N2, cap2, rfl, hS, b⟩
  have bb := b.alloc b.size (.cells #[.bool a2, .slice ao2 N2 cap2, .bool d2] 136)
  have P22 := W_hid (pblk w2 a2 d2 ao2 N2 cap2)
  have T22 := W_hid (hS.alloc (.cells #[.bool a2, .slice ao2 N2 cap2, .bool d2] 136))
  have L2 := W_hid hS.1
  have P12 := W_hid (P11.out.keep bb)
  have T12 := W_hid (T11.out.below bb (Nat.le_refl _))
  clear P11 T11
  have B2 := W_hid (B1.out.trans (bb.mono B1.out.size))
  clear b bb hS
  have hN01 : ((N1 : Int) == 0) = false := by have := L1.out; have := hl1.out.1; simp; omega
  have hN11 : ¬ (N1 : Int) = 0 := by have := L1.out; have := hl1.out.1; omega
  have hN21 : 0 < N1 ∧ N1 ≤ 100000 := by have := L1.out; have := hl1.out; omega
  have hN02 : ((N2 : Int) == 0) = false := by have := L2.out; have := hl2.out.1; simp; omega
  have hN12 : ¬ (N2 : Int) = 0 := by have := L2.out; have := hl2.out.1; omega
  have hN22 : 0 < N2 ∧ N2 ≤ 100000 := by have := L2.out; have := hl2.out; omega
  have e10 := P12.out.cell (j := 0) rfl
  have e11 := P12.out.cell (j := 1) rfl
  have e12 := P12.out.cell (j := 2) rfl
  have e21 := P22.out.cell (j := 1) rfl
  go_wp2_with fail
  refine (cX.out ao1 N1 cap1 _ B2.out T12.out hN21.1 hN21.2).mono ?_
  rintro e w3 ⟨rfl, b⟩
  have P13 := W_hid (P12.out.keep b)
  have T13 := W_hid (T12.out.below b (Nat.le_refl _))
  clear P12 T12
  have P23 := W_hid (P22.out.keep b)
  have T23 := W_hid (T22.out.below b (Nat.le_refl _))
  clear P22 T22
  have B3 := W_hid (B2.out.trans (b.mono B2.out.size))
  clear b
  clear e10 e11 e12 e21
  have e20 := P23.out.cell (j := 0) rfl
  have e21 := P23.out.cell (j := 1) rfl
  have e22 := P23.out.cell (j := 2) rfl
  go_wp2_with fail
  refine (cY.out ao2 N2 cap2 _ B3.out T23.out hN22.1 hN22.2).mono ?_
  rintro e w4 ⟨rfl, b⟩
  have P14 := W_hid (P13.out.keep b)
  have T14 := W_hid (T13.out.below b (Nat.le_refl _))
  clear P13 T13
  have P24 := W_hid (P23.out.keep b)
  have T24 := W_hid (T23.out.below b (Nat.le_refl _))
  clear P23 T23
  have B4 := W_hid (B3.out.trans (b.mono B3.out.size))
  clear b
  clear e20 e21 e22
  go_wp2_with fail
  refine (cS.out _).mono ?_
  rintro e w0 ⟨rfl, rfl⟩
  go_wp2_with fail
  refine (cT.out _).mono ?_
  rintro e w0 ⟨rfl, rfl⟩
  go_wp2_with fail
  go_ret
  exact ⟨rfl, B4.out⟩
theorem rRename_Fc (s t : ByteArray) (hs : s.size ≤ maxLen) (ht : t.size ≤ maxLen) (w : World) (h : RW base rt rg I B L c S D (kap D) w) (h0 : PM.perr s = 0) (h1 : PM.perr t = 0) (hnn1 : PM.pN s ≠ []) (hnn2 : PM.pN t ≠ []) (pf : Int) (dpf : Dr) (hpf : D pf = some dpf) (z1 : ByteArray) (hpl1 : plA D (PM.pN s) = ((pf, z1), 0)) (pt : Int) (dpt : Dr) (hpt : D pt = some dpt) (z2 : ByteArray) (hpl2 : plA D (PM.pN t) = ((pt, z2), 0)) (hz1 : ¬ (z1 = PM.dot ∨ z1 = PM.dots)) (hz2 : (z2 = PM.dot ∨ z2 = PM.dots)) :
    Calls Tryz.prog 65 #[.pointer (some ⟨rt, 0, none⟩), .string s, .string t] w fun e w' => e = .returned (.int .i64 2) ∧ Below w.heap.size w w' := by
  have cP := fun w => W_hid (rparsed (w := w) hs)
  have cQ := fun w => W_hid (rparsed (w := w) ht)
  rw [h0] at cP
  rw [h1] at cQ
  have hl1 := W_hid (And.intro (List.length_pos_iff.2 hnn1) (pN_len s))
  have hl2 := W_hid (And.intro (List.length_pos_iff.2 hnn2) (pN_len t))
  have cX := W_hid (fun (ao : Option Addr) (n cap : Nat) (W : World) (hb : Below w.heap.size w W) (hl : SS W ao n cap (PM.pN s)) (h0 : 0 < n) (hN : n ≤ 100000) => place_d (PM.pA s) (PM.pD s) (PM.pN s) ao n cap W (h.ex.keep hb) hl h0 hN)
  have cY := W_hid (fun (ao : Option Addr) (n cap : Nat) (W : World) (hb : Below w.heap.size w W) (hl : SS W ao n cap (PM.pN t)) (h0 : 0 < n) (hN : n ≤ 100000) => place_d (PM.pA t) (PM.pD t) (PM.pN t) ao n cap W (h.ex.keep hb) hl h0 hN)
  simp only [hpl1] at cX
  simp only [hpl2] at cY
  have cS := W_hid (fun W => rdots_any z1 W)
  have cT := W_hid (fun W => rdots_any z2 W)
  simp only [decide_eq_false hz1] at cS
  simp only [decide_eq_true hz2] at cT
  clear h h0 h1 hnn1 hnn2 hpl1 hpf hpl2 hpt hz1 hz2 
  generalize PM.pN s = n1 at *
  generalize PM.pD s = d1 at *
  generalize PM.pA s = a1 at *
  generalize PM.pN t = n2 at *
  generalize PM.pD t = d2 at *
  generalize PM.pA t = a2 at *
  go_enter Tryz.func65, Tryz.ntmps65
  go_wp2_with fail
  refine (cP _).out.mono ?_
  rintro e w1 ⟨ao1, N1, cap1, rfl, hS, b⟩
  have bb := b.alloc b.size (.cells #[.bool a1, .slice ao1 N1 cap1, .bool d1] 136)
  have P11 := W_hid (pblk w1 a1 d1 ao1 N1 cap1)
  have T11 := W_hid (hS.alloc (.cells #[.bool a1, .slice ao1 N1 cap1, .bool d1] 136))
  have L1 := W_hid hS.1
  have B1 := W_hid (bb)
  clear b bb hS
  go_wp2_with fail
  refine (cQ _).out.mono ?_
  rintro e w2 ⟨ao2, N2, cap2, rfl, hS, b⟩
  have bb := b.alloc b.size (.cells #[.bool a2, .slice ao2 N2 cap2, .bool d2] 136)
  have P22 := W_hid (pblk w2 a2 d2 ao2 N2 cap2)
  have T22 := W_hid (hS.alloc (.cells #[.bool a2, .slice ao2 N2 cap2, .bool d2] 136))
  have L2 := W_hid hS.1
  have P12 := W_hid (P11.out.keep bb)
  have T12 := W_hid (T11.out.below bb (Nat.le_refl _))
  clear P11 T11
  have B2 := W_hid (B1.out.trans (bb.mono B1.out.size))
  clear b bb hS
  have hN01 : ((N1 : Int) == 0) = false := by have := L1.out; have := hl1.out.1; simp; omega
  have hN11 : ¬ (N1 : Int) = 0 := by have := L1.out; have := hl1.out.1; omega
  have hN21 : 0 < N1 ∧ N1 ≤ 100000 := by have := L1.out; have := hl1.out; omega
  have hN02 : ((N2 : Int) == 0) = false := by have := L2.out; have := hl2.out.1; simp; omega
  have hN12 : ¬ (N2 : Int) = 0 := by have := L2.out; have := hl2.out.1; omega
  have hN22 : 0 < N2 ∧ N2 ≤ 100000 := by have := L2.out; have := hl2.out; omega
  have e10 := P12.out.cell (j := 0) rfl
  have e11 := P12.out.cell (j := 1) rfl
  have e12 := P12.out.cell (j := 2) rfl
  have e21 := P22.out.cell (j := 1) rfl
  go_wp2_with fail
  refine (cX.out ao1 N1 cap1 _ B2.out T12.out hN21.1 hN21.2).mono ?_
  rintro e w3 ⟨rfl, b⟩
  have P13 := W_hid (P12.out.keep b)
  have T13 := W_hid (T12.out.below b (Nat.le_refl _))
  clear P12 T12
  have P23 := W_hid (P22.out.keep b)
  have T23 := W_hid (T22.out.below b (Nat.le_refl _))
  clear P22 T22
  have B3 := W_hid (B2.out.trans (b.mono B2.out.size))
  clear b
  clear e10 e11 e12 e21
  have e20 := P23.out.cell (j := 0) rfl
  have e21 := P23.out.cell (j := 1) rfl
  have e22 := P23.out.cell (j := 2) rfl
  go_wp2_with fail
  refine (cY.out ao2 N2 cap2 _ B3.out T23.out hN22.1 hN22.2).mono ?_
  rintro e w4 ⟨rfl, b⟩
  have P14 := W_hid (P13.out.keep b)
  have T14 := W_hid (T13.out.below b (Nat.le_refl _))
  clear P13 T13
  have P24 := W_hid (P23.out.keep b)
  have T24 := W_hid (T23.out.below b (Nat.le_refl _))
  clear P23 T23
  have B4 := W_hid (B3.out.trans (b.mono B3.out.size))
  clear b
  clear e20 e21 e22
  go_wp2_with fail
  refine (cS.out _).mono ?_
  rintro e w0 ⟨rfl, rfl⟩
  go_wp2_with fail
  refine (cT.out _).mono ?_
  rintro e w0 ⟨rfl, rfl⟩
  go_wp2_with fail
  go_ret
  exact ⟨rfl, B4.out⟩
theorem rRename_G (s t : ByteArray) (hs : s.size ≤ maxLen) (ht : t.size ≤ maxLen) (w : World) (h : RW base rt rg I B L c S D (kap D) w) (h0 : PM.perr s = 0) (h1 : PM.perr t = 0) (hnn1 : PM.pN s ≠ []) (hnn2 : PM.pN t ≠ []) (pf : Int) (dpf : Dr) (hpf : D pf = some dpf) (z1 : ByteArray) (hpl1 : plA D (PM.pN s) = ((pf, z1), 0)) (pt : Int) (dpt : Dr) (hpt : D pt = some dpt) (z2 : ByteArray) (hpl2 : plA D (PM.pN t) = ((pt, z2), 0)) (hz1 : ¬ (z1 = PM.dot ∨ z1 = PM.dots)) (hz2 : ¬ (z2 = PM.dot ∨ z2 = PM.dots)) (hk1 : NT.look z1 dpf.l = none) :
    Calls Tryz.prog 65 #[.pointer (some ⟨rt, 0, none⟩), .string s, .string t] w fun e w' => e = .returned (.int .i64 11) ∧ Below w.heap.size w w' := by
  have cP := fun w => W_hid (rparsed (w := w) hs)
  have cQ := fun w => W_hid (rparsed (w := w) ht)
  rw [h0] at cP
  rw [h1] at cQ
  have hl1 := W_hid (And.intro (List.length_pos_iff.2 hnn1) (pN_len s))
  have hl2 := W_hid (And.intro (List.length_pos_iff.2 hnn2) (pN_len t))
  have cX := W_hid (fun (ao : Option Addr) (n cap : Nat) (W : World) (hb : Below w.heap.size w W) (hl : SS W ao n cap (PM.pN s)) (h0 : 0 < n) (hN : n ≤ 100000) => place_d (PM.pA s) (PM.pD s) (PM.pN s) ao n cap W (h.ex.keep hb) hl h0 hN)
  have cY := W_hid (fun (ao : Option Addr) (n cap : Nat) (W : World) (hb : Below w.heap.size w W) (hl : SS W ao n cap (PM.pN t)) (h0 : 0 < n) (hN : n ≤ 100000) => place_d (PM.pA t) (PM.pD t) (PM.pN t) ao n cap W (h.ex.keep hb) hl h0 hN)
  simp only [hpl1] at cX
  simp only [hpl2] at cY
  have cS := W_hid (fun W => rdots_any z1 W)
  have cT := W_hid (fun W => rdots_any z2 W)
  simp only [decide_eq_false hz1] at cS
  simp only [decide_eq_false hz2] at cT
  have cH := W_hid (fun (W : World) (hb : Below w.heap.size w W) => has_d pf z1 W (h.ex.keep hb) hpf)
  simp only [hk1, Option.getD_none] at cH
  clear h h0 h1 hnn1 hnn2 hpl1 hpf hpl2 hpt hz1 hz2 hk1 
  generalize PM.pN s = n1 at *
  generalize PM.pD s = d1 at *
  generalize PM.pA s = a1 at *
  generalize PM.pN t = n2 at *
  generalize PM.pD t = d2 at *
  generalize PM.pA t = a2 at *
  go_enter Tryz.func65, Tryz.ntmps65
  go_wp2_with fail
  refine (cP _).out.mono ?_
  rintro e w1 ⟨ao1, N1, cap1, rfl, hS, b⟩
  have bb := b.alloc b.size (.cells #[.bool a1, .slice ao1 N1 cap1, .bool d1] 136)
  have P11 := W_hid (pblk w1 a1 d1 ao1 N1 cap1)
  have T11 := W_hid (hS.alloc (.cells #[.bool a1, .slice ao1 N1 cap1, .bool d1] 136))
  have L1 := W_hid hS.1
  have B1 := W_hid (bb)
  clear b bb hS
  go_wp2_with fail
  refine (cQ _).out.mono ?_
  rintro e w2 ⟨ao2, N2, cap2, rfl, hS, b⟩
  have bb := b.alloc b.size (.cells #[.bool a2, .slice ao2 N2 cap2, .bool d2] 136)
  have P22 := W_hid (pblk w2 a2 d2 ao2 N2 cap2)
  have T22 := W_hid (hS.alloc (.cells #[.bool a2, .slice ao2 N2 cap2, .bool d2] 136))
  have L2 := W_hid hS.1
  have P12 := W_hid (P11.out.keep bb)
  have T12 := W_hid (T11.out.below bb (Nat.le_refl _))
  clear P11 T11
  have B2 := W_hid (B1.out.trans (bb.mono B1.out.size))
  clear b bb hS
  have hN01 : ((N1 : Int) == 0) = false := by have := L1.out; have := hl1.out.1; simp; omega
  have hN11 : ¬ (N1 : Int) = 0 := by have := L1.out; have := hl1.out.1; omega
  have hN21 : 0 < N1 ∧ N1 ≤ 100000 := by have := L1.out; have := hl1.out; omega
  have hN02 : ((N2 : Int) == 0) = false := by have := L2.out; have := hl2.out.1; simp; omega
  have hN12 : ¬ (N2 : Int) = 0 := by have := L2.out; have := hl2.out.1; omega
  have hN22 : 0 < N2 ∧ N2 ≤ 100000 := by have := L2.out; have := hl2.out; omega
  have e10 := P12.out.cell (j := 0) rfl
  have e11 := P12.out.cell (j := 1) rfl
  have e12 := P12.out.cell (j := 2) rfl
  have e21 := P22.out.cell (j := 1) rfl
  go_wp2_with fail
  refine (cX.out ao1 N1 cap1 _ B2.out T12.out hN21.1 hN21.2).mono ?_
  rintro e w3 ⟨rfl, b⟩
  have P13 := W_hid (P12.out.keep b)
  have T13 := W_hid (T12.out.below b (Nat.le_refl _))
  clear P12 T12
  have P23 := W_hid (P22.out.keep b)
  have T23 := W_hid (T22.out.below b (Nat.le_refl _))
  clear P22 T22
  have B3 := W_hid (B2.out.trans (b.mono B2.out.size))
  clear b
  clear e10 e11 e12 e21
  have e20 := P23.out.cell (j := 0) rfl
  have e21 := P23.out.cell (j := 1) rfl
  have e22 := P23.out.cell (j := 2) rfl
  go_wp2_with fail
  refine (cY.out ao2 N2 cap2 _ B3.out T23.out hN22.1 hN22.2).mono ?_
  rintro e w4 ⟨rfl, b⟩
  have P14 := W_hid (P13.out.keep b)
  have T14 := W_hid (T13.out.below b (Nat.le_refl _))
  clear P13 T13
  have P24 := W_hid (P23.out.keep b)
  have T24 := W_hid (T23.out.below b (Nat.le_refl _))
  clear P23 T23
  have B4 := W_hid (B3.out.trans (b.mono B3.out.size))
  clear b
  clear e20 e21 e22
  go_wp2_with fail
  refine (cS.out _).mono ?_
  rintro e w0 ⟨rfl, rfl⟩
  go_wp2_with fail
  refine (cT.out _).mono ?_
  rintro e w0 ⟨rfl, rfl⟩
  go_wp2_with fail
  refine (cH.out _ B4.out).mono ?_
  rintro e w5 ⟨rfl, b⟩
  have P15 := W_hid (P14.out.keep b)
  have T15 := W_hid (T14.out.below b (Nat.le_refl _))
  clear P14 T14
  have P25 := W_hid (P24.out.keep b)
  have T25 := W_hid (T24.out.below b (Nat.le_refl _))
  clear P24 T24
  have B5 := W_hid (B4.out.trans (b.mono B4.out.size))
  clear b
  go_wp2_with fail
  go_ret
  exact ⟨rfl, B5.out⟩
theorem rRename_Ha (s t : ByteArray) (hs : s.size ≤ maxLen) (ht : t.size ≤ maxLen) (w : World) (h : RW base rt rg I B L c S D (kap D) w) (h0 : PM.perr s = 0) (h1 : PM.perr t = 0) (hnn1 : PM.pN s ≠ []) (hnn2 : PM.pN t ≠ []) (pf : Int) (dpf : Dr) (hpf : D pf = some dpf) (z1 : ByteArray) (hpl1 : plA D (PM.pN s) = ((pf, z1), 0)) (pt : Int) (dpt : Dr) (hpt : D pt = some dpt) (z2 : ByteArray) (hpl2 : plA D (PM.pN t) = ((pt, z2), 0)) (hz1 : ¬ (z1 = PM.dot ∨ z1 = PM.dots)) (hz2 : ¬ (z2 = PM.dot ∨ z2 = PM.dots)) (n : Int) (hk1 : NT.look z1 dpf.l = some n) (hD : D n = none) (hd1 : PM.pD s = true) :
    Calls Tryz.prog 65 #[.pointer (some ⟨rt, 0, none⟩), .string s, .string t] w fun e w' => e = .returned (.int .i64 13) ∧ Below w.heap.size w w' := by
  have cP := fun w => W_hid (rparsed (w := w) hs)
  have cQ := fun w => W_hid (rparsed (w := w) ht)
  rw [h0] at cP
  rw [h1] at cQ
  have hl1 := W_hid (And.intro (List.length_pos_iff.2 hnn1) (pN_len s))
  have hl2 := W_hid (And.intro (List.length_pos_iff.2 hnn2) (pN_len t))
  have cX := W_hid (fun (ao : Option Addr) (n cap : Nat) (W : World) (hb : Below w.heap.size w W) (hl : SS W ao n cap (PM.pN s)) (h0 : 0 < n) (hN : n ≤ 100000) => place_d (PM.pA s) (PM.pD s) (PM.pN s) ao n cap W (h.ex.keep hb) hl h0 hN)
  have cY := W_hid (fun (ao : Option Addr) (n cap : Nat) (W : World) (hb : Below w.heap.size w W) (hl : SS W ao n cap (PM.pN t)) (h0 : 0 < n) (hN : n ≤ 100000) => place_d (PM.pA t) (PM.pD t) (PM.pN t) ao n cap W (h.ex.keep hb) hl h0 hN)
  simp only [hpl1] at cX
  simp only [hpl2] at cY
  have cS := W_hid (fun W => rdots_any z1 W)
  have cT := W_hid (fun W => rdots_any z2 W)
  simp only [decide_eq_false hz1] at cS
  simp only [decide_eq_false hz2] at cT
  have cH := W_hid (fun (W : World) (hb : Below w.heap.size w W) => has_d pf z1 W (h.ex.keep hb) hpf)
  have hn0 := look_ne h.ex hpf hk1
  have hn1 : (n == 0) = false := by simpa using hn0
  simp only [hk1, Option.getD_some] at cH
  have cD := W_hid (fun (W : World) (hb : Below w.heap.size w W) => dir_no W (h.ex.keep hb) hD)
  clear h h0 h1 hnn1 hnn2 hpl1 hpf hpl2 hpt hz1 hz2 hk1 hD 
  generalize PM.pN s = n1 at *
  generalize PM.pD s = d1 at *
  generalize PM.pA s = a1 at *
  generalize PM.pN t = n2 at *
  generalize PM.pD t = d2 at *
  generalize PM.pA t = a2 at *
  subst hd1
  go_enter Tryz.func65, Tryz.ntmps65
  go_wp2_with fail
  refine (cP _).out.mono ?_
  rintro e w1 ⟨ao1, N1, cap1, rfl, hS, b⟩
  have bb := b.alloc b.size (.cells #[.bool a1, .slice ao1 N1 cap1, .bool true] 136)
  have P11 := W_hid (pblk w1 a1 true ao1 N1 cap1)
  have T11 := W_hid (hS.alloc (.cells #[.bool a1, .slice ao1 N1 cap1, .bool true] 136))
  have L1 := W_hid hS.1
  have B1 := W_hid (bb)
  clear b bb hS
  go_wp2_with fail
  refine (cQ _).out.mono ?_
  rintro e w2 ⟨ao2, N2, cap2, rfl, hS, b⟩
  have bb := b.alloc b.size (.cells #[.bool a2, .slice ao2 N2 cap2, .bool d2] 136)
  have P22 := W_hid (pblk w2 a2 d2 ao2 N2 cap2)
  have T22 := W_hid (hS.alloc (.cells #[.bool a2, .slice ao2 N2 cap2, .bool d2] 136))
  have L2 := W_hid hS.1
  have P12 := W_hid (P11.out.keep bb)
  have T12 := W_hid (T11.out.below bb (Nat.le_refl _))
  clear P11 T11
  have B2 := W_hid (B1.out.trans (bb.mono B1.out.size))
  clear b bb hS
  have hN01 : ((N1 : Int) == 0) = false := by have := L1.out; have := hl1.out.1; simp; omega
  have hN11 : ¬ (N1 : Int) = 0 := by have := L1.out; have := hl1.out.1; omega
  have hN21 : 0 < N1 ∧ N1 ≤ 100000 := by have := L1.out; have := hl1.out; omega
  have hN02 : ((N2 : Int) == 0) = false := by have := L2.out; have := hl2.out.1; simp; omega
  have hN12 : ¬ (N2 : Int) = 0 := by have := L2.out; have := hl2.out.1; omega
  have hN22 : 0 < N2 ∧ N2 ≤ 100000 := by have := L2.out; have := hl2.out; omega
  have e10 := P12.out.cell (j := 0) rfl
  have e11 := P12.out.cell (j := 1) rfl
  have e12 := P12.out.cell (j := 2) rfl
  have e21 := P22.out.cell (j := 1) rfl
  go_wp2_with fail
  refine (cX.out ao1 N1 cap1 _ B2.out T12.out hN21.1 hN21.2).mono ?_
  rintro e w3 ⟨rfl, b⟩
  have P13 := W_hid (P12.out.keep b)
  have T13 := W_hid (T12.out.below b (Nat.le_refl _))
  clear P12 T12
  have P23 := W_hid (P22.out.keep b)
  have T23 := W_hid (T22.out.below b (Nat.le_refl _))
  clear P22 T22
  have B3 := W_hid (B2.out.trans (b.mono B2.out.size))
  clear b
  clear e10 e11 e12 e21
  have e20 := P23.out.cell (j := 0) rfl
  have e21 := P23.out.cell (j := 1) rfl
  have e22 := P23.out.cell (j := 2) rfl
  go_wp2_with fail
  refine (cY.out ao2 N2 cap2 _ B3.out T23.out hN22.1 hN22.2).mono ?_
  rintro e w4 ⟨rfl, b⟩
  have P14 := W_hid (P13.out.keep b)
  have T14 := W_hid (T13.out.below b (Nat.le_refl _))
  clear P13 T13
  have P24 := W_hid (P23.out.keep b)
  have T24 := W_hid (T23.out.below b (Nat.le_refl _))
  clear P23 T23
  have B4 := W_hid (B3.out.trans (b.mono B3.out.size))
  clear b
  clear e20 e21 e22
  go_wp2_with fail
  refine (cS.out _).mono ?_
  rintro e w0 ⟨rfl, rfl⟩
  go_wp2_with fail
  refine (cT.out _).mono ?_
  rintro e w0 ⟨rfl, rfl⟩
  go_wp2_with fail
  refine (cH.out _ B4.out).mono ?_
  rintro e w5 ⟨rfl, b⟩
  have P15 := W_hid (P14.out.keep b)
  have T15 := W_hid (T14.out.below b (Nat.le_refl _))
  clear P14 T14
  have P25 := W_hid (P24.out.keep b)
  have T25 := W_hid (T24.out.below b (Nat.le_refl _))
  clear P24 T24
  have B5 := W_hid (B4.out.trans (b.mono B4.out.size))
  clear b
  go_wp2_with fail
  refine (cD.out _ B5.out).mono ?_
  rintro e w0 ⟨rfl, rfl⟩
  have e12 := P15.out.cell (j := 2) rfl
  have e22 := P25.out.cell (j := 2) rfl
  go_wp2_with fail
  go_ret
  exact ⟨rfl, B5.out⟩
theorem rRename_Hb (s t : ByteArray) (hs : s.size ≤ maxLen) (ht : t.size ≤ maxLen) (w : World) (h : RW base rt rg I B L c S D (kap D) w) (h0 : PM.perr s = 0) (h1 : PM.perr t = 0) (hnn1 : PM.pN s ≠ []) (hnn2 : PM.pN t ≠ []) (pf : Int) (dpf : Dr) (hpf : D pf = some dpf) (z1 : ByteArray) (hpl1 : plA D (PM.pN s) = ((pf, z1), 0)) (pt : Int) (dpt : Dr) (hpt : D pt = some dpt) (z2 : ByteArray) (hpl2 : plA D (PM.pN t) = ((pt, z2), 0)) (hz1 : ¬ (z1 = PM.dot ∨ z1 = PM.dots)) (hz2 : ¬ (z2 = PM.dot ∨ z2 = PM.dots)) (n : Int) (hk1 : NT.look z1 dpf.l = some n) (hD : D n = none) (hd1 : PM.pD s = false) (hd2 : PM.pD t = true) :
    Calls Tryz.prog 65 #[.pointer (some ⟨rt, 0, none⟩), .string s, .string t] w fun e w' => e = .returned (.int .i64 13) ∧ Below w.heap.size w w' := by
  have cP := fun w => W_hid (rparsed (w := w) hs)
  have cQ := fun w => W_hid (rparsed (w := w) ht)
  rw [h0] at cP
  rw [h1] at cQ
  have hl1 := W_hid (And.intro (List.length_pos_iff.2 hnn1) (pN_len s))
  have hl2 := W_hid (And.intro (List.length_pos_iff.2 hnn2) (pN_len t))
  have cX := W_hid (fun (ao : Option Addr) (n cap : Nat) (W : World) (hb : Below w.heap.size w W) (hl : SS W ao n cap (PM.pN s)) (h0 : 0 < n) (hN : n ≤ 100000) => place_d (PM.pA s) (PM.pD s) (PM.pN s) ao n cap W (h.ex.keep hb) hl h0 hN)
  have cY := W_hid (fun (ao : Option Addr) (n cap : Nat) (W : World) (hb : Below w.heap.size w W) (hl : SS W ao n cap (PM.pN t)) (h0 : 0 < n) (hN : n ≤ 100000) => place_d (PM.pA t) (PM.pD t) (PM.pN t) ao n cap W (h.ex.keep hb) hl h0 hN)
  simp only [hpl1] at cX
  simp only [hpl2] at cY
  have cS := W_hid (fun W => rdots_any z1 W)
  have cT := W_hid (fun W => rdots_any z2 W)
  simp only [decide_eq_false hz1] at cS
  simp only [decide_eq_false hz2] at cT
  have cH := W_hid (fun (W : World) (hb : Below w.heap.size w W) => has_d pf z1 W (h.ex.keep hb) hpf)
  have hn0 := look_ne h.ex hpf hk1
  have hn1 : (n == 0) = false := by simpa using hn0
  simp only [hk1, Option.getD_some] at cH
  have cD := W_hid (fun (W : World) (hb : Below w.heap.size w W) => dir_no W (h.ex.keep hb) hD)
  clear h h0 h1 hnn1 hnn2 hpl1 hpf hpl2 hpt hz1 hz2 hk1 hD 
  generalize PM.pN s = n1 at *
  generalize PM.pD s = d1 at *
  generalize PM.pA s = a1 at *
  generalize PM.pN t = n2 at *
  generalize PM.pD t = d2 at *
  generalize PM.pA t = a2 at *
  subst hd1
  subst hd2
  go_enter Tryz.func65, Tryz.ntmps65
  go_wp2_with fail
  refine (cP _).out.mono ?_
  rintro e w1 ⟨ao1, N1, cap1, rfl, hS, b⟩
  have bb := b.alloc b.size (.cells #[.bool a1, .slice ao1 N1 cap1, .bool false] 136)
  have P11 := W_hid (pblk w1 a1 false ao1 N1 cap1)
  have T11 := W_hid (hS.alloc (.cells #[.bool a1, .slice ao1 N1 cap1, .bool false] 136))
  have L1 := W_hid hS.1
  have B1 := W_hid (bb)
  clear b bb hS
  go_wp2_with fail
  refine (cQ _).out.mono ?_
  rintro e w2 ⟨ao2, N2, cap2, rfl, hS, b⟩
  have bb := b.alloc b.size (.cells #[.bool a2, .slice ao2 N2 cap2, .bool true] 136)
  have P22 := W_hid (pblk w2 a2 true ao2 N2 cap2)
  have T22 := W_hid (hS.alloc (.cells #[.bool a2, .slice ao2 N2 cap2, .bool true] 136))
  have L2 := W_hid hS.1
  have P12 := W_hid (P11.out.keep bb)
  have T12 := W_hid (T11.out.below bb (Nat.le_refl _))
  clear P11 T11
  have B2 := W_hid (B1.out.trans (bb.mono B1.out.size))
  clear b bb hS
  have hN01 : ((N1 : Int) == 0) = false := by have := L1.out; have := hl1.out.1; simp; omega
  have hN11 : ¬ (N1 : Int) = 0 := by have := L1.out; have := hl1.out.1; omega
  have hN21 : 0 < N1 ∧ N1 ≤ 100000 := by have := L1.out; have := hl1.out; omega
  have hN02 : ((N2 : Int) == 0) = false := by have := L2.out; have := hl2.out.1; simp; omega
  have hN12 : ¬ (N2 : Int) = 0 := by have := L2.out; have := hl2.out.1; omega
  have hN22 : 0 < N2 ∧ N2 ≤ 100000 := by have := L2.out; have := hl2.out; omega
  have e10 := P12.out.cell (j := 0) rfl
  have e11 := P12.out.cell (j := 1) rfl
  have e12 := P12.out.cell (j := 2) rfl
  have e21 := P22.out.cell (j := 1) rfl
  go_wp2_with fail
  refine (cX.out ao1 N1 cap1 _ B2.out T12.out hN21.1 hN21.2).mono ?_
  rintro e w3 ⟨rfl, b⟩
  have P13 := W_hid (P12.out.keep b)
  have T13 := W_hid (T12.out.below b (Nat.le_refl _))
  clear P12 T12
  have P23 := W_hid (P22.out.keep b)
  have T23 := W_hid (T22.out.below b (Nat.le_refl _))
  clear P22 T22
  have B3 := W_hid (B2.out.trans (b.mono B2.out.size))
  clear b
  clear e10 e11 e12 e21
  have e20 := P23.out.cell (j := 0) rfl
  have e21 := P23.out.cell (j := 1) rfl
  have e22 := P23.out.cell (j := 2) rfl
  go_wp2_with fail
  refine (cY.out ao2 N2 cap2 _ B3.out T23.out hN22.1 hN22.2).mono ?_
  rintro e w4 ⟨rfl, b⟩
  have P14 := W_hid (P13.out.keep b)
  have T14 := W_hid (T13.out.below b (Nat.le_refl _))
  clear P13 T13
  have P24 := W_hid (P23.out.keep b)
  have T24 := W_hid (T23.out.below b (Nat.le_refl _))
  clear P23 T23
  have B4 := W_hid (B3.out.trans (b.mono B3.out.size))
  clear b
  clear e20 e21 e22
  go_wp2_with fail
  refine (cS.out _).mono ?_
  rintro e w0 ⟨rfl, rfl⟩
  go_wp2_with fail
  refine (cT.out _).mono ?_
  rintro e w0 ⟨rfl, rfl⟩
  go_wp2_with fail
  refine (cH.out _ B4.out).mono ?_
  rintro e w5 ⟨rfl, b⟩
  have P15 := W_hid (P14.out.keep b)
  have T15 := W_hid (T14.out.below b (Nat.le_refl _))
  clear P14 T14
  have P25 := W_hid (P24.out.keep b)
  have T25 := W_hid (T24.out.below b (Nat.le_refl _))
  clear P24 T24
  have B5 := W_hid (B4.out.trans (b.mono B4.out.size))
  clear b
  go_wp2_with fail
  refine (cD.out _ B5.out).mono ?_
  rintro e w0 ⟨rfl, rfl⟩
  have e12 := P15.out.cell (j := 2) rfl
  have e22 := P25.out.cell (j := 2) rfl
  go_wp2_with fail
  go_ret
  exact ⟨rfl, B5.out⟩
theorem rRename_If (s t : ByteArray) (hs : s.size ≤ maxLen) (ht : t.size ≤ maxLen) (w : World) (h : RW base rt rg I B L c S D (kap D) w) (h0 : PM.perr s = 0) (h1 : PM.perr t = 0) (hnn1 : PM.pN s ≠ []) (hnn2 : PM.pN t ≠ []) (pf : Int) (dpf : Dr) (hpf : D pf = some dpf) (z1 : ByteArray) (hpl1 : plA D (PM.pN s) = ((pf, z1), 0)) (pt : Int) (dpt : Dr) (hpt : D pt = some dpt) (z2 : ByteArray) (hpl2 : plA D (PM.pN t) = ((pt, z2), 0)) (hz1 : ¬ (z1 = PM.dot ∨ z1 = PM.dots)) (hz2 : ¬ (z2 = PM.dot ∨ z2 = PM.dots)) (n : Int) (hk1 : NT.look z1 dpf.l = some n) (hD : D n = none) (hd1 : PM.pD s = false) (hd2 : PM.pD t = false) (hk2 : NT.look z2 dpt.l = some n) :
    Calls Tryz.prog 65 #[.pointer (some ⟨rt, 0, none⟩), .string s, .string t] w fun e w' => e = .returned (.int .i64 0) ∧ Below w.heap.size w w' := by
  have cP := fun w => W_hid (rparsed (w := w) hs)
  have cQ := fun w => W_hid (rparsed (w := w) ht)
  rw [h0] at cP
  rw [h1] at cQ
  have hl1 := W_hid (And.intro (List.length_pos_iff.2 hnn1) (pN_len s))
  have hl2 := W_hid (And.intro (List.length_pos_iff.2 hnn2) (pN_len t))
  have cX := W_hid (fun (ao : Option Addr) (n cap : Nat) (W : World) (hb : Below w.heap.size w W) (hl : SS W ao n cap (PM.pN s)) (h0 : 0 < n) (hN : n ≤ 100000) => place_d (PM.pA s) (PM.pD s) (PM.pN s) ao n cap W (h.ex.keep hb) hl h0 hN)
  have cY := W_hid (fun (ao : Option Addr) (n cap : Nat) (W : World) (hb : Below w.heap.size w W) (hl : SS W ao n cap (PM.pN t)) (h0 : 0 < n) (hN : n ≤ 100000) => place_d (PM.pA t) (PM.pD t) (PM.pN t) ao n cap W (h.ex.keep hb) hl h0 hN)
  simp only [hpl1] at cX
  simp only [hpl2] at cY
  have cS := W_hid (fun W => rdots_any z1 W)
  have cT := W_hid (fun W => rdots_any z2 W)
  simp only [decide_eq_false hz1] at cS
  simp only [decide_eq_false hz2] at cT
  have cH := W_hid (fun (W : World) (hb : Below w.heap.size w W) => has_d pf z1 W (h.ex.keep hb) hpf)
  have hn0 := look_ne h.ex hpf hk1
  have hn1 : (n == 0) = false := by simpa using hn0
  simp only [hk1, Option.getD_some] at cH
  have cD := W_hid (fun (W : World) (hb : Below w.heap.size w W) => dir_no W (h.ex.keep hb) hD)
  have cG := W_hid (fun (W : World) (hb : Below w.heap.size w W) => has_d pt z2 W (h.ex.keep hb) hpt)
  simp only [hk2, Option.getD_some] at cG
  have hnn : (n == n) = true := by simp
  clear h h0 h1 hnn1 hnn2 hpl1 hpf hpl2 hpt hz1 hz2 hk1 hD hk2 
  generalize PM.pN s = n1 at *
  generalize PM.pD s = d1 at *
  generalize PM.pA s = a1 at *
  generalize PM.pN t = n2 at *
  generalize PM.pD t = d2 at *
  generalize PM.pA t = a2 at *
  subst hd1
  subst hd2
  go_enter Tryz.func65, Tryz.ntmps65
  go_wp2_with fail
  refine (cP _).out.mono ?_
  rintro e w1 ⟨ao1, N1, cap1, rfl, hS, b⟩
  have bb := b.alloc b.size (.cells #[.bool a1, .slice ao1 N1 cap1, .bool false] 136)
  have P11 := W_hid (pblk w1 a1 false ao1 N1 cap1)
  have T11 := W_hid (hS.alloc (.cells #[.bool a1, .slice ao1 N1 cap1, .bool false] 136))
  have L1 := W_hid hS.1
  have B1 := W_hid (bb)
  clear b bb hS
  go_wp2_with fail
  refine (cQ _).out.mono ?_
  rintro e w2 ⟨ao2, N2, cap2, rfl, hS, b⟩
  have bb := b.alloc b.size (.cells #[.bool a2, .slice ao2 N2 cap2, .bool false] 136)
  have P22 := W_hid (pblk w2 a2 false ao2 N2 cap2)
  have T22 := W_hid (hS.alloc (.cells #[.bool a2, .slice ao2 N2 cap2, .bool false] 136))
  have L2 := W_hid hS.1
  have P12 := W_hid (P11.out.keep bb)
  have T12 := W_hid (T11.out.below bb (Nat.le_refl _))
  clear P11 T11
  have B2 := W_hid (B1.out.trans (bb.mono B1.out.size))
  clear b bb hS
  have hN01 : ((N1 : Int) == 0) = false := by have := L1.out; have := hl1.out.1; simp; omega
  have hN11 : ¬ (N1 : Int) = 0 := by have := L1.out; have := hl1.out.1; omega
  have hN21 : 0 < N1 ∧ N1 ≤ 100000 := by have := L1.out; have := hl1.out; omega
  have hN02 : ((N2 : Int) == 0) = false := by have := L2.out; have := hl2.out.1; simp; omega
  have hN12 : ¬ (N2 : Int) = 0 := by have := L2.out; have := hl2.out.1; omega
  have hN22 : 0 < N2 ∧ N2 ≤ 100000 := by have := L2.out; have := hl2.out; omega
  have e10 := P12.out.cell (j := 0) rfl
  have e11 := P12.out.cell (j := 1) rfl
  have e12 := P12.out.cell (j := 2) rfl
  have e21 := P22.out.cell (j := 1) rfl
  go_wp2_with fail
  refine (cX.out ao1 N1 cap1 _ B2.out T12.out hN21.1 hN21.2).mono ?_
  rintro e w3 ⟨rfl, b⟩
  have P13 := W_hid (P12.out.keep b)
  have T13 := W_hid (T12.out.below b (Nat.le_refl _))
  clear P12 T12
  have P23 := W_hid (P22.out.keep b)
  have T23 := W_hid (T22.out.below b (Nat.le_refl _))
  clear P22 T22
  have B3 := W_hid (B2.out.trans (b.mono B2.out.size))
  clear b
  clear e10 e11 e12 e21
  have e20 := P23.out.cell (j := 0) rfl
  have e21 := P23.out.cell (j := 1) rfl
  have e22 := P23.out.cell (j := 2) rfl
  go_wp2_with fail
  refine (cY.out ao2 N2 cap2 _ B3.out T23.out hN22.1 hN22.2).mono ?_
  rintro e w4 ⟨rfl, b⟩
  have P14 := W_hid (P13.out.keep b)
  have T14 := W_hid (T13.out.below b (Nat.le_refl _))
  clear P13 T13
  have P24 := W_hid (P23.out.keep b)
  have T24 := W_hid (T23.out.below b (Nat.le_refl _))
  clear P23 T23
  have B4 := W_hid (B3.out.trans (b.mono B3.out.size))
  clear b
  clear e20 e21 e22
  go_wp2_with fail
  refine (cS.out _).mono ?_
  rintro e w0 ⟨rfl, rfl⟩
  go_wp2_with fail
  refine (cT.out _).mono ?_
  rintro e w0 ⟨rfl, rfl⟩
  go_wp2_with fail
  refine (cH.out _ B4.out).mono ?_
  rintro e w5 ⟨rfl, b⟩
  have P15 := W_hid (P14.out.keep b)
  have T15 := W_hid (T14.out.below b (Nat.le_refl _))
  clear P14 T14
  have P25 := W_hid (P24.out.keep b)
  have T25 := W_hid (T24.out.below b (Nat.le_refl _))
  clear P24 T24
  have B5 := W_hid (B4.out.trans (b.mono B4.out.size))
  clear b
  go_wp2_with fail
  refine (cD.out _ B5.out).mono ?_
  rintro e w0 ⟨rfl, rfl⟩
  have e12 := P15.out.cell (j := 2) rfl
  have e22 := P25.out.cell (j := 2) rfl
  go_wp2_with fail
  refine (cG.out _ B5.out).mono ?_
  rintro e w6 ⟨rfl, b⟩
  have P16 := W_hid (P15.out.keep b)
  have T16 := W_hid (T15.out.below b (Nat.le_refl _))
  clear P15 T15
  have P26 := W_hid (P25.out.keep b)
  have T26 := W_hid (T25.out.below b (Nat.le_refl _))
  clear P25 T25
  have B6 := W_hid (B5.out.trans (b.mono B5.out.size))
  clear b
  clear e12 e22
  go_wp2_with fail
  go_ret
  exact ⟨rfl, B6.out⟩
theorem rRename_Jf (s t : ByteArray) (hs : s.size ≤ maxLen) (ht : t.size ≤ maxLen) (w : World) (h : RW base rt rg I B L c S D (kap D) w) (h0 : PM.perr s = 0) (h1 : PM.perr t = 0) (hnn1 : PM.pN s ≠ []) (hnn2 : PM.pN t ≠ []) (pf : Int) (dpf : Dr) (hpf : D pf = some dpf) (z1 : ByteArray) (hpl1 : plA D (PM.pN s) = ((pf, z1), 0)) (pt : Int) (dpt : Dr) (hpt : D pt = some dpt) (z2 : ByteArray) (hpl2 : plA D (PM.pN t) = ((pt, z2), 0)) (hz1 : ¬ (z1 = PM.dot ∨ z1 = PM.dots)) (hz2 : ¬ (z2 = PM.dot ∨ z2 = PM.dots)) (n : Int) (hk1 : NT.look z1 dpf.l = some n) (hD : D n = none) (hd1 : PM.pD s = false) (hd2 : PM.pD t = false) (m : Int) (hk2 : NT.look z2 dpt.l = some m) (hmn : m ≠ n) (r : Int) (ho : ovA D n m = r) (hr0 : r ≠ 0) :
    Calls Tryz.prog 65 #[.pointer (some ⟨rt, 0, none⟩), .string s, .string t] w fun e w' => e = .returned (.int .i64 r) ∧ Below w.heap.size w w' := by
  have cP := fun w => W_hid (rparsed (w := w) hs)
  have cQ := fun w => W_hid (rparsed (w := w) ht)
  rw [h0] at cP
  rw [h1] at cQ
  have hl1 := W_hid (And.intro (List.length_pos_iff.2 hnn1) (pN_len s))
  have hl2 := W_hid (And.intro (List.length_pos_iff.2 hnn2) (pN_len t))
  have cX := W_hid (fun (ao : Option Addr) (n cap : Nat) (W : World) (hb : Below w.heap.size w W) (hl : SS W ao n cap (PM.pN s)) (h0 : 0 < n) (hN : n ≤ 100000) => place_d (PM.pA s) (PM.pD s) (PM.pN s) ao n cap W (h.ex.keep hb) hl h0 hN)
  have cY := W_hid (fun (ao : Option Addr) (n cap : Nat) (W : World) (hb : Below w.heap.size w W) (hl : SS W ao n cap (PM.pN t)) (h0 : 0 < n) (hN : n ≤ 100000) => place_d (PM.pA t) (PM.pD t) (PM.pN t) ao n cap W (h.ex.keep hb) hl h0 hN)
  simp only [hpl1] at cX
  simp only [hpl2] at cY
  have cS := W_hid (fun W => rdots_any z1 W)
  have cT := W_hid (fun W => rdots_any z2 W)
  simp only [decide_eq_false hz1] at cS
  simp only [decide_eq_false hz2] at cT
  have cH := W_hid (fun (W : World) (hb : Below w.heap.size w W) => has_d pf z1 W (h.ex.keep hb) hpf)
  have hn0 := look_ne h.ex hpf hk1
  have hn1 : (n == 0) = false := by simpa using hn0
  simp only [hk1, Option.getD_some] at cH
  have cD := W_hid (fun (W : World) (hb : Below w.heap.size w W) => dir_no W (h.ex.keep hb) hD)
  have cG := W_hid (fun (W : World) (hb : Below w.heap.size w W) => has_d pt z2 W (h.ex.keep hb) hpt)
  have hm0 := look_ne h.ex hpt hk2
  have hm1 : (m != 0) = true := by simpa using hm0
  simp only [hk2, Option.getD_some] at cG
  have hmn1 : (m == n) = false := by simpa using hmn
  have cO := W_hid (fun (W : World) (hb : Below w.heap.size w W) => over_d n m W (h.ex.keep hb))
  simp only [ho] at cO
  have hne : (r != 0) = true := by simpa using hr0
  replace hr0 := W_hid hr0
  clear h h0 h1 hnn1 hnn2 hpl1 hpf hpl2 hpt hz1 hz2 hk1 hD hk2 ho 
  generalize PM.pN s = n1 at *
  generalize PM.pD s = d1 at *
  generalize PM.pA s = a1 at *
  generalize PM.pN t = n2 at *
  generalize PM.pD t = d2 at *
  generalize PM.pA t = a2 at *
  subst hd1
  subst hd2
  go_enter Tryz.func65, Tryz.ntmps65
  go_wp2_with fail
  refine (cP _).out.mono ?_
  rintro e w1 ⟨ao1, N1, cap1, rfl, hS, b⟩
  have bb := b.alloc b.size (.cells #[.bool a1, .slice ao1 N1 cap1, .bool false] 136)
  have P11 := W_hid (pblk w1 a1 false ao1 N1 cap1)
  have T11 := W_hid (hS.alloc (.cells #[.bool a1, .slice ao1 N1 cap1, .bool false] 136))
  have L1 := W_hid hS.1
  have B1 := W_hid (bb)
  clear b bb hS
  go_wp2_with fail
  refine (cQ _).out.mono ?_
  rintro e w2 ⟨ao2, N2, cap2, rfl, hS, b⟩
  have bb := b.alloc b.size (.cells #[.bool a2, .slice ao2 N2 cap2, .bool false] 136)
  have P22 := W_hid (pblk w2 a2 false ao2 N2 cap2)
  have T22 := W_hid (hS.alloc (.cells #[.bool a2, .slice ao2 N2 cap2, .bool false] 136))
  have L2 := W_hid hS.1
  have P12 := W_hid (P11.out.keep bb)
  have T12 := W_hid (T11.out.below bb (Nat.le_refl _))
  clear P11 T11
  have B2 := W_hid (B1.out.trans (bb.mono B1.out.size))
  clear b bb hS
  have hN01 : ((N1 : Int) == 0) = false := by have := L1.out; have := hl1.out.1; simp; omega
  have hN11 : ¬ (N1 : Int) = 0 := by have := L1.out; have := hl1.out.1; omega
  have hN21 : 0 < N1 ∧ N1 ≤ 100000 := by have := L1.out; have := hl1.out; omega
  have hN02 : ((N2 : Int) == 0) = false := by have := L2.out; have := hl2.out.1; simp; omega
  have hN12 : ¬ (N2 : Int) = 0 := by have := L2.out; have := hl2.out.1; omega
  have hN22 : 0 < N2 ∧ N2 ≤ 100000 := by have := L2.out; have := hl2.out; omega
  have e10 := P12.out.cell (j := 0) rfl
  have e11 := P12.out.cell (j := 1) rfl
  have e12 := P12.out.cell (j := 2) rfl
  have e21 := P22.out.cell (j := 1) rfl
  go_wp2_with fail
  refine (cX.out ao1 N1 cap1 _ B2.out T12.out hN21.1 hN21.2).mono ?_
  rintro e w3 ⟨rfl, b⟩
  have P13 := W_hid (P12.out.keep b)
  have T13 := W_hid (T12.out.below b (Nat.le_refl _))
  clear P12 T12
  have P23 := W_hid (P22.out.keep b)
  have T23 := W_hid (T22.out.below b (Nat.le_refl _))
  clear P22 T22
  have B3 := W_hid (B2.out.trans (b.mono B2.out.size))
  clear b
  clear e10 e11 e12 e21
  have e20 := P23.out.cell (j := 0) rfl
  have e21 := P23.out.cell (j := 1) rfl
  have e22 := P23.out.cell (j := 2) rfl
  go_wp2_with fail
  refine (cY.out ao2 N2 cap2 _ B3.out T23.out hN22.1 hN22.2).mono ?_
  rintro e w4 ⟨rfl, b⟩
  have P14 := W_hid (P13.out.keep b)
  have T14 := W_hid (T13.out.below b (Nat.le_refl _))
  clear P13 T13
  have P24 := W_hid (P23.out.keep b)
  have T24 := W_hid (T23.out.below b (Nat.le_refl _))
  clear P23 T23
  have B4 := W_hid (B3.out.trans (b.mono B3.out.size))
  clear b
  clear e20 e21 e22
  go_wp2_with fail
  refine (cS.out _).mono ?_
  rintro e w0 ⟨rfl, rfl⟩
  go_wp2_with fail
  refine (cT.out _).mono ?_
  rintro e w0 ⟨rfl, rfl⟩
  go_wp2_with fail
  refine (cH.out _ B4.out).mono ?_
  rintro e w5 ⟨rfl, b⟩
  have P15 := W_hid (P14.out.keep b)
  have T15 := W_hid (T14.out.below b (Nat.le_refl _))
  clear P14 T14
  have P25 := W_hid (P24.out.keep b)
  have T25 := W_hid (T24.out.below b (Nat.le_refl _))
  clear P24 T24
  have B5 := W_hid (B4.out.trans (b.mono B4.out.size))
  clear b
  go_wp2_with fail
  refine (cD.out _ B5.out).mono ?_
  rintro e w0 ⟨rfl, rfl⟩
  have e12 := P15.out.cell (j := 2) rfl
  have e22 := P25.out.cell (j := 2) rfl
  go_wp2_with fail
  refine (cG.out _ B5.out).mono ?_
  rintro e w6 ⟨rfl, b⟩
  have P16 := W_hid (P15.out.keep b)
  have T16 := W_hid (T15.out.below b (Nat.le_refl _))
  clear P15 T15
  have P26 := W_hid (P25.out.keep b)
  have T26 := W_hid (T25.out.below b (Nat.le_refl _))
  clear P25 T25
  have B6 := W_hid (B5.out.trans (b.mono B5.out.size))
  clear b
  clear e12 e22
  go_wp2_with fail
  refine (cO.out _ B6.out).mono ?_
  rintro e w7 ⟨rfl, b⟩
  have P17 := W_hid (P16.out.keep b)
  have T17 := W_hid (T16.out.below b (Nat.le_refl _))
  clear P16 T16
  have P27 := W_hid (P26.out.keep b)
  have T27 := W_hid (T26.out.below b (Nat.le_refl _))
  clear P26 T26
  have B7 := W_hid (B6.out.trans (b.mono B6.out.size))
  clear b
  go_wp2_with fail
  go_ret
  exact ⟨rfl, B7.out⟩
theorem rRename_Id (s t : ByteArray) (hs : s.size ≤ maxLen) (ht : t.size ≤ maxLen) (w : World) (h : RW base rt rg I B L c S D (kap D) w) (h0 : PM.perr s = 0) (h1 : PM.perr t = 0) (hnn1 : PM.pN s ≠ []) (hnn2 : PM.pN t ≠ []) (pf : Int) (dpf : Dr) (hpf : D pf = some dpf) (z1 : ByteArray) (hpl1 : plA D (PM.pN s) = ((pf, z1), 0)) (pt : Int) (dpt : Dr) (hpt : D pt = some dpt) (z2 : ByteArray) (hpl2 : plA D (PM.pN t) = ((pt, z2), 0)) (hz1 : ¬ (z1 = PM.dot ∨ z1 = PM.dots)) (hz2 : ¬ (z2 = PM.dot ∨ z2 = PM.dots)) (n : Int) (hk1 : NT.look z1 dpf.l = some n) (dn : Dr) (hD : D n = some dn) (hk2 : NT.look z2 dpt.l = some n) :
    Calls Tryz.prog 65 #[.pointer (some ⟨rt, 0, none⟩), .string s, .string t] w fun e w' => e = .returned (.int .i64 0) ∧ Below w.heap.size w w' := by
  have cP := fun w => W_hid (rparsed (w := w) hs)
  have cQ := fun w => W_hid (rparsed (w := w) ht)
  rw [h0] at cP
  rw [h1] at cQ
  have hl1 := W_hid (And.intro (List.length_pos_iff.2 hnn1) (pN_len s))
  have hl2 := W_hid (And.intro (List.length_pos_iff.2 hnn2) (pN_len t))
  have cX := W_hid (fun (ao : Option Addr) (n cap : Nat) (W : World) (hb : Below w.heap.size w W) (hl : SS W ao n cap (PM.pN s)) (h0 : 0 < n) (hN : n ≤ 100000) => place_d (PM.pA s) (PM.pD s) (PM.pN s) ao n cap W (h.ex.keep hb) hl h0 hN)
  have cY := W_hid (fun (ao : Option Addr) (n cap : Nat) (W : World) (hb : Below w.heap.size w W) (hl : SS W ao n cap (PM.pN t)) (h0 : 0 < n) (hN : n ≤ 100000) => place_d (PM.pA t) (PM.pD t) (PM.pN t) ao n cap W (h.ex.keep hb) hl h0 hN)
  simp only [hpl1] at cX
  simp only [hpl2] at cY
  have cS := W_hid (fun W => rdots_any z1 W)
  have cT := W_hid (fun W => rdots_any z2 W)
  simp only [decide_eq_false hz1] at cS
  simp only [decide_eq_false hz2] at cT
  have cH := W_hid (fun (W : World) (hb : Below w.heap.size w W) => has_d pf z1 W (h.ex.keep hb) hpf)
  have hn0 := look_ne h.ex hpf hk1
  have hn1 : (n == 0) = false := by simpa using hn0
  simp only [hk1, Option.getD_some] at cH
  obtain ⟨K, g, ND, capD, cD, hKN, hNc, hW⟩ := h.parent hD
  replace cD := W_hid cD
  replace hW := W_hid hW
  have hK : ¬ (K : Int) < 0 := by omega
  have hK2 : (0 : Int) ≤ (K : Int) := by omega
  have hKN2 : (K : Int) < (ND : Int) := by omega
  have cG := W_hid (fun (W : World) (hb : Below w.heap.size w W) => has_d pt z2 W (h.ex.keep hb) hpt)
  simp only [hk2, Option.getD_some] at cG
  have hnn : (n == n) = true := by simp
  clear h h0 h1 hnn1 hnn2 hpl1 hpf hpl2 hpt hz1 hz2 hk1 hD hk2 
  generalize PM.pN s = n1 at *
  generalize PM.pD s = d1 at *
  generalize PM.pA s = a1 at *
  generalize PM.pN t = n2 at *
  generalize PM.pD t = d2 at *
  generalize PM.pA t = a2 at *
  go_enter Tryz.func65, Tryz.ntmps65
  go_wp2_with fail
  refine (cP _).out.mono ?_
  rintro e w1 ⟨ao1, N1, cap1, rfl, hS, b⟩
  have bb := b.alloc b.size (.cells #[.bool a1, .slice ao1 N1 cap1, .bool d1] 136)
  have P11 := W_hid (pblk w1 a1 d1 ao1 N1 cap1)
  have T11 := W_hid (hS.alloc (.cells #[.bool a1, .slice ao1 N1 cap1, .bool d1] 136))
  have L1 := W_hid hS.1
  have B1 := W_hid (bb)
  clear b bb hS
  go_wp2_with fail
  refine (cQ _).out.mono ?_
  rintro e w2 ⟨ao2, N2, cap2, rfl, hS, b⟩
  have bb := b.alloc b.size (.cells #[.bool a2, .slice ao2 N2 cap2, .bool d2] 136)
  have P22 := W_hid (pblk w2 a2 d2 ao2 N2 cap2)
  have T22 := W_hid (hS.alloc (.cells #[.bool a2, .slice ao2 N2 cap2, .bool d2] 136))
  have L2 := W_hid hS.1
  have P12 := W_hid (P11.out.keep bb)
  have T12 := W_hid (T11.out.below bb (Nat.le_refl _))
  clear P11 T11
  have B2 := W_hid (B1.out.trans (bb.mono B1.out.size))
  clear b bb hS
  have hN01 : ((N1 : Int) == 0) = false := by have := L1.out; have := hl1.out.1; simp; omega
  have hN11 : ¬ (N1 : Int) = 0 := by have := L1.out; have := hl1.out.1; omega
  have hN21 : 0 < N1 ∧ N1 ≤ 100000 := by have := L1.out; have := hl1.out; omega
  have hN02 : ((N2 : Int) == 0) = false := by have := L2.out; have := hl2.out.1; simp; omega
  have hN12 : ¬ (N2 : Int) = 0 := by have := L2.out; have := hl2.out.1; omega
  have hN22 : 0 < N2 ∧ N2 ≤ 100000 := by have := L2.out; have := hl2.out; omega
  have e10 := P12.out.cell (j := 0) rfl
  have e11 := P12.out.cell (j := 1) rfl
  have e12 := P12.out.cell (j := 2) rfl
  have e21 := P22.out.cell (j := 1) rfl
  go_wp2_with fail
  refine (cX.out ao1 N1 cap1 _ B2.out T12.out hN21.1 hN21.2).mono ?_
  rintro e w3 ⟨rfl, b⟩
  have P13 := W_hid (P12.out.keep b)
  have T13 := W_hid (T12.out.below b (Nat.le_refl _))
  clear P12 T12
  have P23 := W_hid (P22.out.keep b)
  have T23 := W_hid (T22.out.below b (Nat.le_refl _))
  clear P22 T22
  have B3 := W_hid (B2.out.trans (b.mono B2.out.size))
  clear b
  clear e10 e11 e12 e21
  have e20 := P23.out.cell (j := 0) rfl
  have e21 := P23.out.cell (j := 1) rfl
  have e22 := P23.out.cell (j := 2) rfl
  go_wp2_with fail
  refine (cY.out ao2 N2 cap2 _ B3.out T23.out hN22.1 hN22.2).mono ?_
  rintro e w4 ⟨rfl, b⟩
  have P14 := W_hid (P13.out.keep b)
  have T14 := W_hid (T13.out.below b (Nat.le_refl _))
  clear P13 T13
  have P24 := W_hid (P23.out.keep b)
  have T24 := W_hid (T23.out.below b (Nat.le_refl _))
  clear P23 T23
  have B4 := W_hid (B3.out.trans (b.mono B3.out.size))
  clear b
  clear e20 e21 e22
  go_wp2_with fail
  refine (cS.out _).mono ?_
  rintro e w0 ⟨rfl, rfl⟩
  go_wp2_with fail
  refine (cT.out _).mono ?_
  rintro e w0 ⟨rfl, rfl⟩
  go_wp2_with fail
  refine (cH.out _ B4.out).mono ?_
  rintro e w5 ⟨rfl, b⟩
  have P15 := W_hid (P14.out.keep b)
  have T15 := W_hid (T14.out.below b (Nat.le_refl _))
  clear P14 T14
  have P25 := W_hid (P24.out.keep b)
  have T25 := W_hid (T24.out.below b (Nat.le_refl _))
  clear P24 T24
  have B5 := W_hid (B4.out.trans (b.mono B4.out.size))
  clear b
  go_wp2_with fail
  refine (cD.out _ B5.out).mono ?_
  rintro e w0 ⟨rfl, rfl⟩
  have e12 := P15.out.cell (j := 2) rfl
  have e22 := P25.out.cell (j := 2) rfl
  go_wp2_with fail
  refine (cG.out _ B5.out).mono ?_
  rintro e w6 ⟨rfl, b⟩
  have P16 := W_hid (P15.out.keep b)
  have T16 := W_hid (T15.out.below b (Nat.le_refl _))
  clear P15 T15
  have P26 := W_hid (P25.out.keep b)
  have T26 := W_hid (T25.out.below b (Nat.le_refl _))
  clear P25 T25
  have B6 := W_hid (B5.out.trans (b.mono B5.out.size))
  clear b
  clear e12 e22
  go_wp2_with fail
  go_ret
  exact ⟨rfl, B6.out⟩
theorem rRename_Jd (s t : ByteArray) (hs : s.size ≤ maxLen) (ht : t.size ≤ maxLen) (w : World) (h : RW base rt rg I B L c S D (kap D) w) (h0 : PM.perr s = 0) (h1 : PM.perr t = 0) (hnn1 : PM.pN s ≠ []) (hnn2 : PM.pN t ≠ []) (pf : Int) (dpf : Dr) (hpf : D pf = some dpf) (z1 : ByteArray) (hpl1 : plA D (PM.pN s) = ((pf, z1), 0)) (pt : Int) (dpt : Dr) (hpt : D pt = some dpt) (z2 : ByteArray) (hpl2 : plA D (PM.pN t) = ((pt, z2), 0)) (hz1 : ¬ (z1 = PM.dot ∨ z1 = PM.dots)) (hz2 : ¬ (z2 = PM.dot ∨ z2 = PM.dots)) (n : Int) (hk1 : NT.look z1 dpf.l = some n) (dn : Dr) (hD : D n = some dn) (m : Int) (hk2 : NT.look z2 dpt.l = some m) (hmn : m ≠ n) (r : Int) (ho : ovA D n m = r) (hr0 : r ≠ 0) :
    Calls Tryz.prog 65 #[.pointer (some ⟨rt, 0, none⟩), .string s, .string t] w fun e w' => e = .returned (.int .i64 r) ∧ Below w.heap.size w w' := by
  have cP := fun w => W_hid (rparsed (w := w) hs)
  have cQ := fun w => W_hid (rparsed (w := w) ht)
  rw [h0] at cP
  rw [h1] at cQ
  have hl1 := W_hid (And.intro (List.length_pos_iff.2 hnn1) (pN_len s))
  have hl2 := W_hid (And.intro (List.length_pos_iff.2 hnn2) (pN_len t))
  have cX := W_hid (fun (ao : Option Addr) (n cap : Nat) (W : World) (hb : Below w.heap.size w W) (hl : SS W ao n cap (PM.pN s)) (h0 : 0 < n) (hN : n ≤ 100000) => place_d (PM.pA s) (PM.pD s) (PM.pN s) ao n cap W (h.ex.keep hb) hl h0 hN)
  have cY := W_hid (fun (ao : Option Addr) (n cap : Nat) (W : World) (hb : Below w.heap.size w W) (hl : SS W ao n cap (PM.pN t)) (h0 : 0 < n) (hN : n ≤ 100000) => place_d (PM.pA t) (PM.pD t) (PM.pN t) ao n cap W (h.ex.keep hb) hl h0 hN)
  simp only [hpl1] at cX
  simp only [hpl2] at cY
  have cS := W_hid (fun W => rdots_any z1 W)
  have cT := W_hid (fun W => rdots_any z2 W)
  simp only [decide_eq_false hz1] at cS
  simp only [decide_eq_false hz2] at cT
  have cH := W_hid (fun (W : World) (hb : Below w.heap.size w W) => has_d pf z1 W (h.ex.keep hb) hpf)
  have hn0 := look_ne h.ex hpf hk1
  have hn1 : (n == 0) = false := by simpa using hn0
  simp only [hk1, Option.getD_some] at cH
  obtain ⟨K, g, ND, capD, cD, hKN, hNc, hW⟩ := h.parent hD
  replace cD := W_hid cD
  replace hW := W_hid hW
  have hK : ¬ (K : Int) < 0 := by omega
  have hK2 : (0 : Int) ≤ (K : Int) := by omega
  have hKN2 : (K : Int) < (ND : Int) := by omega
  have cG := W_hid (fun (W : World) (hb : Below w.heap.size w W) => has_d pt z2 W (h.ex.keep hb) hpt)
  have hm0 := look_ne h.ex hpt hk2
  have hm1 : (m != 0) = true := by simpa using hm0
  simp only [hk2, Option.getD_some] at cG
  have hmn1 : (m == n) = false := by simpa using hmn
  have cO := W_hid (fun (W : World) (hb : Below w.heap.size w W) => over_d n m W (h.ex.keep hb))
  simp only [ho] at cO
  have hne : (r != 0) = true := by simpa using hr0
  replace hr0 := W_hid hr0
  clear h h0 h1 hnn1 hnn2 hpl1 hpf hpl2 hpt hz1 hz2 hk1 hD hk2 ho 
  generalize PM.pN s = n1 at *
  generalize PM.pD s = d1 at *
  generalize PM.pA s = a1 at *
  generalize PM.pN t = n2 at *
  generalize PM.pD t = d2 at *
  generalize PM.pA t = a2 at *
  go_enter Tryz.func65, Tryz.ntmps65
  go_wp2_with fail
  refine (cP _).out.mono ?_
  rintro e w1 ⟨ao1, N1, cap1, rfl, hS, b⟩
  have bb := b.alloc b.size (.cells #[.bool a1, .slice ao1 N1 cap1, .bool d1] 136)
  have P11 := W_hid (pblk w1 a1 d1 ao1 N1 cap1)
  have T11 := W_hid (hS.alloc (.cells #[.bool a1, .slice ao1 N1 cap1, .bool d1] 136))
  have L1 := W_hid hS.1
  have B1 := W_hid (bb)
  clear b bb hS
  go_wp2_with fail
  refine (cQ _).out.mono ?_
  rintro e w2 ⟨ao2, N2, cap2, rfl, hS, b⟩
  have bb := b.alloc b.size (.cells #[.bool a2, .slice ao2 N2 cap2, .bool d2] 136)
  have P22 := W_hid (pblk w2 a2 d2 ao2 N2 cap2)
  have T22 := W_hid (hS.alloc (.cells #[.bool a2, .slice ao2 N2 cap2, .bool d2] 136))
  have L2 := W_hid hS.1
  have P12 := W_hid (P11.out.keep bb)
  have T12 := W_hid (T11.out.below bb (Nat.le_refl _))
  clear P11 T11
  have B2 := W_hid (B1.out.trans (bb.mono B1.out.size))
  clear b bb hS
  have hN01 : ((N1 : Int) == 0) = false := by have := L1.out; have := hl1.out.1; simp; omega
  have hN11 : ¬ (N1 : Int) = 0 := by have := L1.out; have := hl1.out.1; omega
  have hN21 : 0 < N1 ∧ N1 ≤ 100000 := by have := L1.out; have := hl1.out; omega
  have hN02 : ((N2 : Int) == 0) = false := by have := L2.out; have := hl2.out.1; simp; omega
  have hN12 : ¬ (N2 : Int) = 0 := by have := L2.out; have := hl2.out.1; omega
  have hN22 : 0 < N2 ∧ N2 ≤ 100000 := by have := L2.out; have := hl2.out; omega
  have e10 := P12.out.cell (j := 0) rfl
  have e11 := P12.out.cell (j := 1) rfl
  have e12 := P12.out.cell (j := 2) rfl
  have e21 := P22.out.cell (j := 1) rfl
  go_wp2_with fail
  refine (cX.out ao1 N1 cap1 _ B2.out T12.out hN21.1 hN21.2).mono ?_
  rintro e w3 ⟨rfl, b⟩
  have P13 := W_hid (P12.out.keep b)
  have T13 := W_hid (T12.out.below b (Nat.le_refl _))
  clear P12 T12
  have P23 := W_hid (P22.out.keep b)
  have T23 := W_hid (T22.out.below b (Nat.le_refl _))
  clear P22 T22
  have B3 := W_hid (B2.out.trans (b.mono B2.out.size))
  clear b
  clear e10 e11 e12 e21
  have e20 := P23.out.cell (j := 0) rfl
  have e21 := P23.out.cell (j := 1) rfl
  have e22 := P23.out.cell (j := 2) rfl
  go_wp2_with fail
  refine (cY.out ao2 N2 cap2 _ B3.out T23.out hN22.1 hN22.2).mono ?_
  rintro e w4 ⟨rfl, b⟩
  have P14 := W_hid (P13.out.keep b)
  have T14 := W_hid (T13.out.below b (Nat.le_refl _))
  clear P13 T13
  have P24 := W_hid (P23.out.keep b)
  have T24 := W_hid (T23.out.below b (Nat.le_refl _))
  clear P23 T23
  have B4 := W_hid (B3.out.trans (b.mono B3.out.size))
  clear b
  clear e20 e21 e22
  go_wp2_with fail
  refine (cS.out _).mono ?_
  rintro e w0 ⟨rfl, rfl⟩
  go_wp2_with fail
  refine (cT.out _).mono ?_
  rintro e w0 ⟨rfl, rfl⟩
  go_wp2_with fail
  refine (cH.out _ B4.out).mono ?_
  rintro e w5 ⟨rfl, b⟩
  have P15 := W_hid (P14.out.keep b)
  have T15 := W_hid (T14.out.below b (Nat.le_refl _))
  clear P14 T14
  have P25 := W_hid (P24.out.keep b)
  have T25 := W_hid (T24.out.below b (Nat.le_refl _))
  clear P24 T24
  have B5 := W_hid (B4.out.trans (b.mono B4.out.size))
  clear b
  go_wp2_with fail
  refine (cD.out _ B5.out).mono ?_
  rintro e w0 ⟨rfl, rfl⟩
  have e12 := P15.out.cell (j := 2) rfl
  have e22 := P25.out.cell (j := 2) rfl
  go_wp2_with fail
  refine (cG.out _ B5.out).mono ?_
  rintro e w6 ⟨rfl, b⟩
  have P16 := W_hid (P15.out.keep b)
  have T16 := W_hid (T15.out.below b (Nat.le_refl _))
  clear P15 T15
  have P26 := W_hid (P25.out.keep b)
  have T26 := W_hid (T25.out.below b (Nat.le_refl _))
  clear P25 T25
  have B6 := W_hid (B5.out.trans (b.mono B5.out.size))
  clear b
  clear e12 e22
  go_wp2_with fail
  refine (cO.out _ B6.out).mono ?_
  rintro e w7 ⟨rfl, b⟩
  have P17 := W_hid (P16.out.keep b)
  have T17 := W_hid (T16.out.below b (Nat.le_refl _))
  clear P16 T16
  have P27 := W_hid (P26.out.keep b)
  have T27 := W_hid (T26.out.below b (Nat.le_refl _))
  clear P26 T26
  have B7 := W_hid (B6.out.trans (b.mono B6.out.size))
  clear b
  go_wp2_with fail
  go_ret
  exact ⟨rfl, B7.out⟩
theorem rRename_K0 (s t : ByteArray) (hs : s.size ≤ maxLen) (ht : t.size ≤ maxLen) (w : World) (h : RW base rt rg I B L c S D (kap D) w) (h0 : PM.perr s = 0) (h1 : PM.perr t = 0) (hnn1 : PM.pN s ≠ []) (hnn2 : PM.pN t ≠ []) (pf : Int) (dpf : Dr) (hpf : D pf = some dpf) (z1 : ByteArray) (hpl1 : plA D (PM.pN s) = ((pf, z1), 0)) (pt : Int) (dpt : Dr) (hpt : D pt = some dpt) (z2 : ByteArray) (hpl2 : plA D (PM.pN t) = ((pt, z2), 0)) (hz1 : ¬ (z1 = PM.dot ∨ z1 = PM.dots)) (hz2 : ¬ (z2 = PM.dot ∨ z2 = PM.dots)) (n : Int) (hk1 : NT.look z1 dpf.l = some n) (dn : Dr) (hD : D n = some dn) (hk2 : NT.look z2 dpt.l = none) (q : Nat) (hr : NT.Reach D q pt) (h1r : ∃ dr, D 1 = some dr ∧ dr.up = 1) (ha : n ∈ NT.anc D q pt) :
    Calls Tryz.prog 65 #[.pointer (some ⟨rt, 0, none⟩), .string s, .string t] w fun e w' => e = .returned (.int .i64 2) ∧ Below w.heap.size w w' := by
  have cP := fun w => W_hid (rparsed (w := w) hs)
  have cQ := fun w => W_hid (rparsed (w := w) ht)
  rw [h0] at cP
  rw [h1] at cQ
  have hl1 := W_hid (And.intro (List.length_pos_iff.2 hnn1) (pN_len s))
  have hl2 := W_hid (And.intro (List.length_pos_iff.2 hnn2) (pN_len t))
  have cX := W_hid (fun (ao : Option Addr) (n cap : Nat) (W : World) (hb : Below w.heap.size w W) (hl : SS W ao n cap (PM.pN s)) (h0 : 0 < n) (hN : n ≤ 100000) => place_d (PM.pA s) (PM.pD s) (PM.pN s) ao n cap W (h.ex.keep hb) hl h0 hN)
  have cY := W_hid (fun (ao : Option Addr) (n cap : Nat) (W : World) (hb : Below w.heap.size w W) (hl : SS W ao n cap (PM.pN t)) (h0 : 0 < n) (hN : n ≤ 100000) => place_d (PM.pA t) (PM.pD t) (PM.pN t) ao n cap W (h.ex.keep hb) hl h0 hN)
  simp only [hpl1] at cX
  simp only [hpl2] at cY
  have cS := W_hid (fun W => rdots_any z1 W)
  have cT := W_hid (fun W => rdots_any z2 W)
  simp only [decide_eq_false hz1] at cS
  simp only [decide_eq_false hz2] at cT
  have cH := W_hid (fun (W : World) (hb : Below w.heap.size w W) => has_d pf z1 W (h.ex.keep hb) hpf)
  have hn0 := look_ne h.ex hpf hk1
  have hn1 : (n == 0) = false := by simpa using hn0
  simp only [hk1, Option.getD_some] at cH
  obtain ⟨K, g, ND, capD, cD, hKN, hNc, hW⟩ := h.parent hD
  replace cD := W_hid cD
  replace hW := W_hid hW
  have hK : ¬ (K : Int) < 0 := by omega
  have hK2 : (0 : Int) ≤ (K : Int) := by omega
  have hKN2 : (K : Int) < (ND : Int) := by omega
  have cG := W_hid (fun (W : World) (hb : Below w.heap.size w W) => has_d pt z2 W (h.ex.keep hb) hpt)
  simp only [hk2, Option.getD_none] at cG
  have hmn : ((0 : Int) == n) = false := by simpa using hn0.symm
  have hmn2 : ¬ (0 : Int) = n := hn0.symm
  have cW := W_hid (fun (W : World) (hb : Below w.heap.size w W) => within_d pt n q W (h.ex.keep hb) hr h1r)
  simp only [decide_eq_true ha] at cW
  clear h h0 h1 hnn1 hnn2 hpl1 hpf hpl2 hpt hz1 hz2 hk1 hD hk2 hr h1r ha 
  generalize PM.pN s = n1 at *
  generalize PM.pD s = d1 at *
  generalize PM.pA s = a1 at *
  generalize PM.pN t = n2 at *
  generalize PM.pD t = d2 at *
  generalize PM.pA t = a2 at *
  go_enter Tryz.func65, Tryz.ntmps65
  go_wp2_with fail
  refine (cP _).out.mono ?_
  rintro e w1 ⟨ao1, N1, cap1, rfl, hS, b⟩
  have bb := b.alloc b.size (.cells #[.bool a1, .slice ao1 N1 cap1, .bool d1] 136)
  have P11 := W_hid (pblk w1 a1 d1 ao1 N1 cap1)
  have T11 := W_hid (hS.alloc (.cells #[.bool a1, .slice ao1 N1 cap1, .bool d1] 136))
  have L1 := W_hid hS.1
  have B1 := W_hid (bb)
  clear b bb hS
  go_wp2_with fail
  refine (cQ _).out.mono ?_
  rintro e w2 ⟨ao2, N2, cap2, rfl, hS, b⟩
  have bb := b.alloc b.size (.cells #[.bool a2, .slice ao2 N2 cap2, .bool d2] 136)
  have P22 := W_hid (pblk w2 a2 d2 ao2 N2 cap2)
  have T22 := W_hid (hS.alloc (.cells #[.bool a2, .slice ao2 N2 cap2, .bool d2] 136))
  have L2 := W_hid hS.1
  have P12 := W_hid (P11.out.keep bb)
  have T12 := W_hid (T11.out.below bb (Nat.le_refl _))
  clear P11 T11
  have B2 := W_hid (B1.out.trans (bb.mono B1.out.size))
  clear b bb hS
  have hN01 : ((N1 : Int) == 0) = false := by have := L1.out; have := hl1.out.1; simp; omega
  have hN11 : ¬ (N1 : Int) = 0 := by have := L1.out; have := hl1.out.1; omega
  have hN21 : 0 < N1 ∧ N1 ≤ 100000 := by have := L1.out; have := hl1.out; omega
  have hN02 : ((N2 : Int) == 0) = false := by have := L2.out; have := hl2.out.1; simp; omega
  have hN12 : ¬ (N2 : Int) = 0 := by have := L2.out; have := hl2.out.1; omega
  have hN22 : 0 < N2 ∧ N2 ≤ 100000 := by have := L2.out; have := hl2.out; omega
  have e10 := P12.out.cell (j := 0) rfl
  have e11 := P12.out.cell (j := 1) rfl
  have e12 := P12.out.cell (j := 2) rfl
  have e21 := P22.out.cell (j := 1) rfl
  go_wp2_with fail
  refine (cX.out ao1 N1 cap1 _ B2.out T12.out hN21.1 hN21.2).mono ?_
  rintro e w3 ⟨rfl, b⟩
  have P13 := W_hid (P12.out.keep b)
  have T13 := W_hid (T12.out.below b (Nat.le_refl _))
  clear P12 T12
  have P23 := W_hid (P22.out.keep b)
  have T23 := W_hid (T22.out.below b (Nat.le_refl _))
  clear P22 T22
  have B3 := W_hid (B2.out.trans (b.mono B2.out.size))
  clear b
  clear e10 e11 e12 e21
  have e20 := P23.out.cell (j := 0) rfl
  have e21 := P23.out.cell (j := 1) rfl
  have e22 := P23.out.cell (j := 2) rfl
  go_wp2_with fail
  refine (cY.out ao2 N2 cap2 _ B3.out T23.out hN22.1 hN22.2).mono ?_
  rintro e w4 ⟨rfl, b⟩
  have P14 := W_hid (P13.out.keep b)
  have T14 := W_hid (T13.out.below b (Nat.le_refl _))
  clear P13 T13
  have P24 := W_hid (P23.out.keep b)
  have T24 := W_hid (T23.out.below b (Nat.le_refl _))
  clear P23 T23
  have B4 := W_hid (B3.out.trans (b.mono B3.out.size))
  clear b
  clear e20 e21 e22
  go_wp2_with fail
  refine (cS.out _).mono ?_
  rintro e w0 ⟨rfl, rfl⟩
  go_wp2_with fail
  refine (cT.out _).mono ?_
  rintro e w0 ⟨rfl, rfl⟩
  go_wp2_with fail
  refine (cH.out _ B4.out).mono ?_
  rintro e w5 ⟨rfl, b⟩
  have P15 := W_hid (P14.out.keep b)
  have T15 := W_hid (T14.out.below b (Nat.le_refl _))
  clear P14 T14
  have P25 := W_hid (P24.out.keep b)
  have T25 := W_hid (T24.out.below b (Nat.le_refl _))
  clear P24 T24
  have B5 := W_hid (B4.out.trans (b.mono B4.out.size))
  clear b
  go_wp2_with fail
  refine (cD.out _ B5.out).mono ?_
  rintro e w0 ⟨rfl, rfl⟩
  have e12 := P15.out.cell (j := 2) rfl
  have e22 := P25.out.cell (j := 2) rfl
  go_wp2_with fail
  refine (cG.out _ B5.out).mono ?_
  rintro e w6 ⟨rfl, b⟩
  have P16 := W_hid (P15.out.keep b)
  have T16 := W_hid (T15.out.below b (Nat.le_refl _))
  clear P15 T15
  have P26 := W_hid (P25.out.keep b)
  have T26 := W_hid (T25.out.below b (Nat.le_refl _))
  clear P25 T25
  have B6 := W_hid (B5.out.trans (b.mono B5.out.size))
  clear b
  clear e12 e22
  go_wp2_with fail
  refine (cW.out _ B6.out).mono ?_
  rintro e w7 ⟨rfl, b⟩
  have P17 := W_hid (P16.out.keep b)
  have T17 := W_hid (T16.out.below b (Nat.le_refl _))
  clear P16 T16
  have P27 := W_hid (P26.out.keep b)
  have T27 := W_hid (T26.out.below b (Nat.le_refl _))
  clear P26 T26
  have B7 := W_hid (B6.out.trans (b.mono B6.out.size))
  clear b
  go_wp2_with fail
  go_ret
  exact ⟨rfl, B7.out⟩
theorem rRename_K1 (s t : ByteArray) (hs : s.size ≤ maxLen) (ht : t.size ≤ maxLen) (w : World) (h : RW base rt rg I B L c S D (kap D) w) (h0 : PM.perr s = 0) (h1 : PM.perr t = 0) (hnn1 : PM.pN s ≠ []) (hnn2 : PM.pN t ≠ []) (pf : Int) (dpf : Dr) (hpf : D pf = some dpf) (z1 : ByteArray) (hpl1 : plA D (PM.pN s) = ((pf, z1), 0)) (pt : Int) (dpt : Dr) (hpt : D pt = some dpt) (z2 : ByteArray) (hpl2 : plA D (PM.pN t) = ((pt, z2), 0)) (hz1 : ¬ (z1 = PM.dot ∨ z1 = PM.dots)) (hz2 : ¬ (z2 = PM.dot ∨ z2 = PM.dots)) (n : Int) (hk1 : NT.look z1 dpf.l = some n) (dn : Dr) (hD : D n = some dn) (m : Int) (hk2 : NT.look z2 dpt.l = some m) (hmn : m ≠ n) (ho : ovA D n m = 0) (q : Nat) (hr : NT.Reach D q pt) (h1r : ∃ dr, D 1 = some dr ∧ dr.up = 1) (ha : n ∈ NT.anc D q pt) :
    Calls Tryz.prog 65 #[.pointer (some ⟨rt, 0, none⟩), .string s, .string t] w fun e w' => e = .returned (.int .i64 2) ∧ Below w.heap.size w w' := by
  have cP := fun w => W_hid (rparsed (w := w) hs)
  have cQ := fun w => W_hid (rparsed (w := w) ht)
  rw [h0] at cP
  rw [h1] at cQ
  have hl1 := W_hid (And.intro (List.length_pos_iff.2 hnn1) (pN_len s))
  have hl2 := W_hid (And.intro (List.length_pos_iff.2 hnn2) (pN_len t))
  have cX := W_hid (fun (ao : Option Addr) (n cap : Nat) (W : World) (hb : Below w.heap.size w W) (hl : SS W ao n cap (PM.pN s)) (h0 : 0 < n) (hN : n ≤ 100000) => place_d (PM.pA s) (PM.pD s) (PM.pN s) ao n cap W (h.ex.keep hb) hl h0 hN)
  have cY := W_hid (fun (ao : Option Addr) (n cap : Nat) (W : World) (hb : Below w.heap.size w W) (hl : SS W ao n cap (PM.pN t)) (h0 : 0 < n) (hN : n ≤ 100000) => place_d (PM.pA t) (PM.pD t) (PM.pN t) ao n cap W (h.ex.keep hb) hl h0 hN)
  simp only [hpl1] at cX
  simp only [hpl2] at cY
  have cS := W_hid (fun W => rdots_any z1 W)
  have cT := W_hid (fun W => rdots_any z2 W)
  simp only [decide_eq_false hz1] at cS
  simp only [decide_eq_false hz2] at cT
  have cH := W_hid (fun (W : World) (hb : Below w.heap.size w W) => has_d pf z1 W (h.ex.keep hb) hpf)
  have hn0 := look_ne h.ex hpf hk1
  have hn1 : (n == 0) = false := by simpa using hn0
  simp only [hk1, Option.getD_some] at cH
  obtain ⟨K, g, ND, capD, cD, hKN, hNc, hW⟩ := h.parent hD
  replace cD := W_hid cD
  replace hW := W_hid hW
  have hK : ¬ (K : Int) < 0 := by omega
  have hK2 : (0 : Int) ≤ (K : Int) := by omega
  have hKN2 : (K : Int) < (ND : Int) := by omega
  have cG := W_hid (fun (W : World) (hb : Below w.heap.size w W) => has_d pt z2 W (h.ex.keep hb) hpt)
  have hm0 := look_ne h.ex hpt hk2
  have hm1 : (m != 0) = true := by simpa using hm0
  simp only [hk2, Option.getD_some] at cG
  have hmn1 : (m == n) = false := by simpa using hmn
  have cO := W_hid (fun (W : World) (hb : Below w.heap.size w W) => over_d n m W (h.ex.keep hb))
  simp only [ho] at cO
  have cW := W_hid (fun (W : World) (hb : Below w.heap.size w W) => within_d pt n q W (h.ex.keep hb) hr h1r)
  simp only [decide_eq_true ha] at cW
  clear h h0 h1 hnn1 hnn2 hpl1 hpf hpl2 hpt hz1 hz2 hk1 hD hk2 ho hr h1r ha 
  generalize PM.pN s = n1 at *
  generalize PM.pD s = d1 at *
  generalize PM.pA s = a1 at *
  generalize PM.pN t = n2 at *
  generalize PM.pD t = d2 at *
  generalize PM.pA t = a2 at *
  go_enter Tryz.func65, Tryz.ntmps65
  go_wp2_with fail
  refine (cP _).out.mono ?_
  rintro e w1 ⟨ao1, N1, cap1, rfl, hS, b⟩
  have bb := b.alloc b.size (.cells #[.bool a1, .slice ao1 N1 cap1, .bool d1] 136)
  have P11 := W_hid (pblk w1 a1 d1 ao1 N1 cap1)
  have T11 := W_hid (hS.alloc (.cells #[.bool a1, .slice ao1 N1 cap1, .bool d1] 136))
  have L1 := W_hid hS.1
  have B1 := W_hid (bb)
  clear b bb hS
  go_wp2_with fail
  refine (cQ _).out.mono ?_
  rintro e w2 ⟨ao2, N2, cap2, rfl, hS, b⟩
  have bb := b.alloc b.size (.cells #[.bool a2, .slice ao2 N2 cap2, .bool d2] 136)
  have P22 := W_hid (pblk w2 a2 d2 ao2 N2 cap2)
  have T22 := W_hid (hS.alloc (.cells #[.bool a2, .slice ao2 N2 cap2, .bool d2] 136))
  have L2 := W_hid hS.1
  have P12 := W_hid (P11.out.keep bb)
  have T12 := W_hid (T11.out.below bb (Nat.le_refl _))
  clear P11 T11
  have B2 := W_hid (B1.out.trans (bb.mono B1.out.size))
  clear b bb hS
  have hN01 : ((N1 : Int) == 0) = false := by have := L1.out; have := hl1.out.1; simp; omega
  have hN11 : ¬ (N1 : Int) = 0 := by have := L1.out; have := hl1.out.1; omega
  have hN21 : 0 < N1 ∧ N1 ≤ 100000 := by have := L1.out; have := hl1.out; omega
  have hN02 : ((N2 : Int) == 0) = false := by have := L2.out; have := hl2.out.1; simp; omega
  have hN12 : ¬ (N2 : Int) = 0 := by have := L2.out; have := hl2.out.1; omega
  have hN22 : 0 < N2 ∧ N2 ≤ 100000 := by have := L2.out; have := hl2.out; omega
  have e10 := P12.out.cell (j := 0) rfl
  have e11 := P12.out.cell (j := 1) rfl
  have e12 := P12.out.cell (j := 2) rfl
  have e21 := P22.out.cell (j := 1) rfl
  go_wp2_with fail
  refine (cX.out ao1 N1 cap1 _ B2.out T12.out hN21.1 hN21.2).mono ?_
  rintro e w3 ⟨rfl, b⟩
  have P13 := W_hid (P12.out.keep b)
  have T13 := W_hid (T12.out.below b (Nat.le_refl _))
  clear P12 T12
  have P23 := W_hid (P22.out.keep b)
  have T23 := W_hid (T22.out.below b (Nat.le_refl _))
  clear P22 T22
  have B3 := W_hid (B2.out.trans (b.mono B2.out.size))
  clear b
  clear e10 e11 e12 e21
  have e20 := P23.out.cell (j := 0) rfl
  have e21 := P23.out.cell (j := 1) rfl
  have e22 := P23.out.cell (j := 2) rfl
  go_wp2_with fail
  refine (cY.out ao2 N2 cap2 _ B3.out T23.out hN22.1 hN22.2).mono ?_
  rintro e w4 ⟨rfl, b⟩
  have P14 := W_hid (P13.out.keep b)
  have T14 := W_hid (T13.out.below b (Nat.le_refl _))
  clear P13 T13
  have P24 := W_hid (P23.out.keep b)
  have T24 := W_hid (T23.out.below b (Nat.le_refl _))
  clear P23 T23
  have B4 := W_hid (B3.out.trans (b.mono B3.out.size))
  clear b
  clear e20 e21 e22
  go_wp2_with fail
  refine (cS.out _).mono ?_
  rintro e w0 ⟨rfl, rfl⟩
  go_wp2_with fail
  refine (cT.out _).mono ?_
  rintro e w0 ⟨rfl, rfl⟩
  go_wp2_with fail
  refine (cH.out _ B4.out).mono ?_
  rintro e w5 ⟨rfl, b⟩
  have P15 := W_hid (P14.out.keep b)
  have T15 := W_hid (T14.out.below b (Nat.le_refl _))
  clear P14 T14
  have P25 := W_hid (P24.out.keep b)
  have T25 := W_hid (T24.out.below b (Nat.le_refl _))
  clear P24 T24
  have B5 := W_hid (B4.out.trans (b.mono B4.out.size))
  clear b
  go_wp2_with fail
  refine (cD.out _ B5.out).mono ?_
  rintro e w0 ⟨rfl, rfl⟩
  have e12 := P15.out.cell (j := 2) rfl
  have e22 := P25.out.cell (j := 2) rfl
  go_wp2_with fail
  refine (cG.out _ B5.out).mono ?_
  rintro e w6 ⟨rfl, b⟩
  have P16 := W_hid (P15.out.keep b)
  have T16 := W_hid (T15.out.below b (Nat.le_refl _))
  clear P15 T15
  have P26 := W_hid (P25.out.keep b)
  have T26 := W_hid (T25.out.below b (Nat.le_refl _))
  clear P25 T25
  have B6 := W_hid (B5.out.trans (b.mono B5.out.size))
  clear b
  clear e12 e22
  go_wp2_with fail
  refine (cO.out _ B6.out).mono ?_
  rintro e w7 ⟨rfl, b⟩
  have P17 := W_hid (P16.out.keep b)
  have T17 := W_hid (T16.out.below b (Nat.le_refl _))
  clear P16 T16
  have P27 := W_hid (P26.out.keep b)
  have T27 := W_hid (T26.out.below b (Nat.le_refl _))
  clear P26 T26
  have B7 := W_hid (B6.out.trans (b.mono B6.out.size))
  clear b
  go_wp2_with fail
  refine (cW.out _ B7.out).mono ?_
  rintro e w8 ⟨rfl, b⟩
  have P18 := W_hid (P17.out.keep b)
  have T18 := W_hid (T17.out.below b (Nat.le_refl _))
  clear P17 T17
  have P28 := W_hid (P27.out.keep b)
  have T28 := W_hid (T27.out.below b (Nat.le_refl _))
  clear P27 T27
  have B8 := W_hid (B7.out.trans (b.mono B7.out.size))
  clear b
  go_wp2_with fail
  go_ret
  exact ⟨rfl, B8.out⟩
theorem rRename_L0 (s t : ByteArray) (hs : s.size ≤ maxLen) (ht : t.size ≤ maxLen) (w : World) (h : RW base rt rg I B L c S D (kap D) w) (h0 : PM.perr s = 0) (h1 : PM.perr t = 0) (hnn1 : PM.pN s ≠ []) (hnn2 : PM.pN t ≠ []) (pf : Int) (dpf : Dr) (hpf : D pf = some dpf) (z1 : ByteArray) (hpl1 : plA D (PM.pN s) = ((pf, z1), 0)) (pt : Int) (dpt : Dr) (hpt : D pt = some dpt) (z2 : ByteArray) (hpl2 : plA D (PM.pN t) = ((pt, z2), 0)) (hz1 : ¬ (z1 = PM.dot ∨ z1 = PM.dots)) (hz2 : ¬ (z2 = PM.dot ∨ z2 = PM.dots)) (n : Int) (hk1 : NT.look z1 dpf.l = some n) (hD : D n = none) (hd1 : PM.pD s = false) (hd2 : PM.pD t = false) (hk2 : NT.look z2 dpt.l = none) (hc : c < 65000) (d1 : Dr) (f1 : D pf = some d1) (d4 : Dr) (f4 : (NT.cutD D pf z1) pt = some d4) (f5 : NT.look z2 d4.l = none) :
    Calls Tryz.prog 65 #[.pointer (some ⟨rt, 0, none⟩), .string s, .string t] w fun e w' => e = .returned (.int .i64 0) ∧ RW base rt rg I B L (c + 1) S (NT.putD (NT.cutD D pf z1) pt z2 n) (kap D) w' ∧ Keeps base UT w w' := by
  have cP := fun w => W_hid (rparsed (w := w) hs)
  have cQ := fun w => W_hid (rparsed (w := w) ht)
  rw [h0] at cP
  rw [h1] at cQ
  have hl1 := W_hid (And.intro (List.length_pos_iff.2 hnn1) (pN_len s))
  have hl2 := W_hid (And.intro (List.length_pos_iff.2 hnn2) (pN_len t))
  have cX := W_hid (fun (ao : Option Addr) (n cap : Nat) (W : World) (hb : Below w.heap.size w W) (hl : SS W ao n cap (PM.pN s)) (h0 : 0 < n) (hN : n ≤ 100000) => place_d (PM.pA s) (PM.pD s) (PM.pN s) ao n cap W (h.ex.keep hb) hl h0 hN)
  have cY := W_hid (fun (ao : Option Addr) (n cap : Nat) (W : World) (hb : Below w.heap.size w W) (hl : SS W ao n cap (PM.pN t)) (h0 : 0 < n) (hN : n ≤ 100000) => place_d (PM.pA t) (PM.pD t) (PM.pN t) ao n cap W (h.ex.keep hb) hl h0 hN)
  simp only [hpl1] at cX
  simp only [hpl2] at cY
  have cS := W_hid (fun W => rdots_any z1 W)
  have cT := W_hid (fun W => rdots_any z2 W)
  simp only [decide_eq_false hz1] at cS
  simp only [decide_eq_false hz2] at cT
  have cH := W_hid (fun (W : World) (hb : Below w.heap.size w W) => has_d pf z1 W (h.ex.keep hb) hpf)
  have hn0 := look_ne h.ex hpf hk1
  have hn1 : (n == 0) = false := by simpa using hn0
  simp only [hk1, Option.getD_some] at cH
  have cD := W_hid (fun (W : World) (hb : Below w.heap.size w W) => dir_no W (h.ex.keep hb) hD)
  have cG := W_hid (fun (W : World) (hb : Below w.heap.size w W) => has_d pt z2 W (h.ex.keep hb) hpt)
  simp only [hk2, Option.getD_none] at cG
  have hmn : ((0 : Int) == n) = false := by simpa using hn0.symm
  have hmn2 : ¬ (0 : Int) = n := hn0.symm
  have hlw := W_hid h.low
  have c1 := W_hid (fun (W : World) (h2 : RW base rt rg I B L c S D (kap D) W) => drop_d pf z1 W h2 f1)
  have c4 := W_hid (fun (W : World) (h2 : RW base rt rg I B L c S (NT.cutD D pf z1) (kap D) W) => put_d pt z2 n 1 W h2 (by omega) f4 f5 hn0 (by unfold kap; rw [hD]; rfl))
  have hH := W_hid (fun (W : World) (hb : Below w.heap.size w W) => h.keep hb)
  clear h h0 h1 hnn1 hnn2 hpl1 hpf hpl2 hpt hz1 hz2 hk1 hD hk2 f1 f4 f5 
  generalize PM.pN s = n1 at *
  generalize PM.pD s = d1 at *
  generalize PM.pA s = a1 at *
  generalize PM.pN t = n2 at *
  generalize PM.pD t = d2 at *
  generalize PM.pA t = a2 at *
  subst hd1
  subst hd2
  go_enter Tryz.func65, Tryz.ntmps65
  go_wp2_with fail
  refine (cP _).out.mono ?_
  rintro e w1 ⟨ao1, N1, cap1, rfl, hS, b⟩
  have bb := b.alloc b.size (.cells #[.bool a1, .slice ao1 N1 cap1, .bool false] 136)
  have P11 := W_hid (pblk w1 a1 false ao1 N1 cap1)
  have T11 := W_hid (hS.alloc (.cells #[.bool a1, .slice ao1 N1 cap1, .bool false] 136))
  have L1 := W_hid hS.1
  have B1 := W_hid (bb)
  clear b bb hS
  go_wp2_with fail
  refine (cQ _).out.mono ?_
  rintro e w2 ⟨ao2, N2, cap2, rfl, hS, b⟩
  have bb := b.alloc b.size (.cells #[.bool a2, .slice ao2 N2 cap2, .bool false] 136)
  have P22 := W_hid (pblk w2 a2 false ao2 N2 cap2)
  have T22 := W_hid (hS.alloc (.cells #[.bool a2, .slice ao2 N2 cap2, .bool false] 136))
  have L2 := W_hid hS.1
  have P12 := W_hid (P11.out.keep bb)
  have T12 := W_hid (T11.out.below bb (Nat.le_refl _))
  clear P11 T11
  have B2 := W_hid (B1.out.trans (bb.mono B1.out.size))
  clear b bb hS
  have hN01 : ((N1 : Int) == 0) = false := by have := L1.out; have := hl1.out.1; simp; omega
  have hN11 : ¬ (N1 : Int) = 0 := by have := L1.out; have := hl1.out.1; omega
  have hN21 : 0 < N1 ∧ N1 ≤ 100000 := by have := L1.out; have := hl1.out; omega
  have hN02 : ((N2 : Int) == 0) = false := by have := L2.out; have := hl2.out.1; simp; omega
  have hN12 : ¬ (N2 : Int) = 0 := by have := L2.out; have := hl2.out.1; omega
  have hN22 : 0 < N2 ∧ N2 ≤ 100000 := by have := L2.out; have := hl2.out; omega
  have e10 := P12.out.cell (j := 0) rfl
  have e11 := P12.out.cell (j := 1) rfl
  have e12 := P12.out.cell (j := 2) rfl
  have e21 := P22.out.cell (j := 1) rfl
  go_wp2_with fail
  refine (cX.out ao1 N1 cap1 _ B2.out T12.out hN21.1 hN21.2).mono ?_
  rintro e w3 ⟨rfl, b⟩
  have P13 := W_hid (P12.out.keep b)
  have T13 := W_hid (T12.out.below b (Nat.le_refl _))
  clear P12 T12
  have P23 := W_hid (P22.out.keep b)
  have T23 := W_hid (T22.out.below b (Nat.le_refl _))
  clear P22 T22
  have B3 := W_hid (B2.out.trans (b.mono B2.out.size))
  clear b
  clear e10 e11 e12 e21
  have e20 := P23.out.cell (j := 0) rfl
  have e21 := P23.out.cell (j := 1) rfl
  have e22 := P23.out.cell (j := 2) rfl
  go_wp2_with fail
  refine (cY.out ao2 N2 cap2 _ B3.out T23.out hN22.1 hN22.2).mono ?_
  rintro e w4 ⟨rfl, b⟩
  have P14 := W_hid (P13.out.keep b)
  have T14 := W_hid (T13.out.below b (Nat.le_refl _))
  clear P13 T13
  have P24 := W_hid (P23.out.keep b)
  have T24 := W_hid (T23.out.below b (Nat.le_refl _))
  clear P23 T23
  have B4 := W_hid (B3.out.trans (b.mono B3.out.size))
  clear b
  clear e20 e21 e22
  go_wp2_with fail
  refine (cS.out _).mono ?_
  rintro e w0 ⟨rfl, rfl⟩
  go_wp2_with fail
  refine (cT.out _).mono ?_
  rintro e w0 ⟨rfl, rfl⟩
  go_wp2_with fail
  refine (cH.out _ B4.out).mono ?_
  rintro e w5 ⟨rfl, b⟩
  have P15 := W_hid (P14.out.keep b)
  have T15 := W_hid (T14.out.below b (Nat.le_refl _))
  clear P14 T14
  have P25 := W_hid (P24.out.keep b)
  have T25 := W_hid (T24.out.below b (Nat.le_refl _))
  clear P24 T24
  have B5 := W_hid (B4.out.trans (b.mono B4.out.size))
  clear b
  go_wp2_with fail
  refine (cD.out _ B5.out).mono ?_
  rintro e w0 ⟨rfl, rfl⟩
  have e12 := P15.out.cell (j := 2) rfl
  have e22 := P25.out.cell (j := 2) rfl
  go_wp2_with fail
  refine (cG.out _ B5.out).mono ?_
  rintro e w6 ⟨rfl, b⟩
  have P16 := W_hid (P15.out.keep b)
  have T16 := W_hid (T15.out.below b (Nat.le_refl _))
  clear P15 T15
  have P26 := W_hid (P25.out.keep b)
  have T26 := W_hid (T25.out.below b (Nat.le_refl _))
  clear P25 T25
  have B6 := W_hid (B5.out.trans (b.mono B5.out.size))
  clear b
  clear e12 e22
  have h5 := hH.out _ B6.out
  have k5 := W_hid (Keeps.new (T := UT) B6.out hlw.out)
  have c1a := W_hid (c1.out _ h5)
  clear h5
  go_wp2_with fail
  refine c1a.out.mono ?_
  rintro e v1 ⟨rfl, h6, k6⟩
  have k6 := W_hid (k5.out.trans k6)
  have c4a := W_hid (c4.out _ h6)
  clear h6
  go_wp2_with fail
  refine c4a.out.mono ?_
  rintro e v4 ⟨rfl, h9, k9⟩
  have h9 := W_hid h9
  have k9 := W_hid (k6.out.trans k9)
  go_wp2_with fail
  go_ret
  exact ⟨rfl, h9.out, k9.out⟩
theorem rRename_L1 (s t : ByteArray) (hs : s.size ≤ maxLen) (ht : t.size ≤ maxLen) (w : World) (h : RW base rt rg I B L c S D (kap D) w) (h0 : PM.perr s = 0) (h1 : PM.perr t = 0) (hnn1 : PM.pN s ≠ []) (hnn2 : PM.pN t ≠ []) (pf : Int) (dpf : Dr) (hpf : D pf = some dpf) (z1 : ByteArray) (hpl1 : plA D (PM.pN s) = ((pf, z1), 0)) (pt : Int) (dpt : Dr) (hpt : D pt = some dpt) (z2 : ByteArray) (hpl2 : plA D (PM.pN t) = ((pt, z2), 0)) (hz1 : ¬ (z1 = PM.dot ∨ z1 = PM.dots)) (hz2 : ¬ (z2 = PM.dot ∨ z2 = PM.dots)) (n : Int) (hk1 : NT.look z1 dpf.l = some n) (hD : D n = none) (hd1 : PM.pD s = false) (hd2 : PM.pD t = false) (m : Int) (hk2 : NT.look z2 dpt.l = some m) (hmn : m ≠ n) (ho : ovA D n m = 0) (hc : c < 65000) (d1 : Dr) (f1 : D pf = some d1) (d2 : Dr) (f2 : (NT.cutD D pf z1) pt = some d2) (hfi : IN.Fine I L B k S) (hI : I ≤ 4096) (hL : L ≤ 32768) (hk : k < 1000000) (d4 : Dr) (f4 : (NT.upd (NT.cutD (NT.cutD D pf z1) pt z2) m none) pt = some d4) (f5 : NT.look z2 d4.l = none) :
    Calls Tryz.prog 65 #[.pointer (some ⟨rt, 0, none⟩), .string s, .string t] w fun e w' => e = .returned (.int .i64 0) ∧ RW base rt rg I B L (c + 1) (IN.ulS S m) (NT.putD (NT.upd (NT.cutD (NT.cutD D pf z1) pt z2) m none) pt z2 n) (kap D) w' ∧ Keeps base UT w w' := by
  have cP := fun w => W_hid (rparsed (w := w) hs)
  have cQ := fun w => W_hid (rparsed (w := w) ht)
  rw [h0] at cP
  rw [h1] at cQ
  have hl1 := W_hid (And.intro (List.length_pos_iff.2 hnn1) (pN_len s))
  have hl2 := W_hid (And.intro (List.length_pos_iff.2 hnn2) (pN_len t))
  have cX := W_hid (fun (ao : Option Addr) (n cap : Nat) (W : World) (hb : Below w.heap.size w W) (hl : SS W ao n cap (PM.pN s)) (h0 : 0 < n) (hN : n ≤ 100000) => place_d (PM.pA s) (PM.pD s) (PM.pN s) ao n cap W (h.ex.keep hb) hl h0 hN)
  have cY := W_hid (fun (ao : Option Addr) (n cap : Nat) (W : World) (hb : Below w.heap.size w W) (hl : SS W ao n cap (PM.pN t)) (h0 : 0 < n) (hN : n ≤ 100000) => place_d (PM.pA t) (PM.pD t) (PM.pN t) ao n cap W (h.ex.keep hb) hl h0 hN)
  simp only [hpl1] at cX
  simp only [hpl2] at cY
  have cS := W_hid (fun W => rdots_any z1 W)
  have cT := W_hid (fun W => rdots_any z2 W)
  simp only [decide_eq_false hz1] at cS
  simp only [decide_eq_false hz2] at cT
  have cH := W_hid (fun (W : World) (hb : Below w.heap.size w W) => has_d pf z1 W (h.ex.keep hb) hpf)
  have hn0 := look_ne h.ex hpf hk1
  have hn1 : (n == 0) = false := by simpa using hn0
  simp only [hk1, Option.getD_some] at cH
  have cD := W_hid (fun (W : World) (hb : Below w.heap.size w W) => dir_no W (h.ex.keep hb) hD)
  have cG := W_hid (fun (W : World) (hb : Below w.heap.size w W) => has_d pt z2 W (h.ex.keep hb) hpt)
  have hm0 := look_ne h.ex hpt hk2
  have hm1 : (m != 0) = true := by simpa using hm0
  simp only [hk2, Option.getD_some] at cG
  have hmn1 : (m == n) = false := by simpa using hmn
  have cO := W_hid (fun (W : World) (hb : Below w.heap.size w W) => over_d n m W (h.ex.keep hb))
  simp only [ho] at cO
  have hlw := W_hid h.low
  have c1 := W_hid (fun (W : World) (h2 : RW base rt rg I B L c S D (kap D) W) => drop_d pf z1 W h2 f1)
  have c2 := W_hid (fun (W : World) (h2 : RW base rt rg I B L c S (NT.cutD D pf z1) (kap D) W) => drop_d pt z2 W h2 f2)
  have c3 := W_hid (fun (W : World) (h2 : RW base rt rg I B L c S (NT.cutD (NT.cutD D pf z1) pt z2) (kap D) W) => away_d m W h2 hfi hI hL hk)
  have c4 := W_hid (fun (W : World) (h2 : RW base rt rg I B L c (IN.ulS S m) (NT.upd (NT.cutD (NT.cutD D pf z1) pt z2) m none) (kap D) W) => put_d pt z2 n 1 W h2 (by omega) f4 f5 hn0 (by unfold kap; rw [hD]; rfl))
  have hH := W_hid (fun (W : World) (hb : Below w.heap.size w W) => h.keep hb)
  clear h h0 h1 hnn1 hnn2 hpl1 hpf hpl2 hpt hz1 hz2 hk1 hD hk2 ho f1 f4 f5 f2 hfi 
  generalize PM.pN s = n1 at *
  generalize PM.pD s = d1 at *
  generalize PM.pA s = a1 at *
  generalize PM.pN t = n2 at *
  generalize PM.pD t = d2 at *
  generalize PM.pA t = a2 at *
  subst hd1
  subst hd2
  go_enter Tryz.func65, Tryz.ntmps65
  go_wp2_with fail
  refine (cP _).out.mono ?_
  rintro e w1 ⟨ao1, N1, cap1, rfl, hS, b⟩
  have bb := b.alloc b.size (.cells #[.bool a1, .slice ao1 N1 cap1, .bool false] 136)
  have P11 := W_hid (pblk w1 a1 false ao1 N1 cap1)
  have T11 := W_hid (hS.alloc (.cells #[.bool a1, .slice ao1 N1 cap1, .bool false] 136))
  have L1 := W_hid hS.1
  have B1 := W_hid (bb)
  clear b bb hS
  go_wp2_with fail
  refine (cQ _).out.mono ?_
  rintro e w2 ⟨ao2, N2, cap2, rfl, hS, b⟩
  have bb := b.alloc b.size (.cells #[.bool a2, .slice ao2 N2 cap2, .bool false] 136)
  have P22 := W_hid (pblk w2 a2 false ao2 N2 cap2)
  have T22 := W_hid (hS.alloc (.cells #[.bool a2, .slice ao2 N2 cap2, .bool false] 136))
  have L2 := W_hid hS.1
  have P12 := W_hid (P11.out.keep bb)
  have T12 := W_hid (T11.out.below bb (Nat.le_refl _))
  clear P11 T11
  have B2 := W_hid (B1.out.trans (bb.mono B1.out.size))
  clear b bb hS
  have hN01 : ((N1 : Int) == 0) = false := by have := L1.out; have := hl1.out.1; simp; omega
  have hN11 : ¬ (N1 : Int) = 0 := by have := L1.out; have := hl1.out.1; omega
  have hN21 : 0 < N1 ∧ N1 ≤ 100000 := by have := L1.out; have := hl1.out; omega
  have hN02 : ((N2 : Int) == 0) = false := by have := L2.out; have := hl2.out.1; simp; omega
  have hN12 : ¬ (N2 : Int) = 0 := by have := L2.out; have := hl2.out.1; omega
  have hN22 : 0 < N2 ∧ N2 ≤ 100000 := by have := L2.out; have := hl2.out; omega
  have e10 := P12.out.cell (j := 0) rfl
  have e11 := P12.out.cell (j := 1) rfl
  have e12 := P12.out.cell (j := 2) rfl
  have e21 := P22.out.cell (j := 1) rfl
  go_wp2_with fail
  refine (cX.out ao1 N1 cap1 _ B2.out T12.out hN21.1 hN21.2).mono ?_
  rintro e w3 ⟨rfl, b⟩
  have P13 := W_hid (P12.out.keep b)
  have T13 := W_hid (T12.out.below b (Nat.le_refl _))
  clear P12 T12
  have P23 := W_hid (P22.out.keep b)
  have T23 := W_hid (T22.out.below b (Nat.le_refl _))
  clear P22 T22
  have B3 := W_hid (B2.out.trans (b.mono B2.out.size))
  clear b
  clear e10 e11 e12 e21
  have e20 := P23.out.cell (j := 0) rfl
  have e21 := P23.out.cell (j := 1) rfl
  have e22 := P23.out.cell (j := 2) rfl
  go_wp2_with fail
  refine (cY.out ao2 N2 cap2 _ B3.out T23.out hN22.1 hN22.2).mono ?_
  rintro e w4 ⟨rfl, b⟩
  have P14 := W_hid (P13.out.keep b)
  have T14 := W_hid (T13.out.below b (Nat.le_refl _))
  clear P13 T13
  have P24 := W_hid (P23.out.keep b)
  have T24 := W_hid (T23.out.below b (Nat.le_refl _))
  clear P23 T23
  have B4 := W_hid (B3.out.trans (b.mono B3.out.size))
  clear b
  clear e20 e21 e22
  go_wp2_with fail
  refine (cS.out _).mono ?_
  rintro e w0 ⟨rfl, rfl⟩
  go_wp2_with fail
  refine (cT.out _).mono ?_
  rintro e w0 ⟨rfl, rfl⟩
  go_wp2_with fail
  refine (cH.out _ B4.out).mono ?_
  rintro e w5 ⟨rfl, b⟩
  have P15 := W_hid (P14.out.keep b)
  have T15 := W_hid (T14.out.below b (Nat.le_refl _))
  clear P14 T14
  have P25 := W_hid (P24.out.keep b)
  have T25 := W_hid (T24.out.below b (Nat.le_refl _))
  clear P24 T24
  have B5 := W_hid (B4.out.trans (b.mono B4.out.size))
  clear b
  go_wp2_with fail
  refine (cD.out _ B5.out).mono ?_
  rintro e w0 ⟨rfl, rfl⟩
  have e12 := P15.out.cell (j := 2) rfl
  have e22 := P25.out.cell (j := 2) rfl
  go_wp2_with fail
  refine (cG.out _ B5.out).mono ?_
  rintro e w6 ⟨rfl, b⟩
  have P16 := W_hid (P15.out.keep b)
  have T16 := W_hid (T15.out.below b (Nat.le_refl _))
  clear P15 T15
  have P26 := W_hid (P25.out.keep b)
  have T26 := W_hid (T25.out.below b (Nat.le_refl _))
  clear P25 T25
  have B6 := W_hid (B5.out.trans (b.mono B5.out.size))
  clear b
  clear e12 e22
  go_wp2_with fail
  refine (cO.out _ B6.out).mono ?_
  rintro e w7 ⟨rfl, b⟩
  have P17 := W_hid (P16.out.keep b)
  have T17 := W_hid (T16.out.below b (Nat.le_refl _))
  clear P16 T16
  have P27 := W_hid (P26.out.keep b)
  have T27 := W_hid (T26.out.below b (Nat.le_refl _))
  clear P26 T26
  have B7 := W_hid (B6.out.trans (b.mono B6.out.size))
  clear b
  have h5 := hH.out _ B7.out
  have k5 := W_hid (Keeps.new (T := UT) B7.out hlw.out)
  have c1a := W_hid (c1.out _ h5)
  clear h5
  go_wp2_with fail
  refine c1a.out.mono ?_
  rintro e v1 ⟨rfl, h6, k6⟩
  have k6 := W_hid (k5.out.trans k6)
  have c2a := W_hid (c2.out _ h6)
  clear h6
  go_wp2_with fail
  refine c2a.out.mono ?_
  rintro e v2 ⟨rfl, h7, k7⟩
  have k7 := W_hid (k6.out.trans k7)
  have c3a := W_hid (c3.out _ h7)
  clear h7
  go_wp2_with fail
  refine c3a.out.mono ?_
  rintro e v3 ⟨rfl, h6, k8⟩
  have k6 := W_hid (k7.out.trans k8)
  clear k8
  have c4a := W_hid (c4.out _ h6)
  clear h6
  go_wp2_with fail
  refine c4a.out.mono ?_
  rintro e v4 ⟨rfl, h9, k9⟩
  have h9 := W_hid h9
  have k9 := W_hid (k6.out.trans k9)
  go_wp2_with fail
  go_ret
  exact ⟨rfl, h9.out, k9.out⟩
theorem rRename_M0 (s t : ByteArray) (hs : s.size ≤ maxLen) (ht : t.size ≤ maxLen) (w : World) (h : RW base rt rg I B L c S D (kap D) w) (h0 : PM.perr s = 0) (h1 : PM.perr t = 0) (hnn1 : PM.pN s ≠ []) (hnn2 : PM.pN t ≠ []) (pf : Int) (dpf : Dr) (hpf : D pf = some dpf) (z1 : ByteArray) (hpl1 : plA D (PM.pN s) = ((pf, z1), 0)) (pt : Int) (dpt : Dr) (hpt : D pt = some dpt) (z2 : ByteArray) (hpl2 : plA D (PM.pN t) = ((pt, z2), 0)) (hz1 : ¬ (z1 = PM.dot ∨ z1 = PM.dots)) (hz2 : ¬ (z2 = PM.dot ∨ z2 = PM.dots)) (n : Int) (hk1 : NT.look z1 dpf.l = some n) (dn : Dr) (hD : D n = some dn) (hk2 : NT.look z2 dpt.l = none) (q : Nat) (hr : NT.Reach D q pt) (h1r : ∃ dr, D 1 = some dr ∧ dr.up = 1) (ha : ¬ n ∈ NT.anc D q pt) (hc : c < 65000) (d1 : Dr) (f1 : (NT.upD D n pt) pf = some d1) (d4 : Dr) (f4 : (NT.cutD (NT.upD D n pt) pf z1) pt = some d4) (f5 : NT.look z2 d4.l = none) :
    Calls Tryz.prog 65 #[.pointer (some ⟨rt, 0, none⟩), .string s, .string t] w fun e w' => e = .returned (.int .i64 0) ∧ RW base rt rg I B L (c + 1) S (NT.putD (NT.cutD (NT.upD D n pt) pf z1) pt z2 n) (kap D) w' ∧ Keeps base UT w w' := by
  have cP := fun w => W_hid (rparsed (w := w) hs)
  have cQ := fun w => W_hid (rparsed (w := w) ht)
  rw [h0] at cP
  rw [h1] at cQ
  have hl1 := W_hid (And.intro (List.length_pos_iff.2 hnn1) (pN_len s))
  have hl2 := W_hid (And.intro (List.length_pos_iff.2 hnn2) (pN_len t))
  have cX := W_hid (fun (ao : Option Addr) (n cap : Nat) (W : World) (hb : Below w.heap.size w W) (hl : SS W ao n cap (PM.pN s)) (h0 : 0 < n) (hN : n ≤ 100000) => place_d (PM.pA s) (PM.pD s) (PM.pN s) ao n cap W (h.ex.keep hb) hl h0 hN)
  have cY := W_hid (fun (ao : Option Addr) (n cap : Nat) (W : World) (hb : Below w.heap.size w W) (hl : SS W ao n cap (PM.pN t)) (h0 : 0 < n) (hN : n ≤ 100000) => place_d (PM.pA t) (PM.pD t) (PM.pN t) ao n cap W (h.ex.keep hb) hl h0 hN)
  simp only [hpl1] at cX
  simp only [hpl2] at cY
  have cS := W_hid (fun W => rdots_any z1 W)
  have cT := W_hid (fun W => rdots_any z2 W)
  simp only [decide_eq_false hz1] at cS
  simp only [decide_eq_false hz2] at cT
  have cH := W_hid (fun (W : World) (hb : Below w.heap.size w W) => has_d pf z1 W (h.ex.keep hb) hpf)
  have hn0 := look_ne h.ex hpf hk1
  have hn1 : (n == 0) = false := by simpa using hn0
  simp only [hk1, Option.getD_some] at cH
  obtain ⟨K, g, ND, capD, cD, hKN, hNc, hW⟩ := h.parent hD
  replace cD := W_hid cD
  replace hW := W_hid hW
  have hK : ¬ (K : Int) < 0 := by omega
  have hK2 : (0 : Int) ≤ (K : Int) := by omega
  have hKN2 : (K : Int) < (ND : Int) := by omega
  have cG := W_hid (fun (W : World) (hb : Below w.heap.size w W) => has_d pt z2 W (h.ex.keep hb) hpt)
  simp only [hk2, Option.getD_none] at cG
  have hmn : ((0 : Int) == n) = false := by simpa using hn0.symm
  have hmn2 : ¬ (0 : Int) = n := hn0.symm
  have cW := W_hid (fun (W : World) (hb : Below w.heap.size w W) => within_d pt n q W (h.ex.keep hb) hr h1r)
  simp only [decide_eq_false ha] at cW
  have hlw := W_hid h.low
  have c1 := W_hid (fun (W : World) (h2 : RW base rt rg I B L c S (NT.upD D n pt) (kap D) W) => drop_d pf z1 W h2 f1)
  have c4 := W_hid (fun (W : World) (h2 : RW base rt rg I B L c S (NT.cutD (NT.upD D n pt) pf z1) (kap D) W) => put_d pt z2 n 2 W h2 (by omega) f4 f5 hn0 (by unfold kap; rw [hD]; rfl))
  clear h h0 h1 hnn1 hnn2 hpl1 hpf hpl2 hpt hz1 hz2 hk1 hD hk2 hr h1r ha f1 f4 f5 
  generalize PM.pN s = n1 at *
  generalize PM.pD s = d1 at *
  generalize PM.pA s = a1 at *
  generalize PM.pN t = n2 at *
  generalize PM.pD t = d2 at *
  generalize PM.pA t = a2 at *
  go_enter Tryz.func65, Tryz.ntmps65
  go_wp2_with fail
  refine (cP _).out.mono ?_
  rintro e w1 ⟨ao1, N1, cap1, rfl, hS, b⟩
  have bb := b.alloc b.size (.cells #[.bool a1, .slice ao1 N1 cap1, .bool d1] 136)
  have P11 := W_hid (pblk w1 a1 d1 ao1 N1 cap1)
  have T11 := W_hid (hS.alloc (.cells #[.bool a1, .slice ao1 N1 cap1, .bool d1] 136))
  have L1 := W_hid hS.1
  have B1 := W_hid (bb)
  clear b bb hS
  go_wp2_with fail
  refine (cQ _).out.mono ?_
  rintro e w2 ⟨ao2, N2, cap2, rfl, hS, b⟩
  have bb := b.alloc b.size (.cells #[.bool a2, .slice ao2 N2 cap2, .bool d2] 136)
  have P22 := W_hid (pblk w2 a2 d2 ao2 N2 cap2)
  have T22 := W_hid (hS.alloc (.cells #[.bool a2, .slice ao2 N2 cap2, .bool d2] 136))
  have L2 := W_hid hS.1
  have P12 := W_hid (P11.out.keep bb)
  have T12 := W_hid (T11.out.below bb (Nat.le_refl _))
  clear P11 T11
  have B2 := W_hid (B1.out.trans (bb.mono B1.out.size))
  clear b bb hS
  have hN01 : ((N1 : Int) == 0) = false := by have := L1.out; have := hl1.out.1; simp; omega
  have hN11 : ¬ (N1 : Int) = 0 := by have := L1.out; have := hl1.out.1; omega
  have hN21 : 0 < N1 ∧ N1 ≤ 100000 := by have := L1.out; have := hl1.out; omega
  have hN02 : ((N2 : Int) == 0) = false := by have := L2.out; have := hl2.out.1; simp; omega
  have hN12 : ¬ (N2 : Int) = 0 := by have := L2.out; have := hl2.out.1; omega
  have hN22 : 0 < N2 ∧ N2 ≤ 100000 := by have := L2.out; have := hl2.out; omega
  have e10 := P12.out.cell (j := 0) rfl
  have e11 := P12.out.cell (j := 1) rfl
  have e12 := P12.out.cell (j := 2) rfl
  have e21 := P22.out.cell (j := 1) rfl
  go_wp2_with fail
  refine (cX.out ao1 N1 cap1 _ B2.out T12.out hN21.1 hN21.2).mono ?_
  rintro e w3 ⟨rfl, b⟩
  have P13 := W_hid (P12.out.keep b)
  have T13 := W_hid (T12.out.below b (Nat.le_refl _))
  clear P12 T12
  have P23 := W_hid (P22.out.keep b)
  have T23 := W_hid (T22.out.below b (Nat.le_refl _))
  clear P22 T22
  have B3 := W_hid (B2.out.trans (b.mono B2.out.size))
  clear b
  clear e10 e11 e12 e21
  have e20 := P23.out.cell (j := 0) rfl
  have e21 := P23.out.cell (j := 1) rfl
  have e22 := P23.out.cell (j := 2) rfl
  go_wp2_with fail
  refine (cY.out ao2 N2 cap2 _ B3.out T23.out hN22.1 hN22.2).mono ?_
  rintro e w4 ⟨rfl, b⟩
  have P14 := W_hid (P13.out.keep b)
  have T14 := W_hid (T13.out.below b (Nat.le_refl _))
  clear P13 T13
  have P24 := W_hid (P23.out.keep b)
  have T24 := W_hid (T23.out.below b (Nat.le_refl _))
  clear P23 T23
  have B4 := W_hid (B3.out.trans (b.mono B3.out.size))
  clear b
  clear e20 e21 e22
  go_wp2_with fail
  refine (cS.out _).mono ?_
  rintro e w0 ⟨rfl, rfl⟩
  go_wp2_with fail
  refine (cT.out _).mono ?_
  rintro e w0 ⟨rfl, rfl⟩
  go_wp2_with fail
  refine (cH.out _ B4.out).mono ?_
  rintro e w5 ⟨rfl, b⟩
  have P15 := W_hid (P14.out.keep b)
  have T15 := W_hid (T14.out.below b (Nat.le_refl _))
  clear P14 T14
  have P25 := W_hid (P24.out.keep b)
  have T25 := W_hid (T24.out.below b (Nat.le_refl _))
  clear P24 T24
  have B5 := W_hid (B4.out.trans (b.mono B4.out.size))
  clear b
  go_wp2_with fail
  refine (cD.out _ B5.out).mono ?_
  rintro e w0 ⟨rfl, rfl⟩
  have e12 := P15.out.cell (j := 2) rfl
  have e22 := P25.out.cell (j := 2) rfl
  go_wp2_with fail
  refine (cG.out _ B5.out).mono ?_
  rintro e w6 ⟨rfl, b⟩
  have P16 := W_hid (P15.out.keep b)
  have T16 := W_hid (T15.out.below b (Nat.le_refl _))
  clear P15 T15
  have P26 := W_hid (P25.out.keep b)
  have T26 := W_hid (T25.out.below b (Nat.le_refl _))
  clear P25 T25
  have B6 := W_hid (B5.out.trans (b.mono B5.out.size))
  clear b
  clear e12 e22
  go_wp2_with fail
  refine (cW.out _ B6.out).mono ?_
  rintro e w7 ⟨rfl, b⟩
  have P17 := W_hid (P16.out.keep b)
  have T17 := W_hid (T16.out.below b (Nat.le_refl _))
  clear P16 T16
  have P27 := W_hid (P26.out.keep b)
  have T27 := W_hid (T26.out.below b (Nat.le_refl _))
  clear P26 T26
  have B7 := W_hid (B6.out.trans (b.mono B6.out.size))
  clear b
  obtain ⟨q1, q3, ⟨u, q4⟩, -, q5⟩ := hW.out _ B7.out
  have q3 := q3 (K * 3 + 1)
  obtain ⟨h5, k5⟩ := q5 pt
  have k5 := W_hid ((Keeps.new B7.out hlw.out).trans k5)
  have c1a := W_hid (c1.out _ h5)
  clear h5 q5
  go_wp2_with fail
  refine c1a.out.mono ?_
  rintro e v1 ⟨rfl, h6, k6⟩
  have k6 := W_hid (k5.out.trans k6)
  have c4a := W_hid (c4.out _ h6)
  clear h6
  go_wp2_with fail
  refine c4a.out.mono ?_
  rintro e v4 ⟨rfl, h9, k9⟩
  have h9 := W_hid h9
  have k9 := W_hid (k6.out.trans k9)
  go_wp2_with fail
  go_ret
  exact ⟨rfl, h9.out, k9.out⟩
theorem rRename_M1 (s t : ByteArray) (hs : s.size ≤ maxLen) (ht : t.size ≤ maxLen) (w : World) (h : RW base rt rg I B L c S D (kap D) w) (h0 : PM.perr s = 0) (h1 : PM.perr t = 0) (hnn1 : PM.pN s ≠ []) (hnn2 : PM.pN t ≠ []) (pf : Int) (dpf : Dr) (hpf : D pf = some dpf) (z1 : ByteArray) (hpl1 : plA D (PM.pN s) = ((pf, z1), 0)) (pt : Int) (dpt : Dr) (hpt : D pt = some dpt) (z2 : ByteArray) (hpl2 : plA D (PM.pN t) = ((pt, z2), 0)) (hz1 : ¬ (z1 = PM.dot ∨ z1 = PM.dots)) (hz2 : ¬ (z2 = PM.dot ∨ z2 = PM.dots)) (n : Int) (hk1 : NT.look z1 dpf.l = some n) (dn : Dr) (hD : D n = some dn) (m : Int) (hk2 : NT.look z2 dpt.l = some m) (hmn : m ≠ n) (ho : ovA D n m = 0) (q : Nat) (hr : NT.Reach D q pt) (h1r : ∃ dr, D 1 = some dr ∧ dr.up = 1) (ha : ¬ n ∈ NT.anc D q pt) (hc : c < 65000) (d1 : Dr) (f1 : (NT.upD D n pt) pf = some d1) (d2 : Dr) (f2 : (NT.cutD (NT.upD D n pt) pf z1) pt = some d2) (hfi : IN.Fine I L B k S) (hI : I ≤ 4096) (hL : L ≤ 32768) (hk : k < 1000000) (d4 : Dr) (f4 : (NT.upd (NT.cutD (NT.cutD (NT.upD D n pt) pf z1) pt z2) m none) pt = some d4) (f5 : NT.look z2 d4.l = none) :
    Calls Tryz.prog 65 #[.pointer (some ⟨rt, 0, none⟩), .string s, .string t] w fun e w' => e = .returned (.int .i64 0) ∧ RW base rt rg I B L (c + 1) (IN.ulS S m) (NT.putD (NT.upd (NT.cutD (NT.cutD (NT.upD D n pt) pf z1) pt z2) m none) pt z2 n) (kap D) w' ∧ Keeps base UT w w' := by
  have cP := fun w => W_hid (rparsed (w := w) hs)
  have cQ := fun w => W_hid (rparsed (w := w) ht)
  rw [h0] at cP
  rw [h1] at cQ
  have hl1 := W_hid (And.intro (List.length_pos_iff.2 hnn1) (pN_len s))
  have hl2 := W_hid (And.intro (List.length_pos_iff.2 hnn2) (pN_len t))
  have cX := W_hid (fun (ao : Option Addr) (n cap : Nat) (W : World) (hb : Below w.heap.size w W) (hl : SS W ao n cap (PM.pN s)) (h0 : 0 < n) (hN : n ≤ 100000) => place_d (PM.pA s) (PM.pD s) (PM.pN s) ao n cap W (h.ex.keep hb) hl h0 hN)
  have cY := W_hid (fun (ao : Option Addr) (n cap : Nat) (W : World) (hb : Below w.heap.size w W) (hl : SS W ao n cap (PM.pN t)) (h0 : 0 < n) (hN : n ≤ 100000) => place_d (PM.pA t) (PM.pD t) (PM.pN t) ao n cap W (h.ex.keep hb) hl h0 hN)
  simp only [hpl1] at cX
  simp only [hpl2] at cY
  have cS := W_hid (fun W => rdots_any z1 W)
  have cT := W_hid (fun W => rdots_any z2 W)
  simp only [decide_eq_false hz1] at cS
  simp only [decide_eq_false hz2] at cT
  have cH := W_hid (fun (W : World) (hb : Below w.heap.size w W) => has_d pf z1 W (h.ex.keep hb) hpf)
  have hn0 := look_ne h.ex hpf hk1
  have hn1 : (n == 0) = false := by simpa using hn0
  simp only [hk1, Option.getD_some] at cH
  obtain ⟨K, g, ND, capD, cD, hKN, hNc, hW⟩ := h.parent hD
  replace cD := W_hid cD
  replace hW := W_hid hW
  have hK : ¬ (K : Int) < 0 := by omega
  have hK2 : (0 : Int) ≤ (K : Int) := by omega
  have hKN2 : (K : Int) < (ND : Int) := by omega
  have cG := W_hid (fun (W : World) (hb : Below w.heap.size w W) => has_d pt z2 W (h.ex.keep hb) hpt)
  have hm0 := look_ne h.ex hpt hk2
  have hm1 : (m != 0) = true := by simpa using hm0
  simp only [hk2, Option.getD_some] at cG
  have hmn1 : (m == n) = false := by simpa using hmn
  have cO := W_hid (fun (W : World) (hb : Below w.heap.size w W) => over_d n m W (h.ex.keep hb))
  simp only [ho] at cO
  have cW := W_hid (fun (W : World) (hb : Below w.heap.size w W) => within_d pt n q W (h.ex.keep hb) hr h1r)
  simp only [decide_eq_false ha] at cW
  have hlw := W_hid h.low
  have c1 := W_hid (fun (W : World) (h2 : RW base rt rg I B L c S (NT.upD D n pt) (kap D) W) => drop_d pf z1 W h2 f1)
  have c2 := W_hid (fun (W : World) (h2 : RW base rt rg I B L c S (NT.cutD (NT.upD D n pt) pf z1) (kap D) W) => drop_d pt z2 W h2 f2)
  have c3 := W_hid (fun (W : World) (h2 : RW base rt rg I B L c S (NT.cutD (NT.cutD (NT.upD D n pt) pf z1) pt z2) (kap D) W) => away_d m W h2 hfi hI hL hk)
  have c4 := W_hid (fun (W : World) (h2 : RW base rt rg I B L c (IN.ulS S m) (NT.upd (NT.cutD (NT.cutD (NT.upD D n pt) pf z1) pt z2) m none) (kap D) W) => put_d pt z2 n 2 W h2 (by omega) f4 f5 hn0 (by unfold kap; rw [hD]; rfl))
  clear h h0 h1 hnn1 hnn2 hpl1 hpf hpl2 hpt hz1 hz2 hk1 hD hk2 ho hr h1r ha f1 f4 f5 f2 hfi 
  generalize PM.pN s = n1 at *
  generalize PM.pD s = d1 at *
  generalize PM.pA s = a1 at *
  generalize PM.pN t = n2 at *
  generalize PM.pD t = d2 at *
  generalize PM.pA t = a2 at *
  go_enter Tryz.func65, Tryz.ntmps65
  go_wp2_with fail
  refine (cP _).out.mono ?_
  rintro e w1 ⟨ao1, N1, cap1, rfl, hS, b⟩
  have bb := b.alloc b.size (.cells #[.bool a1, .slice ao1 N1 cap1, .bool d1] 136)
  have P11 := W_hid (pblk w1 a1 d1 ao1 N1 cap1)
  have T11 := W_hid (hS.alloc (.cells #[.bool a1, .slice ao1 N1 cap1, .bool d1] 136))
  have L1 := W_hid hS.1
  have B1 := W_hid (bb)
  clear b bb hS
  go_wp2_with fail
  refine (cQ _).out.mono ?_
  rintro e w2 ⟨ao2, N2, cap2, rfl, hS, b⟩
  have bb := b.alloc b.size (.cells #[.bool a2, .slice ao2 N2 cap2, .bool d2] 136)
  have P22 := W_hid (pblk w2 a2 d2 ao2 N2 cap2)
  have T22 := W_hid (hS.alloc (.cells #[.bool a2, .slice ao2 N2 cap2, .bool d2] 136))
  have L2 := W_hid hS.1
  have P12 := W_hid (P11.out.keep bb)
  have T12 := W_hid (T11.out.below bb (Nat.le_refl _))
  clear P11 T11
  have B2 := W_hid (B1.out.trans (bb.mono B1.out.size))
  clear b bb hS
  have hN01 : ((N1 : Int) == 0) = false := by have := L1.out; have := hl1.out.1; simp; omega
  have hN11 : ¬ (N1 : Int) = 0 := by have := L1.out; have := hl1.out.1; omega
  have hN21 : 0 < N1 ∧ N1 ≤ 100000 := by have := L1.out; have := hl1.out; omega
  have hN02 : ((N2 : Int) == 0) = false := by have := L2.out; have := hl2.out.1; simp; omega
  have hN12 : ¬ (N2 : Int) = 0 := by have := L2.out; have := hl2.out.1; omega
  have hN22 : 0 < N2 ∧ N2 ≤ 100000 := by have := L2.out; have := hl2.out; omega
  have e10 := P12.out.cell (j := 0) rfl
  have e11 := P12.out.cell (j := 1) rfl
  have e12 := P12.out.cell (j := 2) rfl
  have e21 := P22.out.cell (j := 1) rfl
  go_wp2_with fail
  refine (cX.out ao1 N1 cap1 _ B2.out T12.out hN21.1 hN21.2).mono ?_
  rintro e w3 ⟨rfl, b⟩
  have P13 := W_hid (P12.out.keep b)
  have T13 := W_hid (T12.out.below b (Nat.le_refl _))
  clear P12 T12
  have P23 := W_hid (P22.out.keep b)
  have T23 := W_hid (T22.out.below b (Nat.le_refl _))
  clear P22 T22
  have B3 := W_hid (B2.out.trans (b.mono B2.out.size))
  clear b
  clear e10 e11 e12 e21
  have e20 := P23.out.cell (j := 0) rfl
  have e21 := P23.out.cell (j := 1) rfl
  have e22 := P23.out.cell (j := 2) rfl
  go_wp2_with fail
  refine (cY.out ao2 N2 cap2 _ B3.out T23.out hN22.1 hN22.2).mono ?_
  rintro e w4 ⟨rfl, b⟩
  have P14 := W_hid (P13.out.keep b)
  have T14 := W_hid (T13.out.below b (Nat.le_refl _))
  clear P13 T13
  have P24 := W_hid (P23.out.keep b)
  have T24 := W_hid (T23.out.below b (Nat.le_refl _))
  clear P23 T23
  have B4 := W_hid (B3.out.trans (b.mono B3.out.size))
  clear b
  clear e20 e21 e22
  go_wp2_with fail
  refine (cS.out _).mono ?_
  rintro e w0 ⟨rfl, rfl⟩
  go_wp2_with fail
  refine (cT.out _).mono ?_
  rintro e w0 ⟨rfl, rfl⟩
  go_wp2_with fail
  refine (cH.out _ B4.out).mono ?_
  rintro e w5 ⟨rfl, b⟩
  have P15 := W_hid (P14.out.keep b)
  have T15 := W_hid (T14.out.below b (Nat.le_refl _))
  clear P14 T14
  have P25 := W_hid (P24.out.keep b)
  have T25 := W_hid (T24.out.below b (Nat.le_refl _))
  clear P24 T24
  have B5 := W_hid (B4.out.trans (b.mono B4.out.size))
  clear b
  go_wp2_with fail
  refine (cD.out _ B5.out).mono ?_
  rintro e w0 ⟨rfl, rfl⟩
  have e12 := P15.out.cell (j := 2) rfl
  have e22 := P25.out.cell (j := 2) rfl
  go_wp2_with fail
  refine (cG.out _ B5.out).mono ?_
  rintro e w6 ⟨rfl, b⟩
  have P16 := W_hid (P15.out.keep b)
  have T16 := W_hid (T15.out.below b (Nat.le_refl _))
  clear P15 T15
  have P26 := W_hid (P25.out.keep b)
  have T26 := W_hid (T25.out.below b (Nat.le_refl _))
  clear P25 T25
  have B6 := W_hid (B5.out.trans (b.mono B5.out.size))
  clear b
  clear e12 e22
  go_wp2_with fail
  refine (cO.out _ B6.out).mono ?_
  rintro e w7 ⟨rfl, b⟩
  have P17 := W_hid (P16.out.keep b)
  have T17 := W_hid (T16.out.below b (Nat.le_refl _))
  clear P16 T16
  have P27 := W_hid (P26.out.keep b)
  have T27 := W_hid (T26.out.below b (Nat.le_refl _))
  clear P26 T26
  have B7 := W_hid (B6.out.trans (b.mono B6.out.size))
  clear b
  go_wp2_with fail
  refine (cW.out _ B7.out).mono ?_
  rintro e w8 ⟨rfl, b⟩
  have P18 := W_hid (P17.out.keep b)
  have T18 := W_hid (T17.out.below b (Nat.le_refl _))
  clear P17 T17
  have P28 := W_hid (P27.out.keep b)
  have T28 := W_hid (T27.out.below b (Nat.le_refl _))
  clear P27 T27
  have B8 := W_hid (B7.out.trans (b.mono B7.out.size))
  clear b
  obtain ⟨q1, q3, ⟨u, q4⟩, -, q5⟩ := hW.out _ B8.out
  have q3 := q3 (K * 3 + 1)
  obtain ⟨h5, k5⟩ := q5 pt
  have k5 := W_hid ((Keeps.new B8.out hlw.out).trans k5)
  have c1a := W_hid (c1.out _ h5)
  clear h5 q5
  go_wp2_with fail
  refine c1a.out.mono ?_
  rintro e v1 ⟨rfl, h6, k6⟩
  have k6 := W_hid (k5.out.trans k6)
  have c2a := W_hid (c2.out _ h6)
  clear h6
  go_wp2_with fail
  refine c2a.out.mono ?_
  rintro e v2 ⟨rfl, h7, k7⟩
  have k7 := W_hid (k6.out.trans k7)
  have c3a := W_hid (c3.out _ h7)
  clear h7
  go_wp2_with fail
  refine c3a.out.mono ?_
  rintro e v3 ⟨rfl, h6, k8⟩
  have k6 := W_hid (k7.out.trans k8)
  clear k8
  have c4a := W_hid (c4.out _ h6)
  clear h6
  go_wp2_with fail
  refine c4a.out.mono ?_
  rintro e v4 ⟨rfl, h9, k9⟩
  have h9 := W_hid h9
  have k9 := W_hid (k6.out.trans k9)
  go_wp2_with fail
  go_ret
  exact ⟨rfl, h9.out, k9.out⟩
end
end RN
namespace RN
open IN (Keeps)
open NT (Dr Ds er nu findR)
section
variable {base rt rg I B L c k : Nat} {S : Int → Option IN.Nd} {D : Ds} {κ : Int → Int} {w w' : World}
theorem putD_none {D : Ds} {p n m : Int} {k : ByteArray} : NT.putD D p k n m = none ↔ D m = none := by
  by_cases e : m = p
  · subst e
    unfold NT.putD
    rw [if_pos rfl, Option.map_eq_none_iff]
  · rw [NT.putD_ne e]
theorem upDn {D : Ds} {n p m : Int} : NT.upD D n p m = none ↔ D m = none := by
  by_cases e : m = n
  · subst e
    unfold NT.upD
    rw [if_pos rfl, Option.map_eq_none_iff]
  · rw [NT.upD_ne e]
theorem kap_iff {D D' : Ds} {j : Int} (h : D' j = none ↔ D j = none) : kap D j = kap D' j := by
  unfold kap
  by_cases e : D j = none
  · rw [if_pos e, if_pos (h.2 e)]
  · rw [if_neg e, if_neg (fun e2 => e (h.1 e2))]
theorem RW.fin {S' : Int → Option IN.Nd} {D5 D' : Ds} {w0 : World} (h : RW base rt rg I B L (c + 1) S' D5 (kap D) w' ∧ Keeps base UT w0 w') (e : D5 = D') (hk : ∀ n d k j, D' n = some d → (k, j) ∈ d.l → kap D j = kap D' j) : RP base rt rg I B L (c + 2) S' D' w0 w' := by
  subst e
  exact ⟨(h.1.kinds hk).more (by omega), h.2⟩
theorem at_up {D : Ds} {n p x : Int} {k : ByteArray} (h : x ≠ n) : NT.at_ (NT.upD D n p) x k = NT.at_ D x k := by
  unfold NT.at_
  rw [NT.upD_ne h]
theorem look_of {D : Ds} {x : Int} {k : ByteArray} (h1 : D x ≠ none) (h2 : NT.at_ D x k = none) : ∃ d, D x = some d ∧ NT.look k d.l = none := by
  obtain ⟨d, hd⟩ := Option.ne_none_iff_exists'.1 h1
  exact ⟨d, hd, NT.at_none hd h2⟩
theorem rRename_all (s t : ByteArray) (hs : s.size ≤ maxLen) (ht : t.size ≤ maxLen) (w : World) (h : RW base rt rg I B L c S D (kap D) w) {ct : Nat} (hti : NT.TI I ct NT.e0 S D) (hfi : IN.Fine I L B k S) (hI : I ≤ 4096) (hL : L ≤ 32768) (hk : k < 1000000) (hc : c < 65000) :
    Calls Tryz.prog 65 #[.pointer (some ⟨rt, 0, none⟩), .string s, .string t] w fun e w' => e = .returned (.int .i64 (NT.ren S D s t).1) ∧ RP base rt rg I B L (c + 2) (NT.ren S D s t).2.1 (NT.ren S D s t).2.2 w w' := by
  have idle : ∀ r, NT.ren S D s t = (r, S, D) → Calls Tryz.prog 65 #[.pointer (some ⟨rt, 0, none⟩), .string s, .string t] w (fun e w' => e = .returned (.int .i64 r) ∧ Below w.heap.size w w') → Calls Tryz.prog 65 #[.pointer (some ⟨rt, 0, none⟩), .string s, .string t] w fun e w' => e = .returned (.int .i64 (NT.ren S D s t).1) ∧ RP base rt rg I B L (c + 2) (NT.ren S D s t).2.1 (NT.ren S D s t).2.2 w w' := fun r hr hc => by
    rw [hr]
    refine hc.mono ?_
    rintro e w' ⟨rfl, hb⟩
    exact ⟨rfl, h.same hb⟩
  by_cases h0 : PM.perr s = 0
  rotate_left
  · exact idle _ (by unfold NT.ren; rw [if_pos h0]) (rRename_A s t hs ht w h0)
  by_cases h1 : PM.perr t = 0
  rotate_left
  · exact idle _ (by unfold NT.ren; rw [if_neg (fun e => e h0), if_pos h1]) (rRename_B s t hs ht w h0 h1)
  by_cases n1 : PM.pN s = []
  · refine idle 2 ?_ (rRename_Ca s t hs ht w h0 h1 n1)
    unfold NT.ren
    rw [if_neg (fun e => e h0), if_neg (fun e => e h1)]
    by_cases n2 : PM.pN t = []
    · rw [if_pos n2]
    · rw [if_neg n2]
      unfold NT.src NT.place
      rw [if_pos n1]
  by_cases n2 : PM.pN t = []
  · exact idle 2 (by unfold NT.ren; rw [if_neg (fun e => e h0), if_neg (fun e => e h1), if_pos n2]) (rRename_Cb s t hs ht w h0 h1 n1 n2)
  by_cases hE1 : (plA D (PM.pN s)).2 = 0
  rotate_left
  · exact idle _ (by unfold NT.ren NT.src; rw [if_neg (fun e => e h0), if_neg (fun e => e h1), if_neg n2, pl_place n1 hE1]) (rRename_D s t hs ht w h h0 h1 n1 n2 _ rfl hE1)
  obtain ⟨pf, dpf, hpf, hpl1, -, -, hp1⟩ := pl_ok n1 hE1
  by_cases hE2 : (plA D (PM.pN t)).2 = 0
  rotate_left
  · exact idle _ (by unfold NT.ren NT.src NT.dst NT.placeC; rw [if_neg (fun e => e h0), if_neg (fun e => e h1), if_neg n2, hp1]; simp only; rw [pl_place n2 hE2]) (rRename_E s t hs ht w h h0 h1 n1 n2 pf dpf hpf _ hpl1 _ rfl hE2)
  obtain ⟨pt, dpt, hpt, hpl2, -, -, hp2⟩ := pl_ok n2 hE2
  have hren : ∀ v, NT.movV D (NT.far D pt) pf (NT.last (PM.pN s)) (PM.pD s) pt (NT.last (PM.pN t)) (PM.pD t) = v → NT.ren S D s t = if v = 0 then (0, NT.mvS S D pf pt (NT.last (PM.pN s)) (NT.last (PM.pN t))) else (v, S, D) := fun v hv => by
    unfold NT.ren NT.src NT.dst NT.placeC
    rw [if_neg (fun e => e h0), if_neg (fun e => e h1), if_neg n2, hp1]
    simp only
    rw [hp2]
    simp only [hv]
    by_cases e : v = 0
    · rw [if_pos e, if_pos e]
    · rw [if_neg e, if_neg e]
  have hc1 := comp_last n1
  have hc2 := comp_last n2
  have hat1 : NT.at_ D pf (NT.last (PM.pN s)) = NT.look (NT.last (PM.pN s)) dpf.l := by unfold NT.at_; rw [hpf]
  have hat2 : NT.at_ D pt (NT.last (PM.pN t)) = NT.look (NT.last (PM.pN t)) dpt.l := by unfold NT.at_; rw [hpt]
  generalize NT.last (PM.pN s) = z1 at *
  generalize NT.last (PM.pN t) = z2 at *
  have hfar := hti.far pt dpt hpt
  have hroot := hti.root
  generalize NT.far D pt = q at *
  by_cases hz1 : z1 = PM.dot ∨ z1 = PM.dots
  · have hv := hren 2 (by unfold NT.movV; rw [if_pos (.inl ((name_no hc1).2 hz1))])
    rw [if_neg (by decide)] at hv
    by_cases hz2 : z2 = PM.dot ∨ z2 = PM.dots
    · exact idle 2 hv (rRename_Fa s t hs ht w h h0 h1 n1 n2 pf dpf hpf _ hpl1 pt dpt hpt _ hpl2 hz1 hz2)
    · exact idle 2 hv (rRename_Fb s t hs ht w h h0 h1 n1 n2 pf dpf hpf _ hpl1 pt dpt hpt _ hpl2 hz1 hz2)
  by_cases hz2 : z2 = PM.dot ∨ z2 = PM.dots
  · have hv := hren 2 (by unfold NT.movV; rw [if_pos (.inr ((name_no hc2).2 hz2))])
    rw [if_neg (by decide)] at hv
    exact idle 2 hv (rRename_Fc s t hs ht w h h0 h1 n1 n2 pf dpf hpf _ hpl1 pt dpt hpt _ hpl2 hz1 hz2)
  have hnm2 : PM.name z2 = true := by
    cases e : PM.name z2 with
    | true => rfl
    | false => exact absurd ((name_no hc2).1 e) hz2
  have hmv : NT.movV D q pf z1 (PM.pD s) pt z2 (PM.pD t) = (match NT.look z1 dpf.l with
    | none => 11
    | some n => if D n = none ∧ (PM.pD s = true ∨ PM.pD t = true) then 13 else match NT.look z2 dpt.l with
      | some m => if m = n then 0 else if D m ≠ none ∧ D n = none then 14 else if D m = none ∧ D n ≠ none then 13 else if D m ≠ none ∧ NT.emptyD D m = false then 15 else if D n ≠ none ∧ n ∈ NT.anc D q pt then 2 else 0
      | none => if D n ≠ none ∧ n ∈ NT.anc D q pt then 2 else 0) := by
    unfold NT.movV
    rw [if_neg (fun e => e.elim (fun e => hz1 ((name_no hc1).1 e)) (fun e => hz2 ((name_no hc2).1 e))), hat1, hat2]
    rfl
  cases hk1 : NT.look z1 dpf.l with
  | none =>
    have hv := hren 11 (by rw [hmv, hk1])
    rw [if_neg (by decide)] at hv
    exact idle 11 hv (rRename_G s t hs ht w h h0 h1 n1 n2 pf dpf hpf _ hpl1 pt dpt hpt _ hpl2 hz1 hz2 hk1)
  | some n =>
    rw [hk1] at hmv hat1
    simp only at hmv
    have hnpf := hti.noself hat1
    have hmvS : NT.mvS S D pf pt z1 z2 = (match NT.look z2 dpt.l with
        | none => (S, NT.movD D pf z1 pt z2 n)
        | some m => if m = n then (S, D) else (IN.ulS S m, if D m = none then NT.movD D pf z1 pt z2 n else NT.upd (NT.movD D pf z1 pt z2 n) m none)) := by
      unfold NT.mvS
      rw [hat1, hat2]
      rfl
    cases hD : D n with
    | none =>
      have hnpt : n ≠ pt := fun e => by rw [e, hpt] at hD; cases hD
      have hmov : NT.movD D pf z1 pt z2 n = NT.putD (NT.cutD D pf z1) pt z2 n := by rw [NT.movD_eq hnpt, NT.upD_none (NT.cutD_none.2 hD)]
      rw [hD] at hmv
      cases hd1 : PM.pD s with
      | true =>
        have hv := hren 13 (by rw [hmv, if_pos ⟨rfl, .inl hd1⟩])
        rw [if_neg (by decide)] at hv
        exact idle 13 hv (rRename_Ha s t hs ht w h h0 h1 n1 n2 pf dpf hpf _ hpl1 pt dpt hpt _ hpl2 hz1 hz2 n hk1 hD hd1)
      | false =>
        cases hd2 : PM.pD t with
        | true =>
          have hv := hren 13 (by rw [hmv, if_pos ⟨rfl, .inr hd2⟩])
          rw [if_neg (by decide)] at hv
          exact idle 13 hv (rRename_Hb s t hs ht w h h0 h1 n1 n2 pf dpf hpf _ hpl1 pt dpt hpt _ hpl2 hz1 hz2 n hk1 hD hd1 hd2)
        | false =>
          rw [if_neg (by rw [hd1, hd2]; simp)] at hmv
          cases hk2 : NT.look z2 dpt.l with
          | none =>
            rw [hk2] at hmv hat2 hmvS
            have hv := hren 0 (by rw [hmv]; simp)
            rw [if_pos rfl, hmvS, hmov] at hv
            rw [hv]
            obtain ⟨d4, f4, f5⟩ := look_of (D := NT.cutD D pf z1) (x := pt) (k := z2) (fun e => by rw [NT.cutD_none.1 e] at hpt; cases hpt) (by rw [NT.at_cut]; split <;> first | rfl | exact hat2)
            refine (rRename_L0 s t hs ht w h h0 h1 n1 n2 pf dpf hpf _ hpl1 pt dpt hpt _ hpl2 hz1 hz2 n hk1 hD hd1 hd2 hk2 hc dpf hpf d4 f4 f5).mono ?_
            rintro e w' ⟨rfl, hh⟩
            exact ⟨rfl, RW.fin hh rfl fun _ _ _ j _ _ => kap_iff (by rw [putD_none, NT.cutD_none])⟩
          | some m =>
            rw [hk2] at hmv hat2 hmvS
            simp only at hmv hmvS
            by_cases hmn : m = n
            · subst hmn
              have hv := hren 0 (by rw [hmv, if_pos rfl])
              rw [if_pos rfl, hmvS, if_pos rfl] at hv
              exact idle 0 hv (rRename_If s t hs ht w h h0 h1 n1 n2 pf dpf hpf _ hpl1 pt dpt hpt _ hpl2 hz1 hz2 m hk1 hD hd1 hd2 hk2)
            · rw [if_neg hmn] at hmv hmvS
              cases hDm : D m with
              | some dm =>
                have hv := hren 14 (by rw [hmv, if_pos (by rw [hDm]; simp)])
                rw [if_neg (by decide)] at hv
                exact idle 14 hv (rRename_Jf s t hs ht w h h0 h1 n1 n2 pf dpf hpf _ hpl1 pt dpt hpt _ hpl2 hz1 hz2 n hk1 hD hd1 hd2 m hk2 hmn 14 (by unfold ovA; rw [hDm]; simp [hD]) (by decide))
              | none =>
                have hv := hren 0 (by rw [hmv, hDm]; simp)
                rw [if_pos rfl, hmvS, if_pos hDm, hmov] at hv
                rw [hv]
                have hptm : pt ≠ m := fun e => by rw [← e, hpt] at hDm; cases hDm
                have hu : NT.upd (NT.cutD (NT.cutD D pf z1) pt z2) m none = NT.cutD (NT.cutD D pf z1) pt z2 := by
                  funext x
                  by_cases e : x = m
                  · rw [e, NT.upd_at, NT.cutD_none.2 (NT.cutD_none.2 hDm)]
                  · rw [NT.upd_ne e]
                have g2 : NT.cutD D pf z1 pt ≠ none := fun e => by rw [NT.cutD_none.1 e] at hpt; cases hpt
                obtain ⟨d2, f2⟩ := Option.ne_none_iff_exists'.1 g2
                obtain ⟨d4, f4, f5⟩ := look_of (D := NT.upd (NT.cutD (NT.cutD D pf z1) pt z2) m none) (x := pt) (k := z2) (by rw [hu]; exact fun e => g2 (NT.cutD_none.1 e)) (by rw [hu, NT.at_cut, if_pos ⟨rfl, rfl⟩])
                refine (rRename_L1 s t hs ht w h h0 h1 n1 n2 pf dpf hpf _ hpl1 pt dpt hpt _ hpl2 hz1 hz2 n hk1 hD hd1 hd2 m hk2 hmn (by unfold ovA; rw [hDm]; simp [hD]) hc dpf hpf d2 f2 hfi hI hL hk d4 f4 f5).mono ?_
                rintro e w' ⟨rfl, hh⟩
                exact ⟨rfl, RW.fin hh (by rw [hu, NT.cut_put]) fun _ _ _ j _ _ => kap_iff (by rw [putD_none, NT.cutD_none])⟩
    | some dn =>
      have hDn : D n ≠ none := by rw [hD]; simp
      rw [if_neg (fun e => hDn e.1)] at hmv
      cases hk2 : NT.look z2 dpt.l with
      | none =>
        rw [hk2] at hmv hat2 hmvS
        simp only at hmv hmvS
        by_cases ha : n ∈ NT.anc D q pt
        · have hv := hren 2 (by rw [hmv, if_pos ⟨hDn, ha⟩])
          rw [if_neg (by decide)] at hv
          exact idle 2 hv (rRename_K0 s t hs ht w h h0 h1 n1 n2 pf dpf hpf _ hpl1 pt dpt hpt _ hpl2 hz1 hz2 n hk1 dn hD hk2 q hfar hroot ha)
        · have hv := hren 0 (by rw [hmv, if_neg (fun e => ha e.2)])
          have hnpt : n ≠ pt := fun e => by
            subst e
            cases q with
            | zero => exact hti.not1 (by simp) hat1 hfar
            | succ q => exact ha (by unfold NT.anc; simp)
          have hmov : NT.movD D pf z1 pt z2 n = NT.putD (NT.cutD (NT.upD D n pt) pf z1) pt z2 n := by rw [NT.movD_eq hnpt, NT.cut_up_comm _ _ _ _ _ hnpf]
          rw [if_pos rfl, hmvS, hmov] at hv
          rw [hv]
          obtain ⟨d4, f4, f5⟩ := look_of (D := NT.cutD (NT.upD D n pt) pf z1) (x := pt) (k := z2) (fun e => by rw [upDn.1 (NT.cutD_none.1 e)] at hpt; cases hpt) (by rw [NT.at_cut, at_up hnpt.symm]; split <;> first | rfl | exact hat2)
          refine (rRename_M0 s t hs ht w h h0 h1 n1 n2 pf dpf hpf _ hpl1 pt dpt hpt _ hpl2 hz1 hz2 n hk1 dn hD hk2 q hfar hroot ha hc dpf (by rw [NT.upD_ne hnpf.symm]; exact hpf) d4 f4 f5).mono ?_
          rintro e w' ⟨rfl, hh⟩
          exact ⟨rfl, RW.fin hh rfl fun _ _ _ j _ _ => kap_iff (by rw [putD_none, NT.cutD_none, upDn])⟩
      | some m =>
        rw [hk2] at hmv hat2 hmvS
        simp only at hmv hmvS
        by_cases hmn : m = n
        · subst hmn
          have hv := hren 0 (by rw [hmv, if_pos rfl])
          rw [if_pos rfl, hmvS, if_pos rfl] at hv
          exact idle 0 hv (rRename_Id s t hs ht w h h0 h1 n1 n2 pf dpf hpf _ hpl1 pt dpt hpt _ hpl2 hz1 hz2 m hk1 dn hD hk2)
        · rw [if_neg hmn, if_neg (fun e => hDn e.2)] at hmv
          rw [if_neg hmn] at hmvS
          cases hDm : D m with
          | none =>
            have hv := hren 13 (by rw [hmv, if_pos ⟨hDm, hDn⟩])
            rw [if_neg (by decide)] at hv
            exact idle 13 hv (rRename_Jd s t hs ht w h h0 h1 n1 n2 pf dpf hpf _ hpl1 pt dpt hpt _ hpl2 hz1 hz2 n hk1 dn hD m hk2 hmn 13 (by unfold ovA; rw [hDm]; simp [hD]) (by decide))
          | some dm =>
            have hDm' : D m ≠ none := by rw [hDm]; simp
            rw [if_neg (fun e => hDm' e.1)] at hmv
            by_cases hl : dm.l = []
            · have ho : ovA D n m = 0 := by unfold ovA; rw [hDm]; simp [hD, hl]
              rw [if_neg (fun e => by have := e.2; unfold NT.emptyD at this; rw [hDm] at this; simp [hl] at this)] at hmv
              by_cases ha : n ∈ NT.anc D q pt
              · have hv := hren 2 (by rw [hmv, if_pos ⟨hDn, ha⟩])
                rw [if_neg (by decide)] at hv
                exact idle 2 hv (rRename_K1 s t hs ht w h h0 h1 n1 n2 pf dpf hpf _ hpl1 pt dpt hpt _ hpl2 hz1 hz2 n hk1 dn hD m hk2 hmn ho q hfar hroot ha)
              · have hv := hren 0 (by rw [hmv, if_neg (fun e => ha e.2)])
                have hnpt : n ≠ pt := fun e => by
                  subst e
                  cases q with
                  | zero => exact hti.not1 (by simp) hat1 hfar
                  | succ q => exact ha (by unfold NT.anc; simp)
                have hmpt : m ≠ pt := hti.noself hat2
                have ht' := hti.movDirOver hat1 hD hpt hat2 hDm hl hmn hnm2 hfar ha
                have hmov : NT.upd (NT.movD D pf z1 pt z2 n) m none = NT.putD (NT.upd (NT.cutD (NT.cutD (NT.upD D n pt) pf z1) pt z2) m none) pt z2 n := by
                  rw [NT.movD_eq hnpt, ← NT.cut_up_comm _ _ _ _ _ hnpf, ← NT.cut_put (NT.cutD (NT.upD D n pt) pf z1)]
                  funext x
                  by_cases e : x = m
                  · rw [e, NT.upd_at, NT.putD_ne hmpt, NT.upd_at]
                  · rw [NT.upd_ne e]
                    unfold NT.putD
                    by_cases e2 : x = pt
                    · rw [if_pos e2, if_pos e2, NT.upd_ne hmpt.symm]
                    · rw [if_neg e2, if_neg e2, NT.upd_ne e]
                rw [if_pos rfl, hmvS, if_neg hDm', hmov] at hv
                rw [hmov] at ht'
                rw [hv]
                have g2 : NT.cutD (NT.upD D n pt) pf z1 pt ≠ none := fun e => by rw [upDn.1 (NT.cutD_none.1 e)] at hpt; cases hpt
                obtain ⟨d2, f2⟩ := Option.ne_none_iff_exists'.1 g2
                obtain ⟨d4, f4, f5⟩ := look_of (D := NT.upd (NT.cutD (NT.cutD (NT.upD D n pt) pf z1) pt z2) m none) (x := pt) (k := z2) (by rw [NT.upd_ne hmpt.symm]; exact fun e => g2 (NT.cutD_none.1 e)) (by
                  have : NT.at_ (NT.upd (NT.cutD (NT.cutD (NT.upD D n pt) pf z1) pt z2) m none) pt z2 = NT.at_ (NT.cutD (NT.cutD (NT.upD D n pt) pf z1) pt z2) pt z2 := by unfold NT.at_; rw [NT.upd_ne hmpt.symm]
                  rw [this, NT.at_cut, if_pos ⟨rfl, rfl⟩])
                refine (rRename_M1 s t hs ht w h h0 h1 n1 n2 pf dpf hpf _ hpl1 pt dpt hpt _ hpl2 hz1 hz2 n hk1 dn hD m hk2 hmn ho q hfar hroot ha hc dpf (by rw [NT.upD_ne hnpf.symm]; exact hpf) d2 f2 hfi hI hL hk d4 f4 f5).mono ?_
                rintro e w' ⟨rfl, hh⟩
                refine ⟨rfl, RW.fin hh rfl fun a d kk j hx hy => kap_iff ?_⟩
                have hjm := TI_free ht' (hti.ul_dir hDm) a d kk j hx hy
                rw [putD_none, NT.upd_ne hjm, NT.cutD_none, NT.cutD_none, upDn]
            · have ho : ovA D n m = 15 := by unfold ovA; rw [hDm]; simp [hD, hl]
              have hv := hren 15 (by rw [hmv, if_pos ⟨hDm', by unfold NT.emptyD; rw [hDm]; simp [hl]⟩])
              rw [if_neg (by decide)] at hv
              exact idle 15 hv (rRename_Jd s t hs ht w h h0 h1 n1 n2 pf dpf hpf _ hpl1 pt dpt hpt _ hpl2 hz1 hz2 n hk1 dn hD m hk2 hmn 15 ho (by decide))
end
end RN
namespace RN
theorem name_neq (k : ByteArray) (a b : Int) (w : World) : (binOp .neq 133 (.agg #[.string k, .int .i64 a, .int .i64 b]) (.agg #[.string k, .int .i64 a, .int .i64 b])).run Tryz.prog w = .ok (.bool false) w := by
  simp [go_sem]
set_option maxRecDepth 100000 in
set_option maxHeartbeats 4000000 in
theorem rSame_yes (v1 v2 : Value) (l : List (ByteArray × Int × Int)) (w : World) (hl : l.length ≤ 100000) (h1 : NE w v1 l) (h2 : NE w v2 l) :
    Calls Tryz.prog 33 #[v1, v2] w fun e w' => e = .returned (.bool true) ∧ Below w.heap.size w w' := by
  obtain ⟨x1, c1, rfl⟩ := h1.form
  obtain ⟨x2, c2, rfl⟩ := h2.form
  obtain ⟨N, hN⟩ : ∃ N, l.length = N := ⟨_, rfl⟩
  have H1 := W_hid (fun i (hi : i < N) => h1.el (show i < l.length by rw [hN]; exact hi))
  have H2 := W_hid (fun i (hi : i < N) => h2.el (show i < l.length by rw [hN]; exact hi))
  rw [hN] at hl ⊢
  replace hN := W_hid hN
  have he : ((N : Int) != (N : Int)) = false := by simp
  clear h1 h2
  go_enter Tryz.func33, Tryz.ntmps33
  go_wp2
  go_loopw [5] (fun i wr => ∃ k : Nat, k ≤ N ∧ i = .int .i64 k ∧ Below w.heap.size w wr) (fun i _ => N - (intOf i).toNat)
  case atStart => exact ⟨0, Nat.zero_le _, rfl, Below.refl _ _⟩
  case round =>
    obtain ⟨k, hk, rfl, bel⟩ := hrel
    by_cases hlt : k < N
    · obtain ⟨g1, p1, e1, hb1, n1, m1, a0, a1, a2⟩ := H1.out k hlt
      obtain ⟨g2, p2, e2, hb2, n2, m2, b0, b1, b2⟩ := H2.out k hlt
      simp only [Value.slice.injEq] at e1 e2
      obtain ⟨rfl, -, rfl⟩ := e1
      obtain ⟨rfl, -, rfl⟩ := e2
      obtain ⟨⟨nj, dj, ej⟩, hx⟩ : ∃ x, l[k]'(by rw [hN.out]; exact hlt) = x := ⟨_, rfl⟩
      rw [hx] at a0 a1 a2 b0 b1 b2
      simp only at a0 a1 a2 b0 b1 b2
      have kk : ∀ {b m : Nat} {u : Value}, b < w.heap.size → w.cell? ⟨b, m, none⟩ = some u → wr.cell? ⟨b, m, none⟩ = some u := fun {b m u} hb hc => by rw [bel.cell (p := ⟨b, m, none⟩) hb]; exact hc
      have i0 := kk hb1 a0
      have i1 := kk hb1 a1
      have i2 := kk hb1 a2
      have j0 := kk hb2 b0
      have j1 := kk hb2 b1
      have j2 := kk hb2 b2
      have hq := name_neq nj dj ej
      clear a0 a1 a2 b0 b1 b2 kk hx
      go_wp2
      go_quiet (fail)
      go_wp2
      go_roundw
      case rel => exact ⟨k + 1, by omega, by go_num, below_drewN bel _⟩
      case measure => simp [intOf]; omega
    · obtain rfl : k = N := by omega
      go_wp2
      go_ret
      exact ⟨rfl, bel⟩
end RN
end Go.Proofs.YtmnmheocmcmpmaaGreat

namespace Go.Proofs.YtmnmheocmcmpmaaGreat
open Go.ChangeShapes Go.WideShapes Go.ChangeAt Go.RowKit Go.Maps
set_option linter.unusedVariables false
set_option linter.unusedSimpArgs false
namespace NT
open IN (Keeps)
def Sn : Int → Option IN.Nd := IN.upd (fun _ => none) 1 (some (IN.newNd 2))
theorem cl_D0 (n j : Int) : cl D0 n j = 0 := by
  unfold cl D0
  by_cases h : n = 1 <;> simp [h, cntL]
theorem cnt_D0 (j : Int) : ∀ N : Nat, cnt D0 j N = 0
  | 0 => rfl
  | N + 1 => by unfold cnt; rw [cnt_D0 j N, cl_D0]
theorem D0_at {n : Int} {d : Dr} (h : D0 n = some d) : n = 1 ∧ d = ⟨1, []⟩ := by
  unfold D0 at h
  split at h
  · cases h; exact ⟨by assumption, rfl⟩
  · cases h
theorem Sn_at {n : Int} {x : IN.Nd} (h : Sn n = some x) : n = 1 ∧ x = IN.newNd 2 := by
  unfold Sn IN.upd at h
  split at h
  · cases h; exact ⟨by assumption, rfl⟩
  · cases h
theorem TI.new {I : Nat} (hI : 1 ≤ I) : TI I 0 e0 Sn D0 := by
  have h1 : D0 1 = some ⟨1, []⟩ := if_pos rfl
  have h2 : Sn 1 = some (IN.newNd 2) := IN.upd_at _ _ _
  refine ⟨⟨_, h1, rfl⟩, fun n hn => ?_, fun n => ?_, fun n x hx _ => ?_, fun j x hx => ?_, fun j _ => ⟨cnt_D0 j I, rfl⟩, fun n d k j hd hl => ?_, fun j d hd => ?_, fun n d hd => ?_, fun n d hd => ?_⟩
  · obtain ⟨x, hx⟩ := Option.ne_none_iff_exists'.1 hn
    obtain ⟨rfl, -⟩ := Sn_at hx
    omega
  · constructor
    · intro hn
      obtain ⟨d, hd⟩ := Option.ne_none_iff_exists'.1 hn
      obtain ⟨rfl, -⟩ := D0_at hd
      exact ⟨_, h2, rfl⟩
    · rintro ⟨x, hx, -⟩
      obtain ⟨rfl, -⟩ := Sn_at hx
      rw [h1]; simp
  · obtain ⟨rfl, rfl⟩ := Sn_at hx
    rfl
  · obtain ⟨rfl, rfl⟩ := Sn_at hx
    rw [cnt_D0]
    exact ⟨⟨Int.le_refl _, fun _ => rfl⟩, rfl⟩
  · obtain ⟨rfl, rfl⟩ := D0_at hd
    cases hl
  · obtain ⟨rfl, rfl⟩ := D0_at hd
    exact ⟨_, h1⟩
  · obtain ⟨rfl, rfl⟩ := D0_at hd
    exact ⟨List.Pairwise.nil, Nat.le_refl _⟩
  · obtain ⟨rfl, rfl⟩ := D0_at hd
    exact ⟨0, rfl⟩
end NT
namespace RN
open IN (Keeps)
open NT (Dr Ds er nu findR TW TP TI e0)
structure N2 (b1 b2 tg sg mb rt rg I L B q xg : Nat) (xl : List Value) (B0 : Nat) (w0 : World) (c1 c2 : Nat) (S1 : Int → Option IN.Nd) (D1 : Ds) (S2 : Int → Option IN.Nd) (D2 : Ds) (w : World) : Prop where
  p : ∃ A, TW b1 tg sg mb I L B q c1 A S1 D1 w
  r : RW b2 rt rg I B L c2 S2 D2 (kap D2) w
  x : Blk w xg 40 xl
  b : Below B0 w0 w
section
variable {b1 b2 tg sg mb rt rg I L B q xg : Nat} {xl : List Value} {B0 : Nat} {w0 : World} {c1 c2 : Nat} {S S1 S2 S' : Int → Option IN.Nd} {D D1 D2 D' : Ds} {w w' : World}
theorem RW.keeps {κ : Int → Int} (h : RW b2 rt rg I B L c2 S D κ w) {C : Nat} {T : Nat → Obj → Prop} (hK : Keeps C T w w') (h1 : ∀ k c s, ¬ T k (.cells c 118 s)) (h2 : ∀ k c s, ¬ T k (.cells c 115 s)) (h3 : ∀ k c, ¬ T k (.cells c 133 (0, 0))) (h4 : ∀ k c s, ¬ T k (.cells c 112 s)) (h5 : ∀ k c s, ¬ T k (.cells c 131 s)) (h6 : ∀ k c, ¬ T k (.cells c 245 (0, 0))) : RW b2 rt rg I B L c2 S D κ w' :=
  ⟨h.ex.keeps hK h1 h2 h3, h.rs.keeps hK h4 h5 h6⟩
theorem ft_cells {A : Int → Option (Nat × Nat)} {k : Nat} {c : Array Value} {t : TypeId} {s : Nat × Nat} (h1 : t ≠ 122) (h2 : t ≠ 208) (h3 : t ≠ 163) : ¬ NT.FT A mb k (.cells c t s) := by
  rintro (h | ⟨n, g, m, hA, h | h⟩)
  · rcases h with ⟨c', s', e⟩ | ⟨c', s', e⟩ | ⟨-, es, c', e⟩
    · simp only [Obj.cells.injEq] at e; exact h1 e.2.1
    · simp only [Obj.cells.injEq] at e; exact h2 e.2.1
    · cases e
  · obtain ⟨-, c', s', e⟩ := h
    simp only [Obj.cells.injEq] at e; exact h3 e.2.1
  · obtain ⟨-, es, c', e⟩ := h
    cases e
theorem RW.other {κ : Int → Int} {A : Int → Option (Nat × Nat)} (h : RW b2 rt rg I B L c2 S D κ w) {C : Nat} (hK : Keeps C (NT.FT A mb) w w') : RW b2 rt rg I B L c2 S D κ w' :=
  h.keeps hK (fun k c s => ft_cells (by decide) (by decide) (by decide)) (fun k c s => ft_cells (by decide) (by decide) (by decide)) (fun k c => ft_cells (by decide) (by decide) (by decide)) (fun k c s => ft_cells (by decide) (by decide) (by decide)) (fun k c s => ft_cells (by decide) (by decide) (by decide)) (fun k c => ft_cells (by decide) (by decide) (by decide))
theorem TW_keeps {A : Int → Option (Nat × Nat)} (h : TW b1 tg sg mb I L B q c1 A S D w) {C : Nat} {T : Nat → Obj → Prop} (hK : Keeps C T w w') (h1 : ∀ k c s, ¬ T k (.cells c 155 s)) (h2 : ∀ k c s, ¬ T k (.cells c 163 s)) (h3 : ∀ k es c, ¬ T k (.map es c)) (h4 : ∀ k c s, ¬ T k (.cells c 122 s)) (h5 : ∀ k c s, ¬ T k (.cells c 208 s)) (h6 : ∀ k c, ¬ T k (.cells c 245 (0, 0))) : TW b1 tg sg mb I L B q c1 A S D w' := by
  obtain ⟨M, hM⟩ := h.ps
  exact ⟨h.tm.keeps hK h1 h2 (fun _ _ m es c _ => h3 m es c), ⟨M, hM.keeps hK h4 h5 (fun es c => h3 mb es c) h6⟩, h.ti⟩
theorem TW_other {A : Int → Option (Nat × Nat)} (h : TW b1 tg sg mb I L B q c1 A S D w) {C : Nat} (hK : Keeps C UT w w') : TW b1 tg sg mb I L B q c1 A S D w' :=
  TW_keeps h hK (by simp [UT, RT, IN.DT]) (by simp [UT, RT, IN.DT]) (by simp [UT, RT, IN.DT]) (by simp [UT, RT, IN.DT]) (by simp [UT, RT, IN.DT]) (by simp [UT, RT, IN.DT])
theorem below_keeps {B : Nat} {T : Nat → Obj → Prop} {w w' : World} (h : Keeps B T w w') : Below B w w' := h.below (Nat.le_refl _)
theorem N2.prog {A : Int → Option (Nat × Nat)} {c' : Nat} (h : N2 b1 b2 tg sg mb rt rg I L B q xg xl B0 w0 c1 c2 S D S2 D2 w) (hB : B0 ≤ b1) (hp : TP b1 tg sg mb I L B q c' A S' D' w w') : N2 b1 b2 tg sg mb rt rg I L B q xg xl B0 w0 c' c2 S' D' S2 D2 w' :=
  ⟨hp.1, h.r.other hp.2, hp.2.block _ _ h.x (ft_cells (by decide) (by decide) (by decide)), h.b.trans ((below_keeps hp.2).mono hB)⟩
theorem N2.doc {c' : Nat} (h : N2 b1 b2 tg sg mb rt rg I L B q xg xl B0 w0 c1 c2 S1 D1 S D w) (hB : B0 ≤ b2) (hr : RP b2 rt rg I B L c' S' D' w w') : N2 b1 b2 tg sg mb rt rg I L B q xg xl B0 w0 c1 c' S1 D1 S' D' w' := by
  obtain ⟨A, hp⟩ := h.p
  exact ⟨⟨A, TW_other hp hr.2⟩, hr.1, hr.2.block _ _ h.x (by simp [UT, RT, IN.DT]), h.b.trans ((below_keeps hr.2).mono hB)⟩
theorem N2.keep (h : N2 b1 b2 tg sg mb rt rg I L B q xg xl B0 w0 c1 c2 S1 D1 S2 D2 w) (hB : B0 ≤ b2) (hb : Below w.heap.size w w') : N2 b1 b2 tg sg mb rt rg I L B q xg xl B0 w0 c1 c2 S1 D1 S2 D2 w' :=
  h.doc hB ⟨h.r.keep hb, Keeps.new hb h.r.low⟩
theorem N2.more (h : N2 b1 b2 tg sg mb rt rg I L B q xg xl B0 w0 c1 c2 S1 D1 S2 D2 w) {k1 k2 : Nat} (h1 : c1 ≤ k1) (h2 : c2 ≤ k2) : N2 b1 b2 tg sg mb rt rg I L B q xg xl B0 w0 k1 k2 S1 D1 S2 D2 w := by
  obtain ⟨A, hp⟩ := h.p
  exact ⟨⟨A, hp.more h1⟩, h.r.more h2, h.x, h.b⟩
theorem N2.drew (h : N2 b1 b2 tg sg mb rt rg I L B q xg xl B0 w0 c1 c2 S1 D1 S2 D2 w) (hB : B0 ≤ b2) : N2 b1 b2 tg sg mb rt rg I L B q xg xl B0 w0 c1 c2 S1 D1 S2 D2 w.drew := h.keep hB ⟨rfl, rfl, rfl, Nat.le_refl _, fun _ _ => rfl⟩
def Turn (I L : Nat) (S : Int → Option IN.Nd) (D : Ds) (s t : ByteArray) (n : Int) (S' : Int → Option IN.Nd) (D' : Ds) : Prop :=
  (S', D') = (S, D) ∨ (S', D') = (NT.mk I S D s n).2 ∨ (S', D') = (NT.lnk L S D s t).2 ∨ (S', D') = NT.unlS S D s ∨ (S', D') = NT.rmdS S D s ∨ (S', D') = (NT.ren S D s t).2
def Pair (b1 b2 tg sg mb rt rg I L B q xg : Nat) (xl : List Value) (B0 : Nat) (w0 : World) (c1 c2 : Nat) (S : Int → Option IN.Nd) (D : Ds) (S' : Int → Option IN.Nd) (D' : Ds) (v : Value) (fp fr : FuncId) (ap ar : Array Value) : Prop :=
  (∀ W, N2 b1 b2 tg sg mb rt rg I L B q xg xl B0 w0 c1 c2 S D S D W → Calls Tryz.prog fp ap W fun e w' => e = .returned v ∧ N2 b1 b2 tg sg mb rt rg I L B q xg xl B0 w0 (c1 + 1) c2 S' D' S D w') ∧
  (∀ W, N2 b1 b2 tg sg mb rt rg I L B q xg xl B0 w0 (c1 + 1) c2 S' D' S D W → Calls Tryz.prog fr ar W fun e w' => e = .returned v ∧ N2 b1 b2 tg sg mb rt rg I L B q xg xl B0 w0 (c1 + 1) (c2 + 2) S' D' S' D' w')
section
variable (hB1 : B0 ≤ b1) (hB2 : B0 ≤ b2) {ct : Nat} (hti : TI I ct e0 S D) (hf : IN.Fine I L B q S) (hI : I ≤ 4096) (hL : L ≤ 32768) (hL1 : 1 ≤ L) (hq : q < 1000000) (hc1 : c1 < 65535) (hc2 : c2 < 65000)
include hB1 hB2 hti hI hL1 hc1 hc2 in
theorem both_make (s : ByteArray) (hs : s.size ≤ maxLen) (kd : Int) : ∃ (a r : Int) (S' : Int → Option IN.Nd) (D' : Ds), (S', D') = (NT.mk I S D s kd).2 ∧ Pair b1 b2 tg sg mb rt rg I L B q xg xl B0 w0 c1 c2 S D S' D' (.tuple #[.int .i64 a, .int .i64 r]) 29 61 #[.pointer (some ⟨tg, 0, none⟩), .string s, .int .i64 kd] #[.pointer (some ⟨rt, 0, none⟩), .string s, .int .i64 kd] := by
  refine ⟨(NT.mk I S D s kd).1.1, (NT.mk I S D s kd).1.2, (NT.mk I S D s kd).2.1, (NT.mk I S D s kd).2.2, rfl, fun W h => ?_, fun W h => ?_⟩
  rotate_left
  · exact (rMake_all s hs kd W h.r hti hI hc2).mono fun e w' hh => ⟨hh.1, h.doc hB2 hh.2⟩
  · obtain ⟨A, hp⟩ := h.p
    exact (NT.Make_all s hs kd W hp hc1 hL1).mono fun e w' hh => ⟨hh.1, h.prog hB1 hh.2⟩
include hB1 hB2 hti hf hI hL hc1 hc2 in
theorem both_link (s t : ByteArray) (hs : s.size ≤ maxLen) (ht : t.size ≤ maxLen) : ∃ (r : Int) (S' : Int → Option IN.Nd) (D' : Ds), (S', D') = (NT.lnk L S D s t).2 ∧ Pair b1 b2 tg sg mb rt rg I L B q xg xl B0 w0 c1 c2 S D S' D' (.int .i64 r) 30 62 #[.pointer (some ⟨tg, 0, none⟩), .string s, .string t] #[.pointer (some ⟨rt, 0, none⟩), .string s, .string t] := by
  refine ⟨(NT.lnk L S D s t).1, (NT.lnk L S D s t).2.1, (NT.lnk L S D s t).2.2, rfl, fun W h => ?_, fun W h => ?_⟩
  rotate_left
  · exact (rLink_all s t hs ht W h.r hti hf hI hL hc2).mono fun e w' hh => ⟨hh.1, h.doc hB2 hh.2⟩
  · obtain ⟨A, hp⟩ := h.p
    exact (NT.Link_all s t hs ht W hp hc1).mono fun e w' hh => ⟨hh.1, h.prog hB1 hh.2⟩
include hB1 hB2 hf hI hL hq in
theorem both_unlink (s : ByteArray) (hs : s.size ≤ maxLen) : ∃ (r : Int) (S' : Int → Option IN.Nd) (D' : Ds), (S', D') = NT.unlS S D s ∧ Pair b1 b2 tg sg mb rt rg I L B q xg xl B0 w0 c1 c2 S D S' D' (.int .i64 r) 31 63 #[.pointer (some ⟨tg, 0, none⟩), .string s] #[.pointer (some ⟨rt, 0, none⟩), .string s] := by
  refine ⟨er (NT.unlR D s), (NT.unlS S D s).1, (NT.unlS S D s).2, rfl, fun W h => ?_, fun W h => ?_⟩
  rotate_left
  · exact (rUnlink_all s hs W h.r hf hI hL hq).mono fun e w' hh => ⟨hh.1, h.doc hB2 hh.2⟩
  · obtain ⟨A, hp⟩ := h.p
    exact (NT.Unlink_all s hs W hp hq).mono fun e w' hh => ⟨hh.1, h.prog hB1 hh.2⟩
include hB1 hB2 hti hf hI hL hq in
theorem both_rmdir (s : ByteArray) (hs : s.size ≤ maxLen) : ∃ (r : Int) (S' : Int → Option IN.Nd) (D' : Ds), (S', D') = NT.rmdS S D s ∧ Pair b1 b2 tg sg mb rt rg I L B q xg xl B0 w0 c1 c2 S D S' D' (.int .i64 r) 32 64 #[.pointer (some ⟨tg, 0, none⟩), .string s] #[.pointer (some ⟨rt, 0, none⟩), .string s] := by
  refine ⟨er (NT.rmdR D s), (NT.rmdS S D s).1, (NT.rmdS S D s).2, rfl, fun W h => ?_, fun W h => ?_⟩
  rotate_left
  · exact (rRmdir_all s hs W h.r hti hf hI hL hq).mono fun e w' hh => ⟨hh.1, h.doc hB2 hh.2⟩
  · obtain ⟨A, hp⟩ := h.p
    exact (NT.Rmdir_all s hs W hp hq).mono fun e w' hh => ⟨hh.1, h.prog hB1 hh.2⟩
include hB1 hB2 hti hf hI hL hq hc1 hc2 in
theorem both_rename (s t : ByteArray) (hs : s.size ≤ maxLen) (ht : t.size ≤ maxLen) : ∃ (r : Int) (S' : Int → Option IN.Nd) (D' : Ds), (S', D') = (NT.ren S D s t).2 ∧ Pair b1 b2 tg sg mb rt rg I L B q xg xl B0 w0 c1 c2 S D S' D' (.int .i64 r) 27 65 #[.pointer (some ⟨tg, 0, none⟩), .string s, .string t] #[.pointer (some ⟨rt, 0, none⟩), .string s, .string t] := by
  refine ⟨(NT.ren S D s t).1, (NT.ren S D s t).2.1, (NT.ren S D s t).2.2, rfl, fun W h => ?_, fun W h => ?_⟩
  rotate_left
  · exact (rRename_all s t hs ht W h.r hti hf hI hL hq hc2).mono fun e w' hh => ⟨hh.1, h.doc hB2 hh.2⟩
  · obtain ⟨A, hp⟩ := h.p
    exact (NT.Rename_all s t hs ht W hp hq hc1).mono fun e w' hh => ⟨hh.1, h.prog hB1 hh.2⟩
include hB2 in
theorem both_find (s : ByteArray) (hs : s.size ≤ maxLen) : ∃ (a r : Int), Pair b1 b2 tg sg mb rt rg I L B q xg xl B0 w0 c1 c2 S D S D (.tuple #[.int .i64 a, .int .i64 r]) 26 66 #[.pointer (some ⟨tg, 0, none⟩), .string s] #[.pointer (some ⟨rt, 0, none⟩), .string s] := by
  refine ⟨nu (findR D s), er (findR D s), fun W h => ?_, fun W h => ?_⟩
  rotate_left
  · exact (find_d s hs W h.r.ex).mono fun e w' hh => ⟨hh.1, (h.keep hB2 hh.2).more (Nat.le_refl _) (by omega)⟩
  · obtain ⟨A, hp⟩ := h.p
    exact (NT.Find_all s hs W hp).mono fun e w' hh => ⟨hh.1, (h.keep hB2 hh.2).more (Nat.le_succ _) (Nat.le_refl _)⟩
end
theorem lcl_kcl {D : Ds} : ∀ (l : List (ByteArray × Int × Int)), (∀ y ∈ l, y.2.2 = kap D y.2.1) → NT.lcl D (two l) = kcl l
  | [], _ => rfl
  | x :: l, h => by
    have ih := lcl_kcl l fun y hy => h y (List.mem_cons_of_mem _ hy)
    have hx := h x List.mem_cons_self
    unfold NT.lcl two at ih ⊢
    rw [List.map_cons, List.flatMap_cons, ih, show x :: l = [x] ++ l from rfl, kcl_app, kcl_one]
    unfold krow
    rw [hx]
    rfl
theorem both_list (s : ByteArray) (hs : s.size ≤ maxLen) (hB2 : B0 ≤ b2) (hc1 : c1 < 65535) (W0 : World) (h0 : N2 b1 b2 tg sg mb rt rg I L B q xg xl B0 w0 c1 c2 S D S D W0) : ∃ (r : Int) (X : List (ByteArray × Int × Int)), X.length ≤ 100000 ∧
    (∀ W, N2 b1 b2 tg sg mb rt rg I L B q xg xl B0 w0 c1 c2 S D S D W → Calls Tryz.prog 28 #[.pointer (some ⟨tg, 0, none⟩), .string s] W fun e w' => ∃ v, e = .returned (.tuple #[v, .int .i64 r]) ∧ NE w' v X ∧ Below W.heap.size W w') ∧
    (∀ W, Below W0.heap.size W0 W → Calls Tryz.prog 67 #[.pointer (some ⟨rt, 0, none⟩), .string s] W fun e w' => ∃ v, e = .returned (.tuple #[v, .int .i64 r]) ∧ NE w' v X ∧ Below W.heap.size W w') := by
  obtain ⟨l, h1, h2, h3, h4⟩ := h0.r.ex
  obtain ⟨A0, hp0⟩ := h0.p
  have hE : er (NT.listR D s) = er (lstA l s) ∧ NT.li (NT.listR D s) = two (lsv (lstA l s)) ∧ (∀ y ∈ lsv (lstA l s), y.2.2 = kap D y.2.1) ∧ (lsv (lstA l s)).length ≤ 100000 := by
    unfold NT.listR lstA
    rw [h2.eq]
    cases hf : findR D s with
    | error e => exact ⟨rfl, rfl, fun y hy => by simp [lsv] at hy, Nat.zero_le _⟩
    | ok n =>
      simp only
      cases hD : D n with
      | none =>
        have hn : ¬ ix l n < l.length := fun hn => by
          have := toD_ix l n
          rw [dif_pos hn, h2.eq, hD] at this
          cases this
        rw [dif_neg hn]
        exact ⟨rfl, rfl, fun y hy => by simp [lsv] at hy, Nat.zero_le _⟩
      | some d =>
        obtain ⟨hn, e1, e2, e3⟩ := h2.at_ hD
        rw [dif_pos hn]
        exact ⟨rfl, e3, fun y hy => h2.kd _ (List.getElem_mem hn) y hy, h1.few.names _ (List.getElem_mem hn)⟩
  obtain ⟨e1, e2, e3, e4⟩ := hE
  refine ⟨er (lstA l s), lsv (lstA l s), e4, fun W h => ?_, fun W hb => ?_⟩
  · obtain ⟨A, hp⟩ := h.p
    refine (NT.List_all s hs W hp hc1).mono ?_
    rintro e w' ⟨v, rfl, hown, hb⟩
    refine ⟨v, by rw [e1], ⟨W.heap.size, ?_⟩, hb⟩
    rw [e2, two_len, lcl_kcl _ e3] at hown
    exact hown
  · exact rList_any s hs W (h1.keep hb)
end
end RN
namespace RN
open IN (Keeps)
open NT (Dr Ds er nu findR TW TP TI e0)
theorem kind7 (k : Int) : ((((k.tmod 7) + 7).tmod 7) = 0 ∨ (((k.tmod 7) + 7).tmod 7) = 1 ∨ (((k.tmod 7) + 7).tmod 7) = 2 ∨ (((k.tmod 7) + 7).tmod 7) = 3 ∨ (((k.tmod 7) + 7).tmod 7) = 4 ∨ (((k.tmod 7) + 7).tmod 7) = 5 ∨ (((k.tmod 7) + 7).tmod 7) = 6) ∧ -6 ≤ k.tmod 7 ∧ k.tmod 7 ≤ 6 := by
  have h1 := Int.tmod_lt_of_pos k (show (0 : Int) < 7 by decide)
  have h2 : -7 < k.tmod 7 := by
    have := Int.lt_tmod_of_pos k (show (0 : Int) < 7 by decide)
    omega
  obtain ⟨t, ht⟩ : ∃ t, k.tmod 7 = t := ⟨_, rfl⟩
  rw [ht] at h1 h2 ⊢
  have : t = -6 ∨ t = -5 ∨ t = -4 ∨ t = -3 ∨ t = -2 ∨ t = -1 ∨ t = 0 ∨ t = 1 ∨ t = 2 ∨ t = 3 ∨ t = 4 ∨ t = 5 ∨ t = 6 := by omega
  rcases this with rfl | rfl | rfl | rfl | rfl | rfl | rfl | rfl | rfl | rfl | rfl | rfl | rfl <;> decide
theorem NE.keep {w w' : World} {v : Value} {l : List (ByteArray × Int × Int)} (h : NE w v l) (hb : Below w.heap.size w w') : NE w' v l := h.move fun b cur hc => hb.block b (IN.lt_of_some hc)
section
variable {b1 b2 tg sg mb rt rg I L B q : Nat} {B0 : Nat} {c1 c2 : Nat} {S : Int → Option IN.Nd} {D : Ds}
set_option maxRecDepth 100000 in
set_option maxHeartbeats 32000000 in
theorem does12 (kd n : Int) (s t : ByteArray) (w : World) {A : Int → Option (Nat × Nat)} (h1 : TW b1 tg sg mb I L B q c1 A S D w) (h2 : RW b2 rt rg I B L c2 S D (kap D) w) (hs : s.size ≤ maxLen) (ht : t.size ≤ maxLen) (hL1 : 1 ≤ L) (hq : q < 1000000) (hc1 : c1 < 65535) (hc2 : c2 < 65000) (hB1 : B0 ≤ b1) (hB2 : B0 ≤ b2) (hB0 : B0 ≤ w.heap.size) :
    Calls Tryz.prog 19 #[.pointer (some ⟨tg, 0, none⟩), .pointer (some ⟨rt, 0, none⟩), .agg #[.int .i64 kd, .string s, .string t, .int .i64 n]] w fun e w' => e = .returned (.bool true) ∧ ∃ S' D', Turn I L S D s t n S' D' ∧ (∃ A', TW b1 tg sg mb I L B q (c1 + 1) A' S' D' w') ∧ RW b2 rt rg I B L (c2 + 2) S' D' (kap D') w' ∧ Below B0 w w' := by
  have hti := h1.ti
  obtain ⟨M, hPS⟩ := h1.ps
  have hf := hPS.fn
  obtain ⟨hI, hL, -⟩ := hPS.lim
  obtain ⟨W0, hW0⟩ : ∃ W0, w.alloc (.cells #[.int .i64 kd, .string s, .string t, .int .i64 n] 40) = W0 := ⟨_, rfl⟩
  have hD : Hid (N2 b1 b2 tg sg mb rt rg I L B q w.heap.size [.int .i64 kd, .string s, .string t, .int .i64 n] B0 w c1 c2 S D S D W0) := W_hid (by
    rw [← hW0]
    have hb := (Below.refl w.heap.size w).alloc (Nat.le_refl _) (.cells #[.int .i64 kd, .string s, .string t, .int .i64 n] 40)
    exact ⟨⟨A, h1.keep hb⟩, h2.keep hb, Blk.new w 40 [.int .i64 kd, .string s, .string t, .int .i64 n] rfl, hb.mono hB0⟩)
  obtain ⟨hcs, hk1, hk2⟩ := kind7 kd
  have y0 := hD.out.x.cell (j := 0) rfl
  have y1 := hD.out.x.cell (j := 1) rfl
  have y2 := hD.out.x.cell (j := 2) rfl
  have y3 := hD.out.x.cell (j := 3) rfl
  clear h1 h2 hPS
  obtain ⟨tm, htm⟩ : ∃ tm, kd.tmod 7 = tm := ⟨_, rfl⟩
  rw [htm] at hcs hk1 hk2
  have cLi := W_hid (both_list s hs hB2 hc1 W0 hD.out)
  rcases hcs with e0 | e0 | e0 | e0 | e0 | e0 | e0
  · obtain ⟨a, r, S', D', hTn, cP, cR⟩ := both_make (b1 := b1) (b2 := b2) (tg := tg) (sg := sg) (mb := mb) (rt := rt) (rg := rg) (I := I) (L := L) (B := B) (q := q) (c1 := c1) (c2 := c2) (S := S) (D := D) (xg := w.heap.size) (xl := [.int .i64 kd, .string s, .string t, .int .i64 n]) (w0 := w) (B0 := B0) hB1 hB2 hti hI hL1 hc1 hc2 s hs n
    replace cP := W_hid cP
    replace cR := W_hid cR
    clear cLi
    go_enter Tryz.func19, Tryz.ntmps19
    go_wp2_with fail
    refine (cP.out _ hD.out).mono ?_
    rintro e w1 ⟨rfl, hD1⟩
    replace hD1 := W_hid hD1
    have q1 := hD1.out.x.cell (j := 1) rfl
    have q2 := hD1.out.x.cell (j := 2) rfl
    have q3 := hD1.out.x.cell (j := 3) rfl
    go_wp2_with fail
    refine (cR.out _ hD1.out).mono ?_
    rintro e w2 ⟨rfl, hD2⟩
    replace hD2 := W_hid hD2
    go_wp2_with fail
    go_ret
    exact ⟨rfl, S', D', .inr (.inl hTn), hD2.out.p, hD2.out.r, hD2.out.b⟩
  · obtain ⟨r, S', D', hTn, cP, cR⟩ := both_link (b1 := b1) (b2 := b2) (tg := tg) (sg := sg) (mb := mb) (rt := rt) (rg := rg) (I := I) (L := L) (B := B) (q := q) (c1 := c1) (c2 := c2) (S := S) (D := D) (xg := w.heap.size) (xl := [.int .i64 kd, .string s, .string t, .int .i64 n]) (w0 := w) (B0 := B0) hB1 hB2 hti hf hI hL hc1 hc2 s t hs ht
    replace cP := W_hid cP
    replace cR := W_hid cR
    clear cLi
    go_enter Tryz.func19, Tryz.ntmps19
    go_wp2_with fail
    refine wp_region_held_drew (S := (fun w' => Blk w' w.heap.size 40 [.int .i64 kd, .string s, .string t, .int .i64 n])) (by kernel_rfl) hD.out.x (fun hHeld => ?_)
    refine wpAnyH_take (i := 0) (v := .pointer (some ⟨tg, 0, none⟩)) rfl (by kernel_rfl) (by kernel_rfl) (by kernel_rfl) (fun _ _ _ h => h) (Or.inl ⟨by rfl, fun w0 s1 => ?_⟩) hHeld ?_
    · go_simp
    try simp only [Act.put, List.setIfInBounds_toArray, List.set_cons_zero, List.set_cons_succ, List.getElem_toArray, List.getElem_cons_zero, List.getElem_cons_succ]
    refine wpAnyH_take (i := 1) (v := .pointer (some ⟨w.heap.size, 1, none⟩)) rfl (by kernel_rfl) (by kernel_rfl) (by kernel_rfl) (fun _ _ _ h => h) (Or.inl ⟨by rfl, fun w0 s1 => ?_⟩) hHeld ?_
    · go_simp
    try simp only [Act.put, List.setIfInBounds_toArray, List.set_cons_zero, List.set_cons_succ, List.getElem_toArray, List.getElem_cons_zero, List.getElem_cons_succ]
    refine wpAnyH_take (i := 2) (v := .string s) rfl (by kernel_rfl) (by kernel_rfl) (by kernel_rfl) (fun _ _ _ h => h) (Or.inl ⟨by rfl, fun w0 s1 => ?_⟩) hHeld ?_
    · (have q := Blk.cell (j := 1) s1 rfl; go_simp)
    try simp only [Act.put, List.setIfInBounds_toArray, List.set_cons_zero, List.set_cons_succ, List.getElem_toArray, List.getElem_cons_zero, List.getElem_cons_succ]
    refine wpAnyH_take (i := 3) (v := .pointer (some ⟨w.heap.size, 2, none⟩)) rfl (by kernel_rfl) (by kernel_rfl) (by kernel_rfl) (fun _ _ _ h => h) (Or.inl ⟨by rfl, fun w0 s1 => ?_⟩) hHeld ?_
    · go_simp
    try simp only [Act.put, List.setIfInBounds_toArray, List.set_cons_zero, List.set_cons_succ, List.getElem_toArray, List.getElem_cons_zero, List.getElem_cons_succ]
    refine wpAnyH_take (i := 4) (v := .string t) rfl (by kernel_rfl) (by kernel_rfl) (by kernel_rfl) (fun _ _ _ h => h) (Or.inl ⟨by rfl, fun w0 s1 => ?_⟩) hHeld ?_
    · (have q := Blk.cell (j := 2) s1 rfl; go_simp)
    try simp only [Act.put, List.setIfInBounds_toArray, List.set_cons_zero, List.set_cons_succ, List.getElem_toArray, List.getElem_cons_zero, List.getElem_cons_succ]
    refine wpAnyH_take (i := 6) (v := .pointer (some ⟨rt, 0, none⟩)) rfl (by kernel_rfl) (by kernel_rfl) (by kernel_rfl) (fun _ _ _ h => h) (Or.inl ⟨by rfl, fun w0 s1 => ?_⟩) hHeld ?_
    · go_simp
    try simp only [Act.put, List.setIfInBounds_toArray, List.set_cons_zero, List.set_cons_succ, List.getElem_toArray, List.getElem_cons_zero, List.getElem_cons_succ]
    refine wpAnyH_take (i := 7) (v := .pointer (some ⟨w.heap.size, 1, none⟩)) rfl (by kernel_rfl) (by kernel_rfl) (by kernel_rfl) (fun _ _ _ h => h) (Or.inl ⟨by rfl, fun w0 s1 => ?_⟩) hHeld ?_
    · go_simp
    try simp only [Act.put, List.setIfInBounds_toArray, List.set_cons_zero, List.set_cons_succ, List.getElem_toArray, List.getElem_cons_zero, List.getElem_cons_succ]
    refine wpAnyH_take (i := 8) (v := .string s) rfl (by kernel_rfl) (by kernel_rfl) (by kernel_rfl) (fun _ _ _ h => h) (Or.inl ⟨by rfl, fun w0 s1 => ?_⟩) hHeld ?_
    · (have q := Blk.cell (j := 1) s1 rfl; go_simp)
    try simp only [Act.put, List.setIfInBounds_toArray, List.set_cons_zero, List.set_cons_succ, List.getElem_toArray, List.getElem_cons_zero, List.getElem_cons_succ]
    refine wpAnyH_take (i := 9) (v := .pointer (some ⟨w.heap.size, 2, none⟩)) rfl (by kernel_rfl) (by kernel_rfl) (by kernel_rfl) (fun _ _ _ h => h) (Or.inl ⟨by rfl, fun w0 s1 => ?_⟩) hHeld ?_
    · go_simp
    try simp only [Act.put, List.setIfInBounds_toArray, List.set_cons_zero, List.set_cons_succ, List.getElem_toArray, List.getElem_cons_zero, List.getElem_cons_succ]
    refine wpAnyH_take (i := 10) (v := .string t) rfl (by kernel_rfl) (by kernel_rfl) (by kernel_rfl) (fun _ _ _ h => h) (Or.inl ⟨by rfl, fun w0 s1 => ?_⟩) hHeld ?_
    · (have q := Blk.cell (j := 2) s1 rfl; go_simp)
    try simp only [Act.put, List.setIfInBounds_toArray, List.set_cons_zero, List.set_cons_succ, List.getElem_toArray, List.getElem_cons_zero, List.getElem_cons_succ]
    refine wpAnyH_ready (rs := [5]) (by kernel_rfl) (by simp) ?_
    refine AllReadyH.cons rfl (fun K hK => ?_) AllReadyH.nil
    go_simp
    refine (cP.out _ (hD.out.drew hB2)).mono ?_
    rintro e w1 ⟨rfl, hD1⟩
    replace hD1 := W_hid hD1
    refine hK.out _ _ hD1.out.x (fun hHeld1 => ?_)
    clear hK K
    try simp only [Act.put, List.setIfInBounds_toArray, List.set_cons_zero, List.set_cons_succ, List.getElem_toArray, List.getElem_cons_zero, List.getElem_cons_succ]
    refine wpAnyH_ready (rs := [11]) (by kernel_rfl) (by simp) ?_
    refine AllReadyH.cons rfl (fun K hK => ?_) AllReadyH.nil
    go_simp
    refine (cR.out _ hD1.out).mono ?_
    rintro e w2 ⟨rfl, hD2⟩
    replace hD2 := W_hid hD2
    refine hK.out _ _ hD2.out.x (fun hHeld2 => ?_)
    clear hK K
    try simp only [Act.put, List.setIfInBounds_toArray, List.set_cons_zero, List.set_cons_succ, List.getElem_toArray, List.getElem_cons_zero, List.getElem_cons_succ]
    refine wpAnyH_take (i := 12) (v := .bool true) rfl (by kernel_rfl) (by kernel_rfl) (by kernel_rfl) (fun _ _ _ h => h) (Or.inl ⟨by rfl, fun w0 s1 => ?_⟩) hHeld2 ?_
    · go_simp
    try simp only [Act.put, List.setIfInBounds_toArray, List.set_cons_zero, List.set_cons_succ, List.getElem_toArray, List.getElem_cons_zero, List.getElem_cons_succ]
    refine wpAnyH_take (i := 13) (v := .bool true) rfl (by kernel_rfl) (by kernel_rfl) (by kernel_rfl) (fun _ _ _ h => h) (Or.inl ⟨by rfl, fun w0 s1 => ?_⟩) hHeld2 ?_
    · go_simp
    try simp only [Act.put, List.setIfInBounds_toArray, List.set_cons_zero, List.set_cons_succ, List.getElem_toArray, List.getElem_cons_zero, List.getElem_cons_succ]
    refine wpAnyH_done (by kernel_rfl) ?_ _
    go_wp2_with fail
    go_ret
    exact ⟨rfl, S', D', .inr (.inr (.inl hTn)), hD2.out.p, hD2.out.r, hD2.out.b⟩
  · obtain ⟨r, S', D', hTn, cP, cR⟩ := both_unlink (b1 := b1) (b2 := b2) (tg := tg) (sg := sg) (mb := mb) (rt := rt) (rg := rg) (I := I) (L := L) (B := B) (q := q) (c1 := c1) (c2 := c2) (S := S) (D := D) (xg := w.heap.size) (xl := [.int .i64 kd, .string s, .string t, .int .i64 n]) (w0 := w) (B0 := B0) hB1 hB2 hf hI hL hq s hs
    replace cP := W_hid cP
    replace cR := W_hid cR
    clear cLi
    go_enter Tryz.func19, Tryz.ntmps19
    go_wp2_with fail
    refine wp_region_held_drew (S := (fun w' => Blk w' w.heap.size 40 [.int .i64 kd, .string s, .string t, .int .i64 n])) (by kernel_rfl) hD.out.x (fun hHeld => ?_)
    refine wpAnyH_take (i := 0) (v := .pointer (some ⟨tg, 0, none⟩)) rfl (by kernel_rfl) (by kernel_rfl) (by kernel_rfl) (fun _ _ _ h => h) (Or.inl ⟨by rfl, fun w0 s1 => ?_⟩) hHeld ?_
    · go_simp
    try simp only [Act.put, List.setIfInBounds_toArray, List.set_cons_zero, List.set_cons_succ, List.getElem_toArray, List.getElem_cons_zero, List.getElem_cons_succ]
    refine wpAnyH_take (i := 1) (v := .pointer (some ⟨w.heap.size, 1, none⟩)) rfl (by kernel_rfl) (by kernel_rfl) (by kernel_rfl) (fun _ _ _ h => h) (Or.inl ⟨by rfl, fun w0 s1 => ?_⟩) hHeld ?_
    · go_simp
    try simp only [Act.put, List.setIfInBounds_toArray, List.set_cons_zero, List.set_cons_succ, List.getElem_toArray, List.getElem_cons_zero, List.getElem_cons_succ]
    refine wpAnyH_take (i := 2) (v := .string s) rfl (by kernel_rfl) (by kernel_rfl) (by kernel_rfl) (fun _ _ _ h => h) (Or.inl ⟨by rfl, fun w0 s1 => ?_⟩) hHeld ?_
    · (have q := Blk.cell (j := 1) s1 rfl; go_simp)
    try simp only [Act.put, List.setIfInBounds_toArray, List.set_cons_zero, List.set_cons_succ, List.getElem_toArray, List.getElem_cons_zero, List.getElem_cons_succ]
    refine wpAnyH_take (i := 4) (v := .pointer (some ⟨rt, 0, none⟩)) rfl (by kernel_rfl) (by kernel_rfl) (by kernel_rfl) (fun _ _ _ h => h) (Or.inl ⟨by rfl, fun w0 s1 => ?_⟩) hHeld ?_
    · go_simp
    try simp only [Act.put, List.setIfInBounds_toArray, List.set_cons_zero, List.set_cons_succ, List.getElem_toArray, List.getElem_cons_zero, List.getElem_cons_succ]
    refine wpAnyH_take (i := 5) (v := .pointer (some ⟨w.heap.size, 1, none⟩)) rfl (by kernel_rfl) (by kernel_rfl) (by kernel_rfl) (fun _ _ _ h => h) (Or.inl ⟨by rfl, fun w0 s1 => ?_⟩) hHeld ?_
    · go_simp
    try simp only [Act.put, List.setIfInBounds_toArray, List.set_cons_zero, List.set_cons_succ, List.getElem_toArray, List.getElem_cons_zero, List.getElem_cons_succ]
    refine wpAnyH_take (i := 6) (v := .string s) rfl (by kernel_rfl) (by kernel_rfl) (by kernel_rfl) (fun _ _ _ h => h) (Or.inl ⟨by rfl, fun w0 s1 => ?_⟩) hHeld ?_
    · (have q := Blk.cell (j := 1) s1 rfl; go_simp)
    try simp only [Act.put, List.setIfInBounds_toArray, List.set_cons_zero, List.set_cons_succ, List.getElem_toArray, List.getElem_cons_zero, List.getElem_cons_succ]
    refine wpAnyH_ready (rs := [3]) (by kernel_rfl) (by simp) ?_
    refine AllReadyH.cons rfl (fun K hK => ?_) AllReadyH.nil
    go_simp
    refine (cP.out _ (hD.out.drew hB2)).mono ?_
    rintro e w1 ⟨rfl, hD1⟩
    replace hD1 := W_hid hD1
    refine hK.out _ _ hD1.out.x (fun hHeld1 => ?_)
    clear hK K
    try simp only [Act.put, List.setIfInBounds_toArray, List.set_cons_zero, List.set_cons_succ, List.getElem_toArray, List.getElem_cons_zero, List.getElem_cons_succ]
    refine wpAnyH_ready (rs := [7]) (by kernel_rfl) (by simp) ?_
    refine AllReadyH.cons rfl (fun K hK => ?_) AllReadyH.nil
    go_simp
    refine (cR.out _ hD1.out).mono ?_
    rintro e w2 ⟨rfl, hD2⟩
    replace hD2 := W_hid hD2
    refine hK.out _ _ hD2.out.x (fun hHeld2 => ?_)
    clear hK K
    try simp only [Act.put, List.setIfInBounds_toArray, List.set_cons_zero, List.set_cons_succ, List.getElem_toArray, List.getElem_cons_zero, List.getElem_cons_succ]
    refine wpAnyH_take (i := 8) (v := .bool true) rfl (by kernel_rfl) (by kernel_rfl) (by kernel_rfl) (fun _ _ _ h => h) (Or.inl ⟨by rfl, fun w0 s1 => ?_⟩) hHeld2 ?_
    · go_simp
    try simp only [Act.put, List.setIfInBounds_toArray, List.set_cons_zero, List.set_cons_succ, List.getElem_toArray, List.getElem_cons_zero, List.getElem_cons_succ]
    refine wpAnyH_take (i := 9) (v := .bool true) rfl (by kernel_rfl) (by kernel_rfl) (by kernel_rfl) (fun _ _ _ h => h) (Or.inl ⟨by rfl, fun w0 s1 => ?_⟩) hHeld2 ?_
    · go_simp
    try simp only [Act.put, List.setIfInBounds_toArray, List.set_cons_zero, List.set_cons_succ, List.getElem_toArray, List.getElem_cons_zero, List.getElem_cons_succ]
    refine wpAnyH_done (by kernel_rfl) ?_ _
    go_wp2_with fail
    go_ret
    exact ⟨rfl, S', D', .inr (.inr (.inr (.inl hTn))), hD2.out.p, hD2.out.r, hD2.out.b⟩
  · obtain ⟨r, S', D', hTn, cP, cR⟩ := both_rmdir (b1 := b1) (b2 := b2) (tg := tg) (sg := sg) (mb := mb) (rt := rt) (rg := rg) (I := I) (L := L) (B := B) (q := q) (c1 := c1) (c2 := c2) (S := S) (D := D) (xg := w.heap.size) (xl := [.int .i64 kd, .string s, .string t, .int .i64 n]) (w0 := w) (B0 := B0) hB1 hB2 hti hf hI hL hq s hs
    replace cP := W_hid cP
    replace cR := W_hid cR
    clear cLi
    go_enter Tryz.func19, Tryz.ntmps19
    go_wp2_with fail
    refine wp_region_held_drew (S := (fun w' => Blk w' w.heap.size 40 [.int .i64 kd, .string s, .string t, .int .i64 n])) (by kernel_rfl) hD.out.x (fun hHeld => ?_)
    refine wpAnyH_take (i := 0) (v := .pointer (some ⟨tg, 0, none⟩)) rfl (by kernel_rfl) (by kernel_rfl) (by kernel_rfl) (fun _ _ _ h => h) (Or.inl ⟨by rfl, fun w0 s1 => ?_⟩) hHeld ?_
    · go_simp
    try simp only [Act.put, List.setIfInBounds_toArray, List.set_cons_zero, List.set_cons_succ, List.getElem_toArray, List.getElem_cons_zero, List.getElem_cons_succ]
    refine wpAnyH_take (i := 1) (v := .pointer (some ⟨w.heap.size, 1, none⟩)) rfl (by kernel_rfl) (by kernel_rfl) (by kernel_rfl) (fun _ _ _ h => h) (Or.inl ⟨by rfl, fun w0 s1 => ?_⟩) hHeld ?_
    · go_simp
    try simp only [Act.put, List.setIfInBounds_toArray, List.set_cons_zero, List.set_cons_succ, List.getElem_toArray, List.getElem_cons_zero, List.getElem_cons_succ]
    refine wpAnyH_take (i := 2) (v := .string s) rfl (by kernel_rfl) (by kernel_rfl) (by kernel_rfl) (fun _ _ _ h => h) (Or.inl ⟨by rfl, fun w0 s1 => ?_⟩) hHeld ?_
    · (have q := Blk.cell (j := 1) s1 rfl; go_simp)
    try simp only [Act.put, List.setIfInBounds_toArray, List.set_cons_zero, List.set_cons_succ, List.getElem_toArray, List.getElem_cons_zero, List.getElem_cons_succ]
    refine wpAnyH_take (i := 4) (v := .pointer (some ⟨rt, 0, none⟩)) rfl (by kernel_rfl) (by kernel_rfl) (by kernel_rfl) (fun _ _ _ h => h) (Or.inl ⟨by rfl, fun w0 s1 => ?_⟩) hHeld ?_
    · go_simp
    try simp only [Act.put, List.setIfInBounds_toArray, List.set_cons_zero, List.set_cons_succ, List.getElem_toArray, List.getElem_cons_zero, List.getElem_cons_succ]
    refine wpAnyH_take (i := 5) (v := .pointer (some ⟨w.heap.size, 1, none⟩)) rfl (by kernel_rfl) (by kernel_rfl) (by kernel_rfl) (fun _ _ _ h => h) (Or.inl ⟨by rfl, fun w0 s1 => ?_⟩) hHeld ?_
    · go_simp
    try simp only [Act.put, List.setIfInBounds_toArray, List.set_cons_zero, List.set_cons_succ, List.getElem_toArray, List.getElem_cons_zero, List.getElem_cons_succ]
    refine wpAnyH_take (i := 6) (v := .string s) rfl (by kernel_rfl) (by kernel_rfl) (by kernel_rfl) (fun _ _ _ h => h) (Or.inl ⟨by rfl, fun w0 s1 => ?_⟩) hHeld ?_
    · (have q := Blk.cell (j := 1) s1 rfl; go_simp)
    try simp only [Act.put, List.setIfInBounds_toArray, List.set_cons_zero, List.set_cons_succ, List.getElem_toArray, List.getElem_cons_zero, List.getElem_cons_succ]
    refine wpAnyH_ready (rs := [3]) (by kernel_rfl) (by simp) ?_
    refine AllReadyH.cons rfl (fun K hK => ?_) AllReadyH.nil
    go_simp
    refine (cP.out _ (hD.out.drew hB2)).mono ?_
    rintro e w1 ⟨rfl, hD1⟩
    replace hD1 := W_hid hD1
    refine hK.out _ _ hD1.out.x (fun hHeld1 => ?_)
    clear hK K
    try simp only [Act.put, List.setIfInBounds_toArray, List.set_cons_zero, List.set_cons_succ, List.getElem_toArray, List.getElem_cons_zero, List.getElem_cons_succ]
    refine wpAnyH_ready (rs := [7]) (by kernel_rfl) (by simp) ?_
    refine AllReadyH.cons rfl (fun K hK => ?_) AllReadyH.nil
    go_simp
    refine (cR.out _ hD1.out).mono ?_
    rintro e w2 ⟨rfl, hD2⟩
    replace hD2 := W_hid hD2
    refine hK.out _ _ hD2.out.x (fun hHeld2 => ?_)
    clear hK K
    try simp only [Act.put, List.setIfInBounds_toArray, List.set_cons_zero, List.set_cons_succ, List.getElem_toArray, List.getElem_cons_zero, List.getElem_cons_succ]
    refine wpAnyH_take (i := 8) (v := .bool true) rfl (by kernel_rfl) (by kernel_rfl) (by kernel_rfl) (fun _ _ _ h => h) (Or.inl ⟨by rfl, fun w0 s1 => ?_⟩) hHeld2 ?_
    · go_simp
    try simp only [Act.put, List.setIfInBounds_toArray, List.set_cons_zero, List.set_cons_succ, List.getElem_toArray, List.getElem_cons_zero, List.getElem_cons_succ]
    refine wpAnyH_take (i := 9) (v := .bool true) rfl (by kernel_rfl) (by kernel_rfl) (by kernel_rfl) (fun _ _ _ h => h) (Or.inl ⟨by rfl, fun w0 s1 => ?_⟩) hHeld2 ?_
    · go_simp
    try simp only [Act.put, List.setIfInBounds_toArray, List.set_cons_zero, List.set_cons_succ, List.getElem_toArray, List.getElem_cons_zero, List.getElem_cons_succ]
    refine wpAnyH_done (by kernel_rfl) ?_ _
    go_wp2_with fail
    go_ret
    exact ⟨rfl, S', D', .inr (.inr (.inr (.inr (.inl hTn)))), hD2.out.p, hD2.out.r, hD2.out.b⟩
  · obtain ⟨r, S', D', hTn, cP, cR⟩ := both_rename (b1 := b1) (b2 := b2) (tg := tg) (sg := sg) (mb := mb) (rt := rt) (rg := rg) (I := I) (L := L) (B := B) (q := q) (c1 := c1) (c2 := c2) (S := S) (D := D) (xg := w.heap.size) (xl := [.int .i64 kd, .string s, .string t, .int .i64 n]) (w0 := w) (B0 := B0) hB1 hB2 hti hf hI hL hq hc1 hc2 s t hs ht
    replace cP := W_hid cP
    replace cR := W_hid cR
    clear cLi
    go_enter Tryz.func19, Tryz.ntmps19
    go_wp2_with fail
    refine wp_region_held_drew (S := (fun w' => Blk w' w.heap.size 40 [.int .i64 kd, .string s, .string t, .int .i64 n])) (by kernel_rfl) hD.out.x (fun hHeld => ?_)
    refine wpAnyH_take (i := 0) (v := .pointer (some ⟨tg, 0, none⟩)) rfl (by kernel_rfl) (by kernel_rfl) (by kernel_rfl) (fun _ _ _ h => h) (Or.inl ⟨by rfl, fun w0 s1 => ?_⟩) hHeld ?_
    · go_simp
    try simp only [Act.put, List.setIfInBounds_toArray, List.set_cons_zero, List.set_cons_succ, List.getElem_toArray, List.getElem_cons_zero, List.getElem_cons_succ]
    refine wpAnyH_take (i := 1) (v := .pointer (some ⟨w.heap.size, 1, none⟩)) rfl (by kernel_rfl) (by kernel_rfl) (by kernel_rfl) (fun _ _ _ h => h) (Or.inl ⟨by rfl, fun w0 s1 => ?_⟩) hHeld ?_
    · go_simp
    try simp only [Act.put, List.setIfInBounds_toArray, List.set_cons_zero, List.set_cons_succ, List.getElem_toArray, List.getElem_cons_zero, List.getElem_cons_succ]
    refine wpAnyH_take (i := 2) (v := .string s) rfl (by kernel_rfl) (by kernel_rfl) (by kernel_rfl) (fun _ _ _ h => h) (Or.inl ⟨by rfl, fun w0 s1 => ?_⟩) hHeld ?_
    · (have q := Blk.cell (j := 1) s1 rfl; go_simp)
    try simp only [Act.put, List.setIfInBounds_toArray, List.set_cons_zero, List.set_cons_succ, List.getElem_toArray, List.getElem_cons_zero, List.getElem_cons_succ]
    refine wpAnyH_take (i := 3) (v := .pointer (some ⟨w.heap.size, 2, none⟩)) rfl (by kernel_rfl) (by kernel_rfl) (by kernel_rfl) (fun _ _ _ h => h) (Or.inl ⟨by rfl, fun w0 s1 => ?_⟩) hHeld ?_
    · go_simp
    try simp only [Act.put, List.setIfInBounds_toArray, List.set_cons_zero, List.set_cons_succ, List.getElem_toArray, List.getElem_cons_zero, List.getElem_cons_succ]
    refine wpAnyH_take (i := 4) (v := .string t) rfl (by kernel_rfl) (by kernel_rfl) (by kernel_rfl) (fun _ _ _ h => h) (Or.inl ⟨by rfl, fun w0 s1 => ?_⟩) hHeld ?_
    · (have q := Blk.cell (j := 2) s1 rfl; go_simp)
    try simp only [Act.put, List.setIfInBounds_toArray, List.set_cons_zero, List.set_cons_succ, List.getElem_toArray, List.getElem_cons_zero, List.getElem_cons_succ]
    refine wpAnyH_take (i := 6) (v := .pointer (some ⟨rt, 0, none⟩)) rfl (by kernel_rfl) (by kernel_rfl) (by kernel_rfl) (fun _ _ _ h => h) (Or.inl ⟨by rfl, fun w0 s1 => ?_⟩) hHeld ?_
    · go_simp
    try simp only [Act.put, List.setIfInBounds_toArray, List.set_cons_zero, List.set_cons_succ, List.getElem_toArray, List.getElem_cons_zero, List.getElem_cons_succ]
    refine wpAnyH_take (i := 7) (v := .pointer (some ⟨w.heap.size, 1, none⟩)) rfl (by kernel_rfl) (by kernel_rfl) (by kernel_rfl) (fun _ _ _ h => h) (Or.inl ⟨by rfl, fun w0 s1 => ?_⟩) hHeld ?_
    · go_simp
    try simp only [Act.put, List.setIfInBounds_toArray, List.set_cons_zero, List.set_cons_succ, List.getElem_toArray, List.getElem_cons_zero, List.getElem_cons_succ]
    refine wpAnyH_take (i := 8) (v := .string s) rfl (by kernel_rfl) (by kernel_rfl) (by kernel_rfl) (fun _ _ _ h => h) (Or.inl ⟨by rfl, fun w0 s1 => ?_⟩) hHeld ?_
    · (have q := Blk.cell (j := 1) s1 rfl; go_simp)
    try simp only [Act.put, List.setIfInBounds_toArray, List.set_cons_zero, List.set_cons_succ, List.getElem_toArray, List.getElem_cons_zero, List.getElem_cons_succ]
    refine wpAnyH_take (i := 9) (v := .pointer (some ⟨w.heap.size, 2, none⟩)) rfl (by kernel_rfl) (by kernel_rfl) (by kernel_rfl) (fun _ _ _ h => h) (Or.inl ⟨by rfl, fun w0 s1 => ?_⟩) hHeld ?_
    · go_simp
    try simp only [Act.put, List.setIfInBounds_toArray, List.set_cons_zero, List.set_cons_succ, List.getElem_toArray, List.getElem_cons_zero, List.getElem_cons_succ]
    refine wpAnyH_take (i := 10) (v := .string t) rfl (by kernel_rfl) (by kernel_rfl) (by kernel_rfl) (fun _ _ _ h => h) (Or.inl ⟨by rfl, fun w0 s1 => ?_⟩) hHeld ?_
    · (have q := Blk.cell (j := 2) s1 rfl; go_simp)
    try simp only [Act.put, List.setIfInBounds_toArray, List.set_cons_zero, List.set_cons_succ, List.getElem_toArray, List.getElem_cons_zero, List.getElem_cons_succ]
    refine wpAnyH_ready (rs := [5]) (by kernel_rfl) (by simp) ?_
    refine AllReadyH.cons rfl (fun K hK => ?_) AllReadyH.nil
    go_simp
    refine (cP.out _ (hD.out.drew hB2)).mono ?_
    rintro e w1 ⟨rfl, hD1⟩
    replace hD1 := W_hid hD1
    refine hK.out _ _ hD1.out.x (fun hHeld1 => ?_)
    clear hK K
    try simp only [Act.put, List.setIfInBounds_toArray, List.set_cons_zero, List.set_cons_succ, List.getElem_toArray, List.getElem_cons_zero, List.getElem_cons_succ]
    refine wpAnyH_ready (rs := [11]) (by kernel_rfl) (by simp) ?_
    refine AllReadyH.cons rfl (fun K hK => ?_) AllReadyH.nil
    go_simp
    refine (cR.out _ hD1.out).mono ?_
    rintro e w2 ⟨rfl, hD2⟩
    replace hD2 := W_hid hD2
    refine hK.out _ _ hD2.out.x (fun hHeld2 => ?_)
    clear hK K
    try simp only [Act.put, List.setIfInBounds_toArray, List.set_cons_zero, List.set_cons_succ, List.getElem_toArray, List.getElem_cons_zero, List.getElem_cons_succ]
    refine wpAnyH_take (i := 12) (v := .bool true) rfl (by kernel_rfl) (by kernel_rfl) (by kernel_rfl) (fun _ _ _ h => h) (Or.inl ⟨by rfl, fun w0 s1 => ?_⟩) hHeld2 ?_
    · go_simp
    try simp only [Act.put, List.setIfInBounds_toArray, List.set_cons_zero, List.set_cons_succ, List.getElem_toArray, List.getElem_cons_zero, List.getElem_cons_succ]
    refine wpAnyH_take (i := 13) (v := .bool true) rfl (by kernel_rfl) (by kernel_rfl) (by kernel_rfl) (fun _ _ _ h => h) (Or.inl ⟨by rfl, fun w0 s1 => ?_⟩) hHeld2 ?_
    · go_simp
    try simp only [Act.put, List.setIfInBounds_toArray, List.set_cons_zero, List.set_cons_succ, List.getElem_toArray, List.getElem_cons_zero, List.getElem_cons_succ]
    refine wpAnyH_done (by kernel_rfl) ?_ _
    go_wp2_with fail
    go_ret
    exact ⟨rfl, S', D', .inr (.inr (.inr (.inr (.inr hTn)))), hD2.out.p, hD2.out.r, hD2.out.b⟩
  · obtain ⟨a, r, cP, cR⟩ := both_find (b1 := b1) (b2 := b2) (tg := tg) (sg := sg) (mb := mb) (rt := rt) (rg := rg) (I := I) (L := L) (B := B) (q := q) (c1 := c1) (c2 := c2) (S := S) (D := D) (xg := w.heap.size) (xl := [.int .i64 kd, .string s, .string t, .int .i64 n]) (w0 := w) (B0 := B0) hB2 s hs
    replace cP := W_hid cP
    replace cR := W_hid cR
    clear cLi
    go_enter Tryz.func19, Tryz.ntmps19
    go_wp2_with fail
    refine (cP.out _ hD.out).mono ?_
    rintro e w1 ⟨rfl, hD1⟩
    replace hD1 := W_hid hD1
    have q1 := hD1.out.x.cell (j := 1) rfl
    have q2 := hD1.out.x.cell (j := 2) rfl
    have q3 := hD1.out.x.cell (j := 3) rfl
    go_wp2_with fail
    refine (cR.out _ hD1.out).mono ?_
    rintro e w2 ⟨rfl, hD2⟩
    replace hD2 := W_hid hD2
    go_wp2_with fail
    go_ret
    exact ⟨rfl, S, D, .inl rfl, hD2.out.p, hD2.out.r, hD2.out.b⟩
  · obtain ⟨r, X, hX, cP, cR⟩ := cLi.out
    replace cP := W_hid cP
    replace cR := W_hid cR
    clear cLi
    go_enter Tryz.func19, Tryz.ntmps19
    go_wp2_with fail
    refine (cP.out _ hD.out).mono ?_
    rintro e w1 ⟨v1, rfl, hN1, bb1⟩
    obtain ⟨a1, k1, rfl⟩ := hN1.form
    have hD1 := W_hid (hD.out.keep hB2 bb1)
    replace bb1 := W_hid bb1
    have q1 := hD1.out.x.cell (j := 1) rfl
    replace hN1 := W_hid hN1
    go_wp2_with fail
    refine (cR.out _ bb1.out).mono ?_
    rintro e w2 ⟨v2, rfl, hN2, bb2⟩
    obtain ⟨a2, k2, rfl⟩ := hN2.form
    have hD2 := W_hid (hD1.out.keep hB2 bb2)
    have cS := W_hid (rSame_yes _ _ X w2 hX (hN1.out.keep bb2) hN2)
    clear bb2 hN2 q1
    go_wp2_with fail
    refine cS.out.mono ?_
    rintro e w3 ⟨rfl, bb3⟩
    have hD3 := W_hid ((hD2.out.keep hB2 bb3).more (Nat.le_succ _) (Nat.le_add_right c2 2))
    clear bb3
    go_wp2_with fail
    go_ret
    exact ⟨rfl, S, D, .inl rfl, hD3.out.p, hD3.out.r, hD3.out.b⟩
end
end RN
end Go.Proofs.YtmnmheocmcmpmaaGreat

namespace Go.Proofs.YtmnmheocmcmpmaaGreat
open Go.ChangeShapes Go.WideShapes Go.ChangeAt Go.RowKit
set_option linter.unusedVariables false
set_option linter.unusedSimpArgs false
namespace RN
open IN (Keeps)
open NT (Dr Ds er nu findR)
section
variable {base rg I B L : Nat}
set_option maxRecDepth 100000 in
set_option maxHeartbeats 8000000 in
theorem rNewT (w : World) (h : IN.RS base w rg (I : Int) (B : Int) (L : Int) (IN.lst (fun _ => none) I)) (hI1 : 1 ≤ I) (hI : I ≤ 4096) :
    Calls Tryz.prog 18 #[.pointer (some ⟨rg, 0, none⟩)] w fun e w' => ∃ rt, e = .returned (.tuple #[.pointer (some ⟨rt, 0, none⟩), .int .i64 0]) ∧ RW base rt rg I B L 0 NT.Sn NT.D0 (kap NT.D0) w' ∧ Keeps base UT w w' := by
  have hnil : IN.lst (fun _ => none) I = [] := List.eq_nil_iff_forall_not_mem.2 fun x hx => by have := (IN.mem_lst.1 hx).2.2; cases this
  have hlow : IN.Low (fun _ => none) 1 := ⟨Nat.le_refl _, rfl, fun m a b => by omega⟩
  have cM := IN.rMake_yes 2 1 w hI h (by unfold IN.mkR; rw [hnil, if_pos (.inr rfl), if_pos (by simp only [List.length_nil]; omega)]) hlow hI1
  rw [hnil] at h
  obtain ⟨z3, z4, z5, z6, v, q, hM, hF⟩ := h
  have hq : q.length = 0 := hF.len
  obtain ⟨ao, cap, hv⟩ := Own.form hM.row
  rw [hq] at hv
  subst hv
  have c7 := hM.box.cell (j := 7) rfl
  have hlw := W_hid hM.low
  replace cM := W_hid cM
  clear hM hF hnil
  go_enter Tryz.func18, Tryz.ntmps18
  go_wp2_with fail
  refine cM.out.mono ?_
  rintro e w1 ⟨rfl, hR, hK⟩
  have hb1 := (Below.refl w1.heap.size w1).alloc (Nat.le_refl _) (.cells #[.int .i64 1, .int .i64 1, .slice none 0 0] 115)
  have hb2 := hb1.alloc hb1.size (.cells #[.pointer (some ⟨rg, 0, none⟩), .slice (some ⟨w1.heap.size, 0, none⟩) 1 1] 118)
  have hsz : base ≤ w1.heap.size := Nat.le_trans hlw.out hK.size
  have hdir := (Blk.new w1 115 [.int .i64 1, .int .i64 1, .slice none 0 0] rfl).alloc (.cells #[.pointer (some ⟨rg, 0, none⟩), .slice (some ⟨w1.heap.size, 0, none⟩) 1 1] 118)
  have hbox := Blk.new (w1.alloc (.cells #[.int .i64 1, .int .i64 1, .slice none 0 0] 115)) 118 [.pointer (some ⟨rg, 0, none⟩), .slice (some ⟨w1.heap.size, 0, none⟩) 1 1] rfl
  have hD0 : toD [⟨1, 1, []⟩] = NT.D0 := by
    funext m
    rw [toD_cons]
    unfold NT.D0
    by_cases e : m = 1
    · rw [if_pos e.symm, if_pos e]; rfl
    · rw [if_neg (fun e2 => e e2.symm), if_neg e]; rfl
  have hfin : RW base (w1.alloc (.cells #[.int .i64 1, .int .i64 1, .slice none 0 0] 115)).heap.size rg I B L 0 NT.Sn NT.D0 (kap NT.D0) ((w1.alloc (.cells #[.int .i64 1, .int .i64 1, .slice none 0 0] 115)).alloc (.cells #[.pointer (some ⟨rg, 0, none⟩), .slice (some ⟨w1.heap.size, 0, none⟩) 1 1] 118)) := by
    refine ⟨⟨[⟨1, 1, []⟩], ⟨⟨_, [⟨1, 1, .slice none 0 0⟩], ⟨hbox, ⟨rfl, .inr ⟨w1.heap.size, 1, _, rfl, hsz, hdir, Nat.le_refl _, by decide, rfl, rfl⟩⟩, Nat.le_trans hsz hb1.size⟩, ⟨⟨rfl, rfl, NE.nil _⟩, trivial⟩⟩, ⟨by decide, fun x hx => ?_, fun x hx => ?_⟩⟩, ⟨hD0, by simp, fun x hx y hy => ?_⟩, by simp, fun x hx => ?_⟩, hR.keep hb2⟩
    · rw [List.mem_singleton.1 hx]; exact Nat.zero_le _
    · rw [List.mem_singleton.1 hx]; intro y hy; cases hy
    · rw [List.mem_singleton.1 hx] at hy; cases hy
    · rw [List.mem_singleton.1 hx]; exact Nat.zero_le _
  have hK2 : Keeps base UT w _ := (keeps_dt hK).trans (Keeps.new hb2 hsz)
  have hfin := W_hid (And.intro hfin hK2)
  clear hK2 hD0 hbox hdir hb2 hb1 hR hK c7
  go_wp2_with fail
  go_ret2
  refine ⟨_, rfl, ?_, hfin.out.2⟩
  have hh := hfin.out.1
  rw [show (w1.alloc (.cells #[.int .i64 1, .int .i64 1, .slice none 0 0] 115)).heap.size = w1.heap.size + 1 from by simp only [World.alloc, Array.size_push]] at hh
  exact hh
end
end RN
end Go.Proofs.YtmnmheocmcmpmaaGreat

namespace Go.Proofs.YtmnmheocmcmpmaaGreat
open Go.ChangeShapes Go.WideShapes Go.ChangeAt Go.RowKit Go.Maps
set_option linter.unusedVariables false
set_option linter.unusedSimpArgs false
namespace NT
end NT
end Go.Proofs.YtmnmheocmcmpmaaGreat

namespace Go.Proofs.YtmnmheocmcmpmaaGreat
open Go.ChangeShapes Go.WideShapes Go.ChangeAt Go.RowKit
open Go.ChangeMaps (open_string shut_string)
set_option linter.unusedVariables false
set_option linter.unusedSimpArgs false
namespace NT
open IN (Keeps cap7)
theorem res_caps {fn : Func} {r : Tmp} (hres : fn.results = #[.cell r 25]) (tmps : Array Value) (w : World) {g : Nat} {a b c d e f h : Int} (hr : tmps.getD r undef = .pointer (some ⟨g, 0, none⟩)) (hB : Blk w g 25 [.int .i64 a, .int .i64 b, .int .i64 c, .int .i64 d, .int .i64 e, .int .i64 f, .int .i64 h]) :
    (results fn tmps).run Tryz.prog w = .ok (cap7 a b c d e f h) w := by
  have h0 := hB.cell (j := 0) rfl
  have h1 := hB.cell (j := 1) rfl
  have h2 := hB.cell (j := 2) rfl
  have h3 := hB.cell (j := 3) rfl
  have h4 := hB.cell (j := 4) rfl
  have h5 := hB.cell (j := 5) rfl
  have h6 := hB.cell (j := 6) rfl
  rw [Array.getD_eq_getD_getElem?] at hr
  simp [results, hres, go_sem, hr, h0, h1, h2, h3, h4, h5, h6, cap7]
set_option maxRecDepth 100000 in
set_option maxHeartbeats 2000000 in
theorem caps_any (w : World) : Calls Tryz.prog 59 #[] w fun e w' => e = .returned (cap7 12 1000 3 0 0 0 0) ∧ Below w.heap.size w w' := by
  go_enter Tryz.func59, Tryz.ntmps59
  go_wp2_with fail
  exact bodyPost_ret (res_caps Tryz.results59 _ _ rfl (Blk.new w _ [.int .i64 12, .int .i64 1000, .int .i64 3, .int .i64 0, .int .i64 0, .int .i64 0, .int .i64 0] rfl)) rfl ⟨rfl, (Below.refl _ w).alloc (Nat.le_refl _) _⟩
def S0 : Int → Option IN.Nd := IN.upd (fun _ => none) 1 (some (IN.newNd 2))
set_option maxRecDepth 100000 in
set_option maxHeartbeats 4000000 in
theorem opened12 (a b c : Int) (w : World) (hr : IN.Right a b c) : Calls Tryz.prog 16 #[cap7 a b c 0 0 0 0] w fun e w' => ∃ base sg mb tg A, e = .returned (.tuple #[.pointer (some ⟨sg, 0, none⟩), .pointer (some ⟨tg, 0, none⟩), .bool true]) ∧ w.heap.size ≤ base ∧ (∃ M', IN.PS base w' sg mb M' a.toNat c.toNat b.toNat 0 S0) ∧ TM base w' tg sg mb A D0 ∧ Below w.heap.size w w' := by
  have b0 : Below w.heap.size w (w.alloc (.cells #[.int .i64 a, .int .i64 b, .int .i64 c, .int .i64 0, .int .i64 0, .int .i64 0, .int .i64 0] 25)) := (Below.refl _ w).alloc (Nat.le_refl _) _
  have cN := W_hid (IN.New_yes a b c 0 0 0 0 (w.alloc (.cells #[.int .i64 a, .int .i64 b, .int .i64 c, .int .i64 0, .int .i64 0, .int .i64 0, .int .i64 0] 25)) hr)
  have hr2 := W_hid hr
  unfold cap7 at cN ⊢
  clear hr
  go_enter Tryz.func16, Tryz.ntmps16
  go_wp2_with fail
  refine cN.out.mono ?_
  rintro e w1 ⟨sg, mb, M, rfl, hP, b1⟩
  have cT := W_hid (New_yes w1 hP (by have := hr2.out; unfold IN.Right at this; omega) (by have := hr2.out; unfold IN.Right at this; omega))
  have B1 := W_hid (b0.trans (b1.mono b0.size))
  have hlow := W_hid (show w.heap.size ≤ (w.alloc (.cells #[.int .i64 a, .int .i64 b, .int .i64 c, .int .i64 0, .int .i64 0, .int .i64 0, .int .i64 0] 25)).heap.size from b0.size)
  clear hP b1 b0 cN
  go_wp2_with fail
  refine cT.out.mono ?_
  rintro e w2 ⟨tg, A, rfl, hPS, hT, hK⟩
  have hfin := W_hid (And.intro hPS (And.intro hT (B1.out.trans ((hK.below (Nat.le_refl _)).mono hlow.out))))
  clear hPS hT hK cT
  go_wp2_with fail
  go_ret3
  exact ⟨_, sg, mb, tg, A, rfl, hlow.out, hfin.out⟩
theorem mkR_zero {I : Nat} {S : Int → Option IN.Nd} {kd : Int} (hk : kd = 1 ∨ kd = 2) (hl : (IN.lst S I).length < I) : IN.mkR I S kd = 0 := by
  unfold IN.mkR
  rw [if_pos hk, if_pos hl]
theorem low_one {S : Int → Option IN.Nd} (n : Nat) (h1 : 1 ≤ n) (h2 : S (n : Int) = none) (h3 : ∀ m : Nat, 1 ≤ m → m < n → S (m : Int) ≠ none) : IN.Low S n := ⟨h1, h2, h3⟩
theorem below_of {B base : Nat} {T : Nat → Obj → Prop} {w w' w2 : World} (h : Below B w w') (hK : Keeps base T w' w2) (hB : B ≤ base) : Below B w w2 := h.trans (hK.below hB)
def s1 : ByteArray := ⟨#[100]⟩
def s2 : ByteArray := ⟨#[47, 100, 47, 102]⟩
def s3 : ByteArray := ⟨#[100, 47, 46, 46, 47, 100, 47, 46, 47, 102]⟩
def Da : Ds := mkD D0 1 ⟨#[100]⟩ 2 2
def Sa : Int → Option IN.Nd := IN.upd S0 2 (some (IN.newNd 2))
def Db : Ds := mkD Da 2 ⟨#[102]⟩ 3 1
def Sb : Int → Option IN.Nd := IN.upd Sa 3 (some (IN.newNd 1))
theorem p1 : PM.perr s1 = 0 := by decide
theorem p2 : PM.perr s2 = 0 := by decide
theorem p3 : PM.perr s3 = 0 := by decide
theorem q1 : PM.pN s1 = [⟨#[100]⟩] := by decide
theorem q2 : PM.pN s2 = [⟨#[100]⟩, ⟨#[102]⟩] := by decide
theorem q3 : PM.pN s3 = [⟨#[100]⟩, ⟨#[46, 46]⟩, ⟨#[100]⟩, ⟨#[46]⟩, ⟨#[102]⟩] := by decide
theorem v1 : vacant D0 2 s1 = .ok 1 := by unfold vacant; rw [q1]; rfl
theorem v2 : vacant Da 1 s2 = .ok 2 := by unfold vacant; rw [q2]; rfl
theorem f3 : findR Db s3 = .ok 3 := by unfold findR; rw [if_pos p3, q3]; rfl
theorem mk_last (D : Ds) (p : Int) (s k : ByteArray) (n kd : Int) (h : last (PM.pN s) = k) : mkD D p (last (PM.pN s)) n kd = mkD D p k n kd := by rw [h]
set_option maxRecDepth 100000 in
set_option maxHeartbeats 8000000 in
theorem shown12 (w : World) : Calls Tryz.prog 14 #[] w fun e w' => e = .returned (.bool true) ∧ Below w.heap.size w w' := by
  have cC := W_hid (caps_any w)
  have cO := fun w => W_hid (opened12 12 1000 3 w (by unfold IN.Right; omega))
  go_enter Tryz.func14, Tryz.ntmps14
  go_wp2_with fail
  refine cC.out.mono ?_
  rintro e w1 ⟨rfl, b1⟩
  have B1 := W_hid b1
  clear b1 cC
  go_wp2_with fail
  refine (cO _).out.mono ?_
  rintro e w2 ⟨base, sg, mb, tg, A, rfl, hbase, ⟨M, hP⟩, hT, b2⟩
  have B2 := W_hid (B1.out.trans (b2.mono B1.out.size))
  have hbw : w.heap.size ≤ base := Nat.le_trans B1.out.size hbase
  have cM := Make_dir 12 3 1000 0 M S0 s1 (by decide) w2 hT hP p1 1 v1 ⟨1, []⟩ rfl (by decide) 2 (mkR_zero (.inr rfl) (by decide)) (low_one 2 (by decide) rfl fun m h1 h2 => by
    obtain rfl : m = 1 := by omega
    simp [S0, IN.upd]) (by decide) (by decide) rfl (fun m d hd => by
    unfold D0 at hd
    split at hd
    · cases hd
      exact ⟨by decide, fun k => by simp [look]⟩
    · cases hd)
  rw [mk_last D0 1 s1 ⟨#[100]⟩ _ _ (by rw [q1]; rfl)] at cM
  replace cM := W_hid cM
  have e1 : s1 = ⟨#[100]⟩ := rfl
  rw [e1] at cM
  clear b2 hP hT B1 cO hbase
  go_wp2_with fail
  refine cM.out.mono ?_
  rintro e w3 ⟨rfl, ⟨M3, hP3⟩, ⟨A3, hT3⟩, hK3⟩
  have B3 := W_hid (below_of B2.out hK3 hbw)
  have cM2 := Make_file 12 3 1000 0 M3 Sa s2 (by decide) w3 hT3 hP3 p2 2 v2 ⟨1, []⟩ rfl (by decide) 3 (mkR_zero (.inl rfl) (by decide)) (low_one 3 (by decide) rfl fun m h1 h2 => by
    rcases (show m = 1 ∨ m = 2 by omega) with rfl | rfl <;> simp [Sa, S0, IN.upd]) (by decide) (by decide) rfl
  rw [mk_last _ 2 s2 ⟨#[102]⟩ _ _ (by rw [q2]; rfl)] at cM2
  replace cM2 := W_hid cM2
  have e2 : s2 = ⟨#[47, 100, 47, 102]⟩ := rfl
  rw [e2] at cM2
  clear hP3 hT3 hK3 B2 cM
  go_wp2_with fail
  refine cM2.out.mono ?_
  rintro e w4 ⟨rfl, ⟨M4, hP4⟩, hT4, hK4⟩
  have B4 := W_hid (below_of B3.out hK4 hbw)
  have cF := Find_any s3 (by decide) w4 hT4
  have e4 : findR (mkD (mkD D0 1 ⟨#[100]⟩ ((2 : Nat) : Int) 2) 2 ⟨#[102]⟩ ((3 : Nat) : Int) 1) s3 = .ok 3 := f3
  rw [e4] at cF
  simp only [nu, er] at cF
  have e3 : s3 = ⟨#[100, 47, 46, 46, 47, 100, 47, 46, 47, 102]⟩ := rfl
  rw [e3] at cF
  replace cF := W_hid cF
  clear hP4 hT4 hK4 B3 cM2
  go_wp2_with fail
  refine cF.out.mono ?_
  rintro e w5 ⟨rfl, b5⟩
  have B5 := W_hid (B4.out.trans (b5.mono B4.out.size))
  clear b5 cF B4
  go_wp2_with fail
  go_ret
  exact ⟨rfl, B5.out⟩
end NT
end Go.Proofs.YtmnmheocmcmpmaaGreat

namespace Go.Proofs.YtmnmheocmcmpmaaGreat
open Go.ChangeShapes Go.WideShapes Go.ChangeAt Go.RowKit
set_option linter.unusedVariables false
set_option linter.unusedSimpArgs false
namespace IN
theorem stcl_get : ∀ (l : List (Nat × Nd)) (i : Nat) (hi : i < l.length) (m : Nat), m < 6 → (stcl l)[i * 6 + m]? = (stl (l[i].1 : Int) l[i].2)[m]?
  | [], i, hi, _, _ => by simp at hi
  | x :: r, 0, _, m, hm => by
    simp only [stcl, List.flatMap_cons]
    rw [List.getElem?_append_left (by simp [stl]; omega)]
    simp
  | x :: r, i + 1, hi, m, hm => by
    have ih := stcl_get r i (by simpa using hi) m hm
    simp only [stcl, List.flatMap_cons] at ih ⊢
    rw [List.getElem?_append_right (by simp [stl]; omega)]
    rw [show (i + 1) * 6 + m - (stl (x.1 : Int) x.2).length = i * 6 + m by simp [stl]; omega, ih]
    rfl
theorem own_at {w : World} {base : Nat} {v : Value} {l : List (Nat × Nd)} (h : w.ownsRow base 49 6 v l.length (stcl l)) : ∃ ao cap, v = .slice ao l.length cap ∧ ∀ i (hi : i < l.length), ∃ blk, ao = some ⟨blk, 0, none⟩ ∧ blk < w.heap.size ∧ ∀ m u, (stl (l[i].1 : Int) l[i].2)[m]? = some u → w.cell? ⟨blk, i * 6 + m, none⟩ = some u := by
  rcases h.2 with ⟨rfl, h0⟩ | ⟨g, cap, cur, rfl, hb, hg, h1, h2, h3, h4⟩
  · have hl : l.length = 0 := by have := stcl_len l; rw [h0] at this; simp at this; omega
    skip
    exact ⟨none, 0, by rw [hl], fun i hi => by omega⟩
  · refine ⟨_, cap, rfl, fun i hi => ⟨g, rfl, lt_of_some hg, fun m u hu => ?_⟩⟩
    have hm : m < 6 := by
      rcases Nat.lt_or_ge m 6 with hlt | hge
      · exact hlt
      · rw [List.getElem?_eq_none (by simp [stl]; omega)] at hu; cases hu
    have := h.cells (g := g) rfl (i * 6 + m) u (by rw [stcl_get l i hi m hm]; exact hu)
    rw [Addr.add_lit, Nat.zero_add] at this
    exact this
end IN
end Go.Proofs.YtmnmheocmcmpmaaGreat

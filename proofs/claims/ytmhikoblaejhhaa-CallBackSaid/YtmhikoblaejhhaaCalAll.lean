/- Encode and Decode, the program's and the document's, whatever the arguments. -/
import Derived.Test.YtmhikoblaejhhaaCalEnc
import Derived.Test.YtmhikoblaejhhaaCalREnc
import Derived.Test.YtmhikoblaejhhaaCalPDec
import Derived.Test.YtmhikoblaejhhaaCalRDec
namespace Go.Proofs.Ytmhikoblaejhhaa
open Go.ChangeShapes Go.WideShapes Go.ChangeAt Go.RowKit Go.Maps
set_option linter.unusedVariables false
set_option linter.unusedSimpArgs false
set_option maxRecDepth 100000
namespace CA
theorem bs_mem {L : List UInt8} (h : L ∈ LS) : L = [116, 110] ∨ L = [110] ∨ L = [110, 110] ∨ L = [110, 116] ∨ L = [110, 110, 110] ∨ L = [116] ∨ L = [116, 116] ∨ L = [] := by
  simpa [LS] using h
theorem Enc_any (no n0 n1 n2 : Int) (s0 s1 : ByteArray) (h0 : -9223372036854775808 ≤ no) (h1 : no ≤ 9223372036854775807) (m0 : s0.size ≤ maxLen) (m1 : s1.size ≤ maxLen) (w : World) :
    Calls Try.prog 11 #[.agg (cl no n0 n1 n2 s0 s1).toArray] w fun e w' => e = .returned (.tuple #[.string (encS no [n0, n1, n2] [s0, s1]), .int .i64 (encE no [n0, n1, n2] [s0, s1])]) ∧ Below w.heap.size w w' := by
  cases h : shI no with
  | some l =>
    obtain ⟨x, hx, rfl⟩ := shI_LS h
    rcases bs_mem hx with rfl | rfl | rfl | rfl | rfl | rfl | rfl | rfl
    · exact enc_tn no n0 n1 n2 s0 s1 h h0 h1 m0 m1 w
    · exact enc_n no n0 n1 n2 s0 s1 h h0 h1 m0 m1 w
    · exact enc_nn no n0 n1 n2 s0 s1 h h0 h1 m0 m1 w
    · exact enc_nt no n0 n1 n2 s0 s1 h h0 h1 m0 m1 w
    · exact enc_nnn no n0 n1 n2 s0 s1 h h0 h1 m0 m1 w
    · exact enc_t no n0 n1 n2 s0 s1 h h0 h1 m0 m1 w
    · exact enc_tt no n0 n1 n2 s0 s1 h h0 h1 m0 m1 w
    · exact enc_o no n0 n1 n2 s0 s1 h h0 h1 m0 m1 w
  | none =>
    have hR : Hid (encS no [n0, n1, n2] [s0, s1] = ByteArray.empty ∧ encE no [n0, n1, n2] [s0, s1] = 10) := by
      refine W_hid ⟨?_, ?_⟩
      · unfold encS; rw [h]
      · unfold encE; rw [h]
    have hS : ∀ W : World, Calls Try.prog 9 #[.int .i64 no] W fun e w' => e = .returned (.tuple #[.string ByteArray.empty, .bool false]) ∧ Below W.heap.size W w' := fun W => by
      have := Shape_any no h0 h1 W
      rwa [h] at this
    replace hS := W_hid hS
    have bb : Below w.heap.size w (w.alloc (.cells (cl no n0 n1 n2 s0 s1).toArray 25)) := (Below.refl _ _).alloc (Nat.le_refl _) _
    clear h
    unfold cl at *
    replace bb := W_hid bb
    go_enter Try.func11, Try.ntmps11
    go_wp2_with fail
    refine (hS.out _).mono ?_
    rintro e w1 ⟨rfl, bel1⟩
    go_wp2_with fail
    go_ret2
    exact ⟨by rw [hR.out.1, hR.out.2]; rfl, bb.out.trans (bel1.mono bb.out.size)⟩
theorem rEnc_any (no n0 n1 n2 : Int) (s0 s1 : ByteArray) (h0 : -9223372036854775808 ≤ no) (h1 : no ≤ 9223372036854775807) (m0 : s0.size ≤ maxLen) (m1 : s1.size ≤ maxLen) (w : World) :
    Calls Try.prog 12 #[.agg (cl no n0 n1 n2 s0 s1).toArray] w fun e w' => e = .returned (.tuple #[.string (encS no [n0, n1, n2] [s0, s1]), .int .i64 (encE no [n0, n1, n2] [s0, s1])]) ∧ Below w.heap.size w w' := by
  cases h : shI no with
  | some l =>
    obtain ⟨x, hx, rfl⟩ := shI_LS h
    rcases bs_mem hx with rfl | rfl | rfl | rfl | rfl | rfl | rfl | rfl
    · exact renc_tn no n0 n1 n2 s0 s1 h h0 h1 m0 m1 w
    · exact renc_n no n0 n1 n2 s0 s1 h h0 h1 m0 m1 w
    · exact renc_nn no n0 n1 n2 s0 s1 h h0 h1 m0 m1 w
    · exact renc_nt no n0 n1 n2 s0 s1 h h0 h1 m0 m1 w
    · exact renc_nnn no n0 n1 n2 s0 s1 h h0 h1 m0 m1 w
    · exact renc_t no n0 n1 n2 s0 s1 h h0 h1 m0 m1 w
    · exact renc_tt no n0 n1 n2 s0 s1 h h0 h1 m0 m1 w
    · exact renc_o no n0 n1 n2 s0 s1 h h0 h1 m0 m1 w
  | none =>
    have hR : Hid (encS no [n0, n1, n2] [s0, s1] = ByteArray.empty ∧ encE no [n0, n1, n2] [s0, s1] = 10) := by
      refine W_hid ⟨?_, ?_⟩
      · unfold encS; rw [h]
      · unfold encE; rw [h]
    have hS : ∀ W : World, Calls Try.prog 10 #[.int .i64 no] W fun e w' => e = .returned (.tuple #[.string ByteArray.empty, .bool false]) ∧ W = w' := fun W => by
      have := rShape_any no h0 h1 W
      rwa [h] at this
    replace hS := W_hid hS
    have bb : Below w.heap.size w (w.alloc (.cells (cl no n0 n1 n2 s0 s1).toArray 25)) := (Below.refl _ _).alloc (Nat.le_refl _) _
    clear h
    unfold cl at *
    replace bb := W_hid bb
    go_enter Try.func12, Try.ntmps12
    go_wp2_with fail
    refine (hS.out _).mono ?_
    rintro e w1 ⟨rfl, hw1⟩
    subst hw1
    go_wp2_with fail
    go_ret2
    exact ⟨by rw [hR.out.1, hR.out.2]; rfl, bb.out⟩

theorem zc_new (w : World) (o : Obj) (ho : o = .cells zc.toArray 25) : Blk (w.alloc o) w.heap.size 25 zc := by subst ho; exact Blk.new w _ zc rfl

set_option maxRecDepth 100000 in
set_option maxHeartbeats 4000000 in
theorem Dec_any (s : ByteArray) (hs : s.size ≤ maxLen) (w : World) :
    Calls Try.prog 13 #[.string s] w fun e w' => e = .returned (.tuple #[.agg (decQ s).2.toArray, .int .i64 (decQ s).1]) ∧ Below w.heap.size w w' := by
  have hlen : s.data.toList.length = s.size := by rw [Array.length_toList]; rfl
  have hss : s.size ≤ 9223372036854775807 := by unfold maxLen at hs; exact hs
  by_cases hbig : 8192 < s.size
  · have hA : Hid (decQ s = (2, zc)) := W_hid (by unfold decQ; rw [if_pos (Or.inl hbig)])
    go_enter Try.func13, Try.ntmps13
    go_wp2_with fail
    refine bodyPost_ret (res_call rfl _ _ rfl (Blk.new w 25 [.int .i64 0, .int .i64 0, .int .i64 0, .int .i64 0, .string { data := #[] }, .string { data := #[] }] rfl)) rfl ⟨by rw [hA.out]; rfl, (Below.refl _ _).alloc (Nat.le_refl _) _⟩
  by_cases hsm : s.size < 8
  · have hA : Hid (decQ s = (2, zc)) := W_hid (by unfold decQ; rw [if_pos (Or.inr hsm)])
    have hk0 : nok s.data.toList 0 = false := by unfold nok; exact decide_eq_false (by omega)
    go_enter Try.func13, Try.ntmps13
    go_wp2_with (with_reducible show wpList _ _ _ _ _ _; refine wpList_bytes rfl _ rfl s rfl hs ?_; intro w1 hb c hBS bel1 hge hlt)
    have hres : Blk w1 w.heap.size 25 zc := (Blk.new w 25 zc rfl).keep bel1
    have bb : Below w.heap.size w w1 := ((Below.refl w.heap.size w).alloc (Nat.le_refl _) (.cells zc.toArray 25)).trans (Below.mono bel1 (by simp))
    have hrb : RB (w1.alloc (.cells #[.slice (some ⟨hb, 0, none⟩) s.size c, .int .i64 0, .bool false] 58)) w1.heap.size hb s.size c s.data.toList 0 false :=
      ⟨Blk.new w1 _ [.slice (some ⟨hb, 0, none⟩) s.size c, .int .i64 ((0 : Nat) : Int), .bool false] rfl, hBS.below ((Below.refl _ _).alloc (Nat.le_refl _) _) (Nat.le_refl _), by omega, Nat.zero_le _⟩
    have hres1 := hres.alloc (.cells #[.slice (some ⟨hb, 0, none⟩) s.size c, .int .i64 0, .bool false] 58)
    have bb1 := bb.alloc bb.size (.cells #[.slice (some ⟨hb, 0, none⟩) s.size c, .int .i64 0, .bool false] 58)
    have hrl := hres.lt
    refine (number_any hrb).mono ?_
    rintro e w2 ⟨rfl, hr2, two2⟩
    rw [hk0] at hr2
    have hres2 := hres1.two two2 (by omega) (by omega)
    have bb2 := bb1.trans (two2.below bb1.size (by omega) (by omega))
    have z2 := hr2.row.cell (j := 2) rfl
    have rz := hres2.fz
    have r0 := hres2.cell (j := 0) rfl
    have r1 := hres2.cell (j := 1) rfl
    have r2 := hres2.cell (j := 2) rfl
    have r3 := hres2.cell (j := 3) rfl
    have r4 := hres2.cell (j := 4) rfl
    have r5 := hres2.cell (j := 5) rfl
    replace hres2 := W_hid hres2
    replace bb2 := W_hid bb2
    clear hr2 two2 bb1 hres1 hrb bb hres bel1 hBS
    go_wp2_with fail
    refine bodyPost_ret (res_call rfl _ _ rfl (six_blk hres2.out _ _ _ _ _ _)) rfl ⟨by rw [hA.out]; rfl, six_below bb2.out (Nat.le_refl _) _ _ _ _ _ _⟩
  have hs1 : s.size ≤ 8192 := by omega
  have hs2 : 8 ≤ s.size := by omega
  obtain ⟨k, hk⟩ : ∃ k, num (s.data.toList.take 8) = k := ⟨_, rfl⟩
  cases h : shp k with
  | some L =>
    have hk25 : k ≤ 25 := Decidable.byContradiction fun hn => by rw [shp_out (by omega)] at h; cases h
    obtain ⟨x, hx, rfl⟩ := shI_LS (z := (k : Int)) (by rw [shI_nat]; exact h)
    rcases bs_mem hx with rfl | rfl | rfl | rfl | rfl | rfl | rfl | rfl
    · exact dec_tn s k h hk hk25 hs1 hs2 w
    · exact dec_n s k h hk hk25 hs1 hs2 w
    · exact dec_nn s k h hk hk25 hs1 hs2 w
    · exact dec_nt s k h hk hk25 hs1 hs2 w
    · exact dec_nnn s k h hk hk25 hs1 hs2 w
    · exact dec_t s k h hk hk25 hs1 hs2 w
    · exact dec_tt s k h hk hk25 hs1 hs2 w
    · exact dec_o s k h hk hk25 hs1 hs2 w
  | none =>
    have hA : Hid (decQ s = (10, zc)) := W_hid (by unfold decQ; rw [if_neg (by omega), hk, h])
    have hn0 : nvl s.data.toList 0 = k := by unfold nvl; rw [if_pos (by omega), List.drop_zero, hk]
    have hklt : k < 18446744073709551616 := by rw [← hn0]; exact nvl_lt _ _
    have hk0 : nok s.data.toList 0 = true := by unfold nok; exact decide_eq_true (by omega)
    clear hk
    replace h := W_hid h
    replace hlen := W_hid hlen
    go_enter Try.func13, Try.ntmps13
    go_wp2_with (with_reducible show wpList _ _ _ _ _ _; refine wpList_bytes rfl _ rfl s rfl hs ?_; intro w1 hb c hBS bel1 hge hlt)
    have hres : Blk w1 w.heap.size 25 zc := (Blk.new w 25 zc rfl).keep bel1
    have bb : Below w.heap.size w w1 := ((Below.refl w.heap.size w).alloc (Nat.le_refl _) (.cells zc.toArray 25)).trans (Below.mono bel1 (by simp))
    have hrb : RB (w1.alloc (.cells #[.slice (some ⟨hb, 0, none⟩) s.size c, .int .i64 0, .bool false] 58)) w1.heap.size hb s.size c s.data.toList 0 false :=
      ⟨Blk.new w1 _ [.slice (some ⟨hb, 0, none⟩) s.size c, .int .i64 ((0 : Nat) : Int), .bool false] rfl, hBS.below ((Below.refl _ _).alloc (Nat.le_refl _) _) (Nat.le_refl _), by omega, Nat.zero_le _⟩
    have hres1 := hres.alloc (.cells #[.slice (some ⟨hb, 0, none⟩) s.size c, .int .i64 0, .bool false] 58)
    have bb1 := bb.alloc bb.size (.cells #[.slice (some ⟨hb, 0, none⟩) s.size c, .int .i64 0, .bool false] 58)
    have hrl := hres.lt
    refine (number_any hrb).mono ?_
    rintro e w2 ⟨rfl, hr2, two2⟩
    rw [hn0]
    rw [hk0] at hr2
    have hres2 := hres1.two two2 (by omega) (by omega)
    have bb2 := bb1.trans (two2.below bb1.size (by omega) (by omega))
    have z2 := hr2.row.cell (j := 2) rfl
    replace hres2 := W_hid hres2
    replace bb2 := W_hid bb2
    clear hr2 two2 bb1 hres1 hrb bb hres bel1 hBS
    go_wp2_with fail
    refine (shapes_any w2).mono ?_
    rintro e w3 ⟨mb, rfl, hsm3, bel3⟩
    have hlk := hsm3.look_ok k hklt
    rw [h.out] at hlk
    simp only [sv, Option.getD_none, Option.isSome_none] at hlk
    have hres3 := (hres2.out.keep bel3).alloc (.cells #[.string ByteArray.empty] 45)
    have bb3 := (bb2.out.trans (bel3.mono bb2.out.size)).alloc (bb2.out.trans (bel3.mono bb2.out.size)).size (.cells #[.string ByteArray.empty] 45)
    have rz := hres3.fz
    have r0 := hres3.cell (j := 0) rfl
    have r1 := hres3.cell (j := 1) rfl
    have r2 := hres3.cell (j := 2) rfl
    have r3 := hres3.cell (j := 3) rfl
    have r4 := hres3.cell (j := 4) rfl
    have r5 := hres3.cell (j := 5) rfl
    replace hres3 := W_hid hres3
    replace bb3 := W_hid bb3
    clear hsm3 bel3 z2
    go_wp2_with fail
    refine bodyPost_ret (res_call rfl _ _ rfl (six_blk hres3.out _ _ _ _ _ _)) rfl ⟨by rw [hA.out]; rfl, six_below bb3.out (Nat.le_refl _) _ _ _ _ _ _⟩

set_option maxRecDepth 100000 in
set_option maxHeartbeats 4000000 in
theorem rDec_any (s : ByteArray) (hs : s.size ≤ maxLen) (w : World) :
    Calls Try.prog 14 #[.string s] w fun e w' => e = .returned (.tuple #[.agg (decQ s).2.toArray, .int .i64 (decQ s).1]) ∧ Below w.heap.size w w' := by
  have hlen : s.data.toList.length = s.size := by rw [Array.length_toList]; rfl
  have hss : s.size ≤ 9223372036854775807 := by unfold maxLen at hs; exact hs
  by_cases hout : 8192 < s.size ∨ s.size < 8
  · have hA : Hid (decQ s = (2, zc)) := W_hid (by unfold decQ; rw [if_pos hout])
    obtain ⟨v, hv⟩ : ∃ v, nvl s.data.toList 0 = v := ⟨_, rfl⟩
    obtain ⟨x, hx⟩ : ∃ x, nat_ s.data.toList 0 = x := ⟨_, rfl⟩
    have hk0 : nok s.data.toList 0 = decide (8 ≤ s.size) := by unfold nok; rw [Bool.eq_iff_iff, decide_eq_true_iff, decide_eq_true_iff]; omega
    rcases (by omega : 8192 < s.size ∧ 8 ≤ s.size ∨ s.size < 8) with ⟨hb1, hb2⟩ | hb
    all_goals
      have hk1 : nok s.data.toList 0 = _ := hk0.trans (by first | exact decide_eq_true hb2 | exact decide_eq_false (by omega))
      go_enter Try.func14, Try.ntmps14
      go_wp2_with (with_reducible show wpList _ _ _ _ _ _; refine wpList_bytes rfl _ rfl s rfl hs ?_; intro w1 hb c hBS bel1 hge hlt)
      have hres : Blk w1 w.heap.size 25 zc := (Blk.new w 25 zc rfl).keep bel1
      have bb : Below w.heap.size w w1 := ((Below.refl w.heap.size w).alloc (Nat.le_refl _) (.cells zc.toArray 25)).trans (Below.mono bel1 (by simp))
      refine (rTakeN_any _ _ _ _ 0 _ hBS (Nat.zero_le _)).mono ?_
      rintro e w2 ⟨rfl, bel2⟩
      rw [hv, hx, hk1]
      have hres2 := hres.keep bel2
      have bb2 := bb.trans (bel2.mono bb.size)
      have rz := hres2.fz
      have r0 := hres2.cell (j := 0) rfl
      have r1 := hres2.cell (j := 1) rfl
      have r2 := hres2.cell (j := 2) rfl
      have r3 := hres2.cell (j := 3) rfl
      have r4 := hres2.cell (j := 4) rfl
      have r5 := hres2.cell (j := 5) rfl
      replace hres2 := W_hid hres2
      replace bb2 := W_hid bb2
      clear bb hres bel1 hBS bel2
      go_wp2_with fail
      refine bodyPost_ret (res_call rfl _ _ rfl (six_blk hres2.out _ _ _ _ _ _)) rfl ⟨by rw [hA.out]; rfl, six_below bb2.out (Nat.le_refl _) _ _ _ _ _ _⟩
  have hs1 : s.size ≤ 8192 := by omega
  have hs2 : 8 ≤ s.size := by omega
  obtain ⟨k, hk⟩ : ∃ k, num (s.data.toList.take 8) = k := ⟨_, rfl⟩
  cases h : shp k with
  | some L =>
    have hk25 : k ≤ 25 := Decidable.byContradiction fun hn => by rw [shp_out (by omega)] at h; cases h
    obtain ⟨x, hx, rfl⟩ := shI_LS (z := (k : Int)) (by rw [shI_nat]; exact h)
    rcases bs_mem hx with rfl | rfl | rfl | rfl | rfl | rfl | rfl | rfl
    · exact rdec_tn s k h hk hk25 hs1 hs2 w
    · exact rdec_n s k h hk hk25 hs1 hs2 w
    · exact rdec_nn s k h hk hk25 hs1 hs2 w
    · exact rdec_nt s k h hk hk25 hs1 hs2 w
    · exact rdec_nnn s k h hk hk25 hs1 hs2 w
    · exact rdec_t s k h hk hk25 hs1 hs2 w
    · exact rdec_tt s k h hk hk25 hs1 hs2 w
    · exact rdec_o s k h hk hk25 hs1 hs2 w
  | none =>
    have hA : Hid (decQ s = (10, zc)) := W_hid (by unfold decQ; rw [if_neg hout, hk, h])
    have hn0 : nvl s.data.toList 0 = k := by unfold nvl; rw [if_pos (by omega), List.drop_zero, hk]
    have hx0 : nat_ s.data.toList 0 = 8 := by unfold nat_; rw [if_pos (by omega)]
    have hklt : k < 18446744073709551616 := by rw [← hn0]; exact nvl_lt _ _
    have hk0 : nok s.data.toList 0 = true := by unfold nok; exact decide_eq_true (by omega)
    clear hk
    replace h := W_hid h
    replace hlen := W_hid hlen
    by_cases hk1000 : 1000 < k
    all_goals
      have hcu : k ≤ 1000 → ∀ W, (convert 49 3 (.int .u64 (k : Int))).run Try.prog W = .ok (.int .i64 (k : Int)) W := fun hkk W => by
        have h1 : (convert 49 3 (.int .u64 (k : Int))).run Try.prog W = .ok (.int .i64 (IntKind.i64.wrap (k : Int))) W := by simp [go_sem]
        rw [h1, si_wrap (by omega), si, if_pos (by omega)]
      go_enter Try.func14, Try.ntmps14
      go_wp2_with (with_reducible show wpList _ _ _ _ _ _; refine wpList_bytes rfl _ rfl s rfl hs ?_; intro w1 hb c hBS bel1 hge hlt)
      have hres : Blk w1 w.heap.size 25 zc := (Blk.new w 25 zc rfl).keep bel1
      have bb : Below w.heap.size w w1 := ((Below.refl w.heap.size w).alloc (Nat.le_refl _) (.cells zc.toArray 25)).trans (Below.mono bel1 (by simp))
      refine (rTakeN_any _ _ _ _ 0 _ hBS (Nat.zero_le _)).mono ?_
      rintro e w2 ⟨rfl, bel2⟩
      rw [hn0, hx0, hk0]
      have hres2 := hres.keep bel2
      have bb2 := bb.trans (bel2.mono bb.size)
      have rz := hres2.fz
      have r0 := hres2.cell (j := 0) rfl
      have r1 := hres2.cell (j := 1) rfl
      have r2 := hres2.cell (j := 2) rfl
      have r3 := hres2.cell (j := 3) rfl
      have r4 := hres2.cell (j := 4) rfl
      have r5 := hres2.cell (j := 5) rfl
      replace hres2 := W_hid hres2
      replace bb2 := W_hid bb2
      clear bb hres bel1 hBS bel2
      first
        | (go_wp2_with fail
           refine bodyPost_ret (res_call rfl _ _ rfl (six_blk hres2.out _ _ _ _ _ _)) rfl ⟨by rw [hA.out]; rfl, six_below bb2.out (Nat.le_refl _) _ _ _ _ _ _⟩)
        | (have hcu2 := hcu (by omega)
           have hS := rShape_any (k : Int) (by omega) (by omega) w2
           rw [shI_nat, h.out] at hS
           replace hS := W_hid hS
           clear hcu
           go_wp2_with fail
           refine hS.out.mono ?_
           rintro e w3 ⟨rfl, hw3⟩
           subst hw3
           go_wp2_with fail
           refine bodyPost_ret (res_call rfl _ _ rfl (six_blk hres2.out _ _ _ _ _ _)) rfl ⟨by rw [hA.out]; rfl, six_below bb2.out (Nat.le_refl _) _ _ _ _ _ _⟩)
end CA
end Go.Proofs.Ytmhikoblaejhhaa

/- haywardlaw12's run: a tree that did some calls; what the program's calls leave behind it. -/
import Derived.Test.YtmnmheocmcmpmaaGreatZB09
import Derived.Test.YtmnmheocmcmpmaaGreatZB02
import Derived.ShutString
import Derived.ChangeOld
import Derived.Test.YtmnmheocmcmpmaaGreatZB03
import Derived.Deep.Slices
import Derived.Test.YtmnmheocmcmpmaaGreatZB01
import Derived.Test.YtmnmheocmcmpmaaGreatZB06

namespace Go.Proofs.YtmnmheocmcmpmaaGreat
open Go.ChangeShapes Go.WideShapes Go.ChangeAt Go.RowKit
open Go.ChangeMaps (open_string shut_string)
set_option linter.unusedVariables false
set_option linter.unusedSimpArgs false
namespace NT
open IN (Keeps cap7)
theorem res_caps {fn : Func} {r : Tmp} (hres : fn.results = #[.cell r 25]) (tmps : Array Value) (w : World) {g : Nat} {a b c d e f h : Int} (hr : tmps.getD r undef = .pointer (some ⟨g, 0, none⟩)) (hB : Blk w g 25 [.int .i64 a, .int .i64 b, .int .i64 c, .int .i64 d, .int .i64 e, .int .i64 f, .int .i64 h]) :
    (results fn tmps).run Tryz.prog w = .ok (cap7 a b c d e f h) w := by
  have h0 := hB.cell (j := 0) rfl
  have h1 := hB.cell (j := 1) rfl
  have h2 := hB.cell (j := 2) rfl
  have h3 := hB.cell (j := 3) rfl
  have h4 := hB.cell (j := 4) rfl
  have h5 := hB.cell (j := 5) rfl
  have h6 := hB.cell (j := 6) rfl
  rw [Array.getD_eq_getD_getElem?] at hr
  simp [results, hres, go_sem, hr, h0, h1, h2, h3, h4, h5, h6, cap7]
set_option maxRecDepth 100000 in
set_option maxHeartbeats 2000000 in
theorem caps_any (w : World) : Calls Tryz.prog 59 #[] w fun e w' => e = .returned (cap7 12 1000 3 0 0 0 0) ∧ Below w.heap.size w w' := by
  go_enter Tryz.func59, Tryz.ntmps59
  go_wp2_with fail
  exact bodyPost_ret (res_caps Tryz.results59 _ _ rfl (Blk.new w _ [.int .i64 12, .int .i64 1000, .int .i64 3, .int .i64 0, .int .i64 0, .int .i64 0, .int .i64 0] rfl)) rfl ⟨rfl, (Below.refl _ w).alloc (Nat.le_refl _) _⟩
def S0 : Int → Option IN.Nd := IN.upd (fun _ => none) 1 (some (IN.newNd 2))
set_option maxRecDepth 100000 in
set_option maxHeartbeats 4000000 in
theorem opened12 (a b c : Int) (w : World) (hr : IN.Right a b c) : Calls Tryz.prog 16 #[cap7 a b c 0 0 0 0] w fun e w' => ∃ base sg mb tg A, e = .returned (.tuple #[.pointer (some ⟨sg, 0, none⟩), .pointer (some ⟨tg, 0, none⟩), .bool true]) ∧ w.heap.size ≤ base ∧ (∃ M', IN.PS base w' sg mb M' a.toNat c.toNat b.toNat 0 S0) ∧ TM base w' tg sg mb A D0 ∧ Below w.heap.size w w' := by
  have b0 : Below w.heap.size w (w.alloc (.cells #[.int .i64 a, .int .i64 b, .int .i64 c, .int .i64 0, .int .i64 0, .int .i64 0, .int .i64 0] 25)) := (Below.refl _ w).alloc (Nat.le_refl _) _
  have cN := W_hid (IN.New_yes a b c 0 0 0 0 (w.alloc (.cells #[.int .i64 a, .int .i64 b, .int .i64 c, .int .i64 0, .int .i64 0, .int .i64 0, .int .i64 0] 25)) hr)
  have hr2 := W_hid hr
  unfold cap7 at cN ⊢
  clear hr
  go_enter Tryz.func16, Tryz.ntmps16
  go_wp2_with fail
  refine cN.out.mono ?_
  rintro e w1 ⟨sg, mb, M, rfl, hP, b1⟩
  have cT := W_hid (New_yes w1 hP (by have := hr2.out; unfold IN.Right at this; omega) (by have := hr2.out; unfold IN.Right at this; omega))
  have B1 := W_hid (b0.trans (b1.mono b0.size))
  have hlow := W_hid (show w.heap.size ≤ (w.alloc (.cells #[.int .i64 a, .int .i64 b, .int .i64 c, .int .i64 0, .int .i64 0, .int .i64 0, .int .i64 0] 25)).heap.size from b0.size)
  clear hP b1 b0 cN
  go_wp2_with fail
  refine cT.out.mono ?_
  rintro e w2 ⟨tg, A, rfl, hPS, hT, hK⟩
  have hfin := W_hid (And.intro hPS (And.intro hT (B1.out.trans ((hK.below (Nat.le_refl _)).mono hlow.out))))
  clear hPS hT hK cT
  go_wp2_with fail
  go_ret3
  exact ⟨_, sg, mb, tg, A, rfl, hlow.out, hfin.out⟩
theorem mkR_zero {I : Nat} {S : Int → Option IN.Nd} {kd : Int} (hk : kd = 1 ∨ kd = 2) (hl : (IN.lst S I).length < I) : IN.mkR I S kd = 0 := by
  unfold IN.mkR
  rw [if_pos hk, if_pos hl]
theorem low_one {S : Int → Option IN.Nd} (n : Nat) (h1 : 1 ≤ n) (h2 : S (n : Int) = none) (h3 : ∀ m : Nat, 1 ≤ m → m < n → S (m : Int) ≠ none) : IN.Low S n := ⟨h1, h2, h3⟩
theorem below_of {B base : Nat} {T : Nat → Obj → Prop} {w w' w2 : World} (h : Below B w w') (hK : Keeps base T w' w2) (hB : B ≤ base) : Below B w w2 := h.trans (hK.below hB)
def s1 : ByteArray := ⟨#[100]⟩
def s2 : ByteArray := ⟨#[47, 100, 47, 102]⟩
def s3 : ByteArray := ⟨#[100, 47, 46, 46, 47, 100, 47, 46, 47, 102]⟩
def Da : Ds := mkD D0 1 ⟨#[100]⟩ 2 2
def Sa : Int → Option IN.Nd := IN.upd S0 2 (some (IN.newNd 2))
def Db : Ds := mkD Da 2 ⟨#[102]⟩ 3 1
def Sb : Int → Option IN.Nd := IN.upd Sa 3 (some (IN.newNd 1))
theorem p1 : PM.perr s1 = 0 := by decide
theorem p2 : PM.perr s2 = 0 := by decide
theorem p3 : PM.perr s3 = 0 := by decide
theorem q1 : PM.pN s1 = [⟨#[100]⟩] := by decide
theorem q2 : PM.pN s2 = [⟨#[100]⟩, ⟨#[102]⟩] := by decide
theorem q3 : PM.pN s3 = [⟨#[100]⟩, ⟨#[46, 46]⟩, ⟨#[100]⟩, ⟨#[46]⟩, ⟨#[102]⟩] := by decide
theorem v1 : vacant D0 2 s1 = .ok 1 := by unfold vacant; rw [q1]; rfl
theorem v2 : vacant Da 1 s2 = .ok 2 := by unfold vacant; rw [q2]; rfl
theorem f3 : findR Db s3 = .ok 3 := by unfold findR; rw [if_pos p3, q3]; rfl
theorem mk_last (D : Ds) (p : Int) (s k : ByteArray) (n kd : Int) (h : last (PM.pN s) = k) : mkD D p (last (PM.pN s)) n kd = mkD D p k n kd := by rw [h]
set_option maxRecDepth 100000 in
set_option maxHeartbeats 8000000 in
theorem shown12 (w : World) : Calls Tryz.prog 14 #[] w fun e w' => e = .returned (.bool true) ∧ Below w.heap.size w w' := by
  have cC := W_hid (caps_any w)
  have cO := fun w => W_hid (opened12 12 1000 3 w (by unfold IN.Right; omega))
  go_enter Tryz.func14, Tryz.ntmps14
  go_wp2_with fail
  refine cC.out.mono ?_
  rintro e w1 ⟨rfl, b1⟩
  have B1 := W_hid b1
  clear b1 cC
  go_wp2_with fail
  refine (cO _).out.mono ?_
  rintro e w2 ⟨base, sg, mb, tg, A, rfl, hbase, ⟨M, hP⟩, hT, b2⟩
  have B2 := W_hid (B1.out.trans (b2.mono B1.out.size))
  have hbw : w.heap.size ≤ base := Nat.le_trans B1.out.size hbase
  have cM := Make_dir 12 3 1000 0 M S0 s1 (by decide) w2 hT hP p1 1 v1 ⟨1, []⟩ rfl (by decide) 2 (mkR_zero (.inr rfl) (by decide)) (low_one 2 (by decide) rfl fun m h1 h2 => by
    obtain rfl : m = 1 := by omega
    simp [S0, IN.upd]) (by decide) (by decide) rfl (fun m d hd => by
    unfold D0 at hd
    split at hd
    · cases hd
      exact ⟨by decide, fun k => by simp [look]⟩
    · cases hd)
  rw [mk_last D0 1 s1 ⟨#[100]⟩ _ _ (by rw [q1]; rfl)] at cM
  replace cM := W_hid cM
  have e1 : s1 = ⟨#[100]⟩ := rfl
  rw [e1] at cM
  clear b2 hP hT B1 cO hbase
  go_wp2_with fail
  refine cM.out.mono ?_
  rintro e w3 ⟨rfl, ⟨M3, hP3⟩, ⟨A3, hT3⟩, hK3⟩
  have B3 := W_hid (below_of B2.out hK3 hbw)
  have cM2 := Make_file 12 3 1000 0 M3 Sa s2 (by decide) w3 hT3 hP3 p2 2 v2 ⟨1, []⟩ rfl (by decide) 3 (mkR_zero (.inl rfl) (by decide)) (low_one 3 (by decide) rfl fun m h1 h2 => by
    rcases (show m = 1 ∨ m = 2 by omega) with rfl | rfl <;> simp [Sa, S0, IN.upd]) (by decide) (by decide) rfl
  rw [mk_last _ 2 s2 ⟨#[102]⟩ _ _ (by rw [q2]; rfl)] at cM2
  replace cM2 := W_hid cM2
  have e2 : s2 = ⟨#[47, 100, 47, 102]⟩ := rfl
  rw [e2] at cM2
  clear hP3 hT3 hK3 B2 cM
  go_wp2_with fail
  refine cM2.out.mono ?_
  rintro e w4 ⟨rfl, ⟨M4, hP4⟩, hT4, hK4⟩
  have B4 := W_hid (below_of B3.out hK4 hbw)
  have cF := Find_any s3 (by decide) w4 hT4
  have e4 : findR (mkD (mkD D0 1 ⟨#[100]⟩ ((2 : Nat) : Int) 2) 2 ⟨#[102]⟩ ((3 : Nat) : Int) 1) s3 = .ok 3 := f3
  rw [e4] at cF
  simp only [nu, er] at cF
  have e3 : s3 = ⟨#[100, 47, 46, 46, 47, 100, 47, 46, 47, 102]⟩ := rfl
  rw [e3] at cF
  replace cF := W_hid cF
  clear hP4 hT4 hK4 B3 cM2
  go_wp2_with fail
  refine cF.out.mono ?_
  rintro e w5 ⟨rfl, b5⟩
  have B5 := W_hid (B4.out.trans (b5.mono B4.out.size))
  clear b5 cF B4
  go_wp2_with fail
  go_ret
  exact ⟨rfl, B5.out⟩
end NT
end Go.Proofs.YtmnmheocmcmpmaaGreat

namespace Go.Proofs.YtmnmheocmcmpmaaGreat
open Go.ChangeShapes Go.WideShapes Go.ChangeAt Go.RowKit
set_option linter.unusedVariables false
set_option linter.unusedSimpArgs false
namespace IN
theorem stat_neq (a b c d e f : Int) (w : World) : (binOp .neq 49 (.agg #[.int .i64 a, .int .i64 b, .int .i64 c, .int .i64 d, .int .i64 e, .int .i64 f]) (.agg #[.int .i64 a, .int .i64 b, .int .i64 c, .int .i64 d, .int .i64 e, .int .i64 f])).run Tryz.prog w = .ok (.bool false) w := by
  simp [go_sem]
theorem stcl_get : ∀ (l : List (Nat × Nd)) (i : Nat) (hi : i < l.length) (m : Nat), m < 6 → (stcl l)[i * 6 + m]? = (stl (l[i].1 : Int) l[i].2)[m]?
  | [], i, hi, _, _ => by simp at hi
  | x :: r, 0, _, m, hm => by
    simp only [stcl, List.flatMap_cons]
    rw [List.getElem?_append_left (by simp [stl]; omega)]
    simp
  | x :: r, i + 1, hi, m, hm => by
    have ih := stcl_get r i (by simpa using hi) m hm
    simp only [stcl, List.flatMap_cons] at ih ⊢
    rw [List.getElem?_append_right (by simp [stl]; omega)]
    rw [show (i + 1) * 6 + m - (stl (x.1 : Int) x.2).length = i * 6 + m by simp [stl]; omega, ih]
    rfl
theorem own_at {w : World} {base : Nat} {v : Value} {l : List (Nat × Nd)} (h : w.ownsRow base 49 6 v l.length (stcl l)) : ∃ ao cap, v = .slice ao l.length cap ∧ ∀ i (hi : i < l.length), ∃ blk, ao = some ⟨blk, 0, none⟩ ∧ blk < w.heap.size ∧ ∀ m u, (stl (l[i].1 : Int) l[i].2)[m]? = some u → w.cell? ⟨blk, i * 6 + m, none⟩ = some u := by
  rcases h.2 with ⟨rfl, h0⟩ | ⟨g, cap, cur, rfl, hb, hg, h1, h2, h3, h4⟩
  · have hl : l.length = 0 := by have := stcl_len l; rw [h0] at this; simp at this; omega
    skip
    exact ⟨none, 0, by rw [hl], fun i hi => by omega⟩
  · refine ⟨_, cap, rfl, fun i hi => ⟨g, rfl, lt_of_some hg, fun m u hu => ?_⟩⟩
    have hm : m < 6 := by
      rcases Nat.lt_or_ge m 6 with hlt | hge
      · exact hlt
      · rw [List.getElem?_eq_none (by simp [stl]; omega)] at hu; cases hu
    have := h.cells (g := g) rfl (i * 6 + m) u (by rw [stcl_get l i hi m hm]; exact hu)
    rw [Addr.add_lit, Nat.zero_add] at this
    exact this
set_option maxRecDepth 100000 in
set_option maxHeartbeats 4000000 in
theorem Same_yes (v1 v2 : Value) (B1 B2 : Nat) (L : List (Nat × Nd)) (w : World) (hl : L.length ≤ 100000) (h1 : w.ownsRow B1 49 6 v1 L.length (stcl L)) (h2 : w.ownsRow B2 49 6 v2 L.length (stcl L)) :
    Calls Tryz.prog 20 #[v1, v2] w fun e w' => e = .returned (.bool true) ∧ Below w.heap.size w w' := by
  have hm1 : L.length ≤ maxLen := by unfold maxLen; omega
  obtain ⟨x1, c1, rfl, H1⟩ := own_at h1
  obtain ⟨x2, c2, rfl, H2⟩ := own_at h2
  have H1 := W_hid H1
  have H2 := W_hid H2
  obtain ⟨N, hN⟩ : ∃ N, L.length = N := ⟨_, rfl⟩
  rw [hN] at hl ⊢
  replace hN := W_hid hN
  have he : ((N : Int) != (N : Int)) = false := by simp
  clear h1 h2 hm1
  go_enter Tryz.func20, Tryz.ntmps20
  go_wp2
  go_loopw [5] (fun i wr => ∃ k : Nat, k ≤ N ∧ i = .int .i64 k ∧ Below w.heap.size w wr) (fun i _ => N - (intOf i).toNat)
  case atStart => exact ⟨0, Nat.zero_le _, rfl, Below.refl _ _⟩
  case round =>
    obtain ⟨k, hk, rfl, bel⟩ := hrel
    by_cases hlt : k < N
    · have hkl : k < L.length := by rw [hN.out]; exact hlt
      obtain ⟨b1, rfl, hb1, g⟩ := H1.out k hkl
      obtain ⟨b2, rfl, hb2, g'⟩ := H2.out k hkl
      obtain ⟨⟨nj, dj⟩, hx⟩ : ∃ x, L[k] = x := ⟨_, rfl⟩
      rw [hx] at g g'
      have kk : ∀ {b m : Nat} {u : Value}, b < w.heap.size → w.cell? ⟨b, m, none⟩ = some u → wr.cell? ⟨b, m, none⟩ = some u := fun {b m u} hb hc => by rw [bel.cell (p := ⟨b, m, none⟩) hb]; exact hc
      have i0 := kk hb1 (g 0 _ rfl)
      have i1 := kk hb1 (g 1 _ rfl)
      have i2 := kk hb1 (g 2 _ rfl)
      have i3 := kk hb1 (g 3 _ rfl)
      have i4 := kk hb1 (g 4 _ rfl)
      have i5 := kk hb1 (g 5 _ rfl)
      have j0 := kk hb2 (g' 0 _ rfl)
      have j1 := kk hb2 (g' 1 _ rfl)
      have j2 := kk hb2 (g' 2 _ rfl)
      have j3 := kk hb2 (g' 3 _ rfl)
      have j4 := kk hb2 (g' 4 _ rfl)
      have j5 := kk hb2 (g' 5 _ rfl)
      rw [Nat.add_zero] at i0 j0
      have hq := stat_neq (nj : Int) dj.kind dj.links dj.opens dj.size (EM.cnt dj.l : Int)
      clear g g' kk hkl hx
      go_wp2
      go_quiet (fail)
      go_wp2
      go_roundw
      case rel => exact ⟨k + 1, by omega, by go_num, below_drewN bel _⟩
      case measure => simp [intOf]; omega
    · obtain rfl : k = N := by omega
      go_wp2
      go_ret
      exact ⟨rfl, bel⟩
end IN
theorem XS.drew {w : World} {ao : Option Addr} {n cap : Nat} {l : List (Int × ByteArray)} (h : XS w ao n cap l) : XS w.drew ao n cap l := h
theorem Own.lies {w : World} {base e size n : Nat} {v : Value} {xs : List Value} (h : w.ownsRow base e size v n xs) (hn : 0 < n) : ∃ g cap, v = .slice (some ⟨g, 0, none⟩) n cap ∧ base ≤ g ∧ g < w.heap.size ∧ n ≤ cap := by
  rcases h.2 with ⟨_, h0⟩ | ⟨g, cap, cur, h1, h2, h3, h4, _⟩
  · omega
  · refine ⟨g, cap, h1, h2, ?_, h4⟩
    rcases Nat.lt_or_ge g w.heap.size with hlt | hge
    · exact hlt
    · rw [Array.getElem?_eq_none hge] at h3; cases h3
theorem BR.set {w : World} {g : Nat} {bs : List UInt8} (h : BR w g bs) (j : Nat) (c : UInt8) : BR (w.setCell ⟨g, j, none⟩ (.int .u8 (c.toNat : Int))) g (bs.set j c) := by
  have := heap_setCell_same w g j (cel bs).toArray 5 (.int .u8 (c.toNat : Int)) h
  unfold BR
  rw [this]
  congr 2
  apply Array.toList_inj.1
  rw [Array.toList_setIfInBounds]
  simp [cel, List.map_set]
theorem BR.fz {w : World} {g : Nat} {bs : List UInt8} (h : BR w g bs) (j : Nat) : w.frozen? ⟨g, j, none⟩ = false := frozen_of_row w g j (cel bs).toArray 5 h
theorem BR.cell {w : World} {g : Nat} {bs : List UInt8} (h : BR w g bs) (j : Nat) (hj : j < bs.length) : w.cell? ⟨g, j, none⟩ = some (.int .u8 (bs[j].toNat : Int)) := by
  rw [cell_of_row w g j _ _ _ h]
  simp [cel, hj]
namespace IN
section
variable {base : Nat} {rg : Nat} {I B L k : Nat} {S : Int → Option Nd} {z3 z4 z5 z6 : Int} {v : Value} {q : List RE}
end
end IN
end Go.Proofs.YtmnmheocmcmpmaaGreat

namespace Go.Proofs.YtmnmheocmcmpmaaGreat
open Go.ChangeShapes Go.WideShapes Go.ChangeAt Go.RowKit Go.Maps
open Go.ChangeMaps (open_string shut_string)
set_option linter.unusedVariables false
set_option linter.unusedSimpArgs false
abbrev OpT12 := Int × ByteArray × ByteArray × Int
def OS12 (w : World) (a : Option Addr) (len cap : Nat) (l : List OpT12) : Prop :=
  len ≤ maxLen ∧ l.length = len ∧ ∀ j (hj : j < l.length), ∃ blk off, a = some ⟨blk, off, none⟩ ∧ blk < w.heap.size ∧ w.cell? ⟨blk, off + j * 4, none⟩ = some (.int .i64 l[j].1) ∧ w.cell? ⟨blk, off + j * 4 + 1, none⟩ = some (.string l[j].2.1) ∧ w.cell? ⟨blk, off + j * 4 + 2, none⟩ = some (.string l[j].2.2.1) ∧ w.cell? ⟨blk, off + j * 4 + 3, none⟩ = some (.int .i64 l[j].2.2.2) ∧ -9223372036854775808 ≤ l[j].1 ∧ l[j].1 ≤ 9223372036854775807 ∧ l[j].2.1.size ≤ maxLen ∧ l[j].2.2.1.size ≤ maxLen ∧ -9223372036854775808 ≤ l[j].2.2.2 ∧ l[j].2.2.2 ≤ 9223372036854775807
set_option maxRecDepth 100000 in
theorem open_ops12 {H : Type} {enc : TypeId × Value → H} {W : World} {r : Reach} {b0 : Nat} {v : Value} {d : DataW H} {p : List MemPlace} (hv : Value.okWide Tryz.prog W r b0 22 v)
    (h : DataW.Trod enc Tryz.prog W 0 (fun _ => true) true 22 v d p) :
    ∃ (ao : Option Addr) (n cap : Nat) (l : List OpT12), v = .slice ao n cap ∧ OS12 W ao n cap l := by
  obtain ⟨a, len, cap, rfl⟩ := okWide_slice Tryz.underlying22 hv
  obtain ⟨fuel, hf⟩ := h
  rcases Deep.open_slice Tryz.underlying22 hf with ⟨e1, -⟩ | ⟨x, len', cap', m, n, D, Pl, e1, hb, hl, hm, hmm, -, hx⟩
  · simp [Value.cells] at e1
    obtain ⟨rfl, rfl, rfl⟩ := e1
    exact ⟨none, 0, 0, [], rfl, Nat.zero_le _, rfl, fun j hj => by simp at hj⟩
  · simp [Value.cells] at e1
    obtain ⟨rfl, rfl, rfl⟩ := e1
    have hlm : len ≤ m := by rw [hmm]; split <;> omega
    have each : ∀ i, i < len → ∃ q : OpT12, W.cell? (x.add (i * 4)) = some (.int .i64 q.1) ∧ W.cell? (x.add (i * 4 + 1)) = some (.string q.2.1) ∧ W.cell? (x.add (i * 4 + 2)) = some (.string q.2.2.1) ∧ W.cell? (x.add (i * 4 + 3)) = some (.int .i64 q.2.2.2) ∧ -9223372036854775808 ≤ q.1 ∧ q.1 ≤ 9223372036854775807 ∧ q.2.1.size ≤ maxLen ∧ q.2.2.1.size ≤ maxLen ∧ -9223372036854775808 ≤ q.2.2.2 ∧ q.2.2.2 ≤ 9223372036854775807 := by
      intro i hi
      obtain ⟨cs', h1, h2⟩ := hx i (by omega)
      rw [show Tryz.prog.cellsOf 40 = 4 from by kernel_rfl] at h1
      obtain ⟨_, hlen, hcell⟩ := World.cells?_some h1
      obtain ⟨xs, k, hk, hxy, _, hxl, hff⟩ := DataW.trod_struct Tryz.underlying40 h2
      match xs, hxl, cs', hlen with
      | [y0, y1, y2, y3], _, [v0, v1, v2, v3], _ =>
        have g0 := hff 0 _ rfl
        have g1 := hff 1 _ rfl
        have g2 := hff 2 _ rfl
        have g3 := hff 3 _ rfl
        have t0 : Tryz.prog.cellsOf 3 = 1 := by kernel_rfl
        have t1 : Tryz.prog.cellsOf 9 = 1 := by kernel_rfl
        simp [t0, t1] at g0 g1 g2 g3
        have e0 := hcell 0 (by omega)
        have e1 := hcell 1 (by omega)
        have e2 := hcell 2 (by omega)
        have e3 := hcell 3 (by omega)
        rw [Deep.add_add] at e0 e1 e2 e3
        obtain ⟨z0, q0, -, b0⟩ := DataW.trod_int Tryz.underlying3 g0
        have b0' := bounds_i64 b0
        obtain ⟨z1, q1, -, b1⟩ := DataW.trod_string Tryz.underlying9 g1
        obtain ⟨z2, q2, -, b2⟩ := DataW.trod_string Tryz.underlying9 g2
        obtain ⟨z3, q3, -, b3⟩ := DataW.trod_int Tryz.underlying3 g3
        have b3' := bounds_i64 b3
        simp at q0 q1 q2 q3
        subst q0 q1 q2 q3
        exact ⟨(z0, z1, z2, z3), by simpa using e0, by simpa using e1, by simpa using e2, by simpa using e3, b0'.1, b0'.2, b1, b2, b3'.1, b3'.2⟩
    have key : ∀ k, k ≤ len → ∃ l : List OpT12, l.length = k ∧ ∀ j (hj : j < l.length), W.cell? (x.add (j * 4)) = some (.int .i64 l[j].1) ∧ W.cell? (x.add (j * 4 + 1)) = some (.string l[j].2.1) ∧ W.cell? (x.add (j * 4 + 2)) = some (.string l[j].2.2.1) ∧ W.cell? (x.add (j * 4 + 3)) = some (.int .i64 l[j].2.2.2) ∧ -9223372036854775808 ≤ l[j].1 ∧ l[j].1 ≤ 9223372036854775807 ∧ l[j].2.1.size ≤ maxLen ∧ l[j].2.2.1.size ≤ maxLen ∧ -9223372036854775808 ≤ l[j].2.2.2 ∧ l[j].2.2.2 ≤ 9223372036854775807 := by
      intro k
      induction k with
      | zero => exact fun _ => ⟨[], rfl, fun j hj => by simp at hj⟩
      | succ k ih =>
        intro hk
        obtain ⟨l, h1, h2⟩ := ih (by omega)
        obtain ⟨q, hq⟩ := each k (by omega)
        refine ⟨l ++ [q], by simp [h1], fun j hj => ?_⟩
        by_cases hjl : j < l.length
        · rw [List.getElem_append_left hjl]; exact h2 j hjl
        · have : j = k := by simp at hj; omega
          subst this
          rw [List.getElem_append_right (by omega)]
          simpa [h1] using hq
    obtain ⟨l, h1, h2⟩ := key len (Nat.le_refl _)
    refine ⟨some x, len, cap, l, rfl, Nat.le_trans hl hm, h1, fun j hj => ?_⟩
    obtain ⟨c0, c1, c2, c3, hbn⟩ := h2 j hj
    obtain ⟨b, off, spot⟩ := x
    have h0 := (h2 0 (by omega)).1
    have hs : spot = none := by simpa [Addr.add] using World.cell?_spot h0
    subst hs
    rw [Addr.add_lit] at c0 c1 c2 c3
    exact ⟨b, off, rfl, cell_lt c0, c0, by rw [← Nat.add_assoc] at c1; exact c1, by rw [← Nat.add_assoc] at c2; exact c2, by rw [← Nat.add_assoc] at c3; exact c3, hbn⟩
end Go.Proofs.YtmnmheocmcmpmaaGreat

namespace Go.Proofs.YtmnmheocmcmpmaaGreat
open Go.ChangeShapes Go.WideShapes Go.ChangeAt Go.RowKit Go.Maps
set_option linter.unusedVariables false
set_option linter.unusedSimpArgs false
open RN
namespace NT
open IN (Keeps)
def PW (b1 tg sg mb c : Nat) (S : Int → Option IN.Nd) (D : Ds) (w : World) : Prop := ∃ A, TW b1 tg sg mb 12 3 1000 0 c A S D w
def FX (mb k : Nat) (o : Obj) : Prop := IN.PT mb k o ∨ (∃ es c, o = .map es c) ∨ ∃ c s, o = .cells c 163 s
section
variable {b1 tg sg mb c : Nat} {S S' : Int → Option IN.Nd} {D D' : Ds} {w w' : World}
theorem fx_of {A : Int → Option (Nat × Nat)} (h : Keeps b1 (FT A mb) w w') : Keeps b1 (FX mb) w w' := keeps_wide h fun k o _ hT => by
  rcases hT with hT | ⟨n, g, m, hA, ⟨-, c, s, e⟩ | ⟨-, es, c, e⟩⟩
  · exact .inl hT
  · exact .inr (.inr ⟨c, s, e⟩)
  · exact .inr (.inl ⟨es, c, e⟩)
theorem fx_cells {k : Nat} {c : Array Value} {t : TypeId} {s : Nat × Nat} (h1 : t ≠ 122) (h2 : t ≠ 208) (h3 : t ≠ 163) : ¬ FX mb k (.cells c t s) := by
  rintro (h | ⟨es, c', e⟩ | ⟨c', s', e⟩)
  · rcases h with ⟨c', s', e⟩ | ⟨c', s', e⟩ | ⟨-, es, c', e⟩
    · simp only [Obj.cells.injEq] at e; exact h1 e.2.1
    · simp only [Obj.cells.injEq] at e; exact h2 e.2.1
    · cases e
  · cases e
  · simp only [Obj.cells.injEq] at e; exact h3 e.2.1
theorem PW.low (h : PW b1 tg sg mb c S D w) : b1 ≤ w.heap.size := by
  obtain ⟨A, h⟩ := h
  exact h.tm.low
theorem PW.keep (h : PW b1 tg sg mb c S D w) (hb : Below w.heap.size w w') : PW b1 tg sg mb c S D w' := by
  obtain ⟨A, h⟩ := h
  exact ⟨A, h.keep hb⟩
theorem PW.more (h : PW b1 tg sg mb c S D w) {c' : Nat} (hc : c ≤ c') : PW b1 tg sg mb c' S D w := by
  obtain ⟨A, h⟩ := h
  exact ⟨A, h.more hc⟩
theorem PW.ti (h : PW b1 tg sg mb c S D w) : TI 12 c e0 S D := by
  obtain ⟨A, h⟩ := h
  exact h.ti
def PO (b1 tg sg mb c : Nat) (S : Int → Option IN.Nd) (D : Ds) (w w' : World) : Prop := PW b1 tg sg mb c S D w' ∧ Keeps b1 (FX mb) w w'
theorem PW.same (h : PW b1 tg sg mb c S D w) (hb : Below w.heap.size w w') : PO b1 tg sg mb (c + 1) S D w w' := ⟨(h.keep hb).more (by omega), Keeps.new hb h.low⟩
theorem po_of {A : Int → Option (Nat × Nat)} (h : TP b1 tg sg mb 12 3 1000 0 c A S D w w') : PO b1 tg sg mb c S D w w' := ⟨h.1, fx_of h.2⟩
theorem row_keeps {base n size : Nat} {t : TypeId} {v : Value} {xs : List Value} (h : w.ownsRow base t size v n xs) (h1 : t ≠ 122) (h2 : t ≠ 208) (h3 : t ≠ 163) (hK : Keeps b1 (FX mb) w w') : w'.ownsRow base t size v n xs := by
  rcases h.2 with h0 | ⟨g, cap, cur, e1, e2, e3, e4⟩
  · exact ⟨h.1, .inl h0⟩
  · exact ⟨h.1, .inr ⟨g, cap, cur, e1, e2, hK.block _ _ e3 (fx_cells h1 h2 h3), e4⟩⟩
theorem ne_keeps {v : Value} {l : List (ByteArray × Int × Int)} (h : NE w v l) (hK : Keeps b1 (FX mb) w w') : NE w' v l := by
  obtain ⟨b, h⟩ := h
  exact ⟨b, row_keeps h (by decide) (by decide) (by decide) hK⟩
theorem lcl_any (D : Ds) : ∀ l : List (ByteArray × Int), lcl D l = kcl (l.map fun x => (x.1, x.2, kap D x.2))
  | [] => rfl
  | x :: l => by
    have ih := lcl_any D l
    unfold lcl at ih ⊢
    rw [List.flatMap_cons, ih, List.map_cons, show (x.1, x.2, kap D x.2) :: l.map (fun x => (x.1, x.2, kap D x.2)) = [(x.1, x.2, kap D x.2)] ++ l.map (fun x => (x.1, x.2, kap D x.2)) from rfl, kcl_app, kcl_one]
    rfl
def liK (D : Ds) (s : ByteArray) : List (ByteArray × Int × Int) := (li (listR D s)).map fun x => (x.1, x.2, kap D x.2)
theorem list_p (s : ByteArray) (hs : s.size ≤ maxLen) (w : World) (h : PW b1 tg sg mb c S D w) (hc : c < 65535) :
    Calls Tryz.prog 28 #[.pointer (some ⟨tg, 0, none⟩), .string s] w fun e w' => ∃ v, e = .returned (.tuple #[v, .int .i64 (er (listR D s))]) ∧ NE w' v (liK D s) ∧ Below w.heap.size w w' := by
  obtain ⟨A, h⟩ := h
  refine (List_all s hs w h hc).mono ?_
  rintro e w' ⟨v, rfl, ho, hb⟩
  refine ⟨v, rfl, ⟨w.heap.size, ?_⟩, hb⟩
  rw [lcl_any] at ho
  unfold liK
  rw [List.length_map]
  exact ho
theorem liK_len (h : TI 12 c e0 S D) (s : ByteArray) : (liK D s).length ≤ c := by
  unfold liK listR
  rw [List.length_map]
  cases findR D s with
  | error e => exact Nat.zero_le _
  | ok n =>
    simp only
    cases hD : D n with
    | none => exact Nat.zero_le _
    | some d => exact (h.asc n d hD).2
theorem all_p (w : World) (h : PW b1 tg sg mb c S D w) : Calls Tryz.prog 21 #[.pointer (some ⟨sg, 0, none⟩)] w fun e w' => ∃ v, e = .returned v ∧ w'.ownsRow w.heap.size 49 6 v (IN.lst S 12).length (IN.stcl (IN.lst S 12)) ∧ Below w.heap.size w w' := by
  obtain ⟨A, h⟩ := h
  obtain ⟨M, hM⟩ := h.ps
  exact IN.All_any w hM
theorem find_p (s : ByteArray) (hs : s.size ≤ maxLen) (w : World) (h : PW b1 tg sg mb c S D w) :
    Calls Tryz.prog 26 #[.pointer (some ⟨tg, 0, none⟩), .string s] w fun e w' => e = .returned (.tuple #[.int .i64 (nu (findR D s)), .int .i64 (er (findR D s))]) ∧ Below w.heap.size w w' := by
  obtain ⟨A, h⟩ := h
  exact Find_all s hs w h
theorem make_p (s : ByteArray) (hs : s.size ≤ maxLen) (kd : Int) (w : World) (h : PW b1 tg sg mb c S D w) (hc : c < 65535) :
    Calls Tryz.prog 29 #[.pointer (some ⟨tg, 0, none⟩), .string s, .int .i64 kd] w fun e w' => e = .returned (.tuple #[.int .i64 (mk 12 S D s kd).1.1, .int .i64 (mk 12 S D s kd).1.2]) ∧ PO b1 tg sg mb (c + 1) (mk 12 S D s kd).2.1 (mk 12 S D s kd).2.2 w w' := by
  obtain ⟨A, h⟩ := h
  exact (Make_all s hs kd w h hc (by decide)).mono fun e w' hh => ⟨hh.1, po_of hh.2⟩
theorem link_p (s t : ByteArray) (hs : s.size ≤ maxLen) (ht : t.size ≤ maxLen) (w : World) (h : PW b1 tg sg mb c S D w) (hc : c < 65535) :
    Calls Tryz.prog 30 #[.pointer (some ⟨tg, 0, none⟩), .string s, .string t] w fun e w' => e = .returned (.int .i64 (lnk 3 S D s t).1) ∧ PO b1 tg sg mb (c + 1) (lnk 3 S D s t).2.1 (lnk 3 S D s t).2.2 w w' := by
  obtain ⟨A, h⟩ := h
  exact (Link_all s t hs ht w h hc).mono fun e w' hh => ⟨hh.1, po_of hh.2⟩
theorem unlink_p (s : ByteArray) (hs : s.size ≤ maxLen) (w : World) (h : PW b1 tg sg mb c S D w) :
    Calls Tryz.prog 31 #[.pointer (some ⟨tg, 0, none⟩), .string s] w fun e w' => e = .returned (.int .i64 (er (unlR D s))) ∧ PO b1 tg sg mb (c + 1) (unlS S D s).1 (unlS S D s).2 w w' := by
  obtain ⟨A, h⟩ := h
  exact (Unlink_all s hs w h (by decide)).mono fun e w' hh => ⟨hh.1, po_of hh.2⟩
theorem rmdir_p (s : ByteArray) (hs : s.size ≤ maxLen) (w : World) (h : PW b1 tg sg mb c S D w) :
    Calls Tryz.prog 32 #[.pointer (some ⟨tg, 0, none⟩), .string s] w fun e w' => e = .returned (.int .i64 (er (rmdR D s))) ∧ PO b1 tg sg mb (c + 1) (rmdS S D s).1 (rmdS S D s).2 w w' := by
  obtain ⟨A, h⟩ := h
  exact (Rmdir_all s hs w h (by decide)).mono fun e w' hh => ⟨hh.1, po_of hh.2⟩
theorem rename_p (s t : ByteArray) (hs : s.size ≤ maxLen) (ht : t.size ≤ maxLen) (w : World) (h : PW b1 tg sg mb c S D w) (hc : c < 65535) :
    Calls Tryz.prog 27 #[.pointer (some ⟨tg, 0, none⟩), .string s, .string t] w fun e w' => e = .returned (.int .i64 (ren S D s t).1) ∧ PO b1 tg sg mb (c + 1) (ren S D s t).2.1 (ren S D s t).2.2 w w' := by
  obtain ⟨A, h⟩ := h
  exact (Rename_all s t hs ht w h (by decide) hc).mono fun e w' hh => ⟨hh.1, po_of hh.2⟩
theorem mk_ne {I : Nat} {s : ByteArray} {kd : Int} (h : (mk I S D s kd).1.2 ≠ 0) : (mk I S D s kd).2 = (S, D) := by
  unfold mk at h ⊢
  by_cases hk : kd = 1 ∨ kd = 2
  · rw [if_pos hk] at h ⊢
    by_cases h0 : PM.perr s ≠ 0
    · rw [if_pos h0]
    · rw [if_neg h0] at h ⊢
      cases hv : vacant D kd s with
      | error e => rfl
      | ok p =>
        rw [hv] at h
        simp only at h ⊢
        by_cases hr : IN.mkR I S kd ≠ 0
        · rw [if_pos hr]
        · rw [if_neg hr] at h; exact absurd rfl h
  · rw [if_neg hk]
theorem lnk_ne {L : Nat} {s t : ByteArray} (h : (lnk L S D s t).1 ≠ 0) : (lnk L S D s t).2 = (S, D) := by
  unfold lnk at h ⊢
  by_cases h0 : PM.perr s ≠ 0
  · rw [if_pos h0]
  · rw [if_neg h0] at h ⊢
    by_cases h1 : PM.perr t ≠ 0
    · rw [if_pos h1]
    · rw [if_neg h1] at h ⊢
      cases hf : find D (PM.pN s) (PM.pD s) with
      | error e => rfl
      | ok n =>
        rw [hf] at h
        simp only at h ⊢
        by_cases hD : D n ≠ none
        · rw [if_pos hD]
        · rw [if_neg hD] at h ⊢
          cases hv : vacant D 1 t with
          | error e => rfl
          | ok p =>
            rw [hv] at h
            simp only at h ⊢
            by_cases hr : IN.lkR L S n = 0
            · rw [if_pos hr] at h; exact absurd rfl h
            · rw [if_neg hr]
theorem unl_ne {s : ByteArray} (h : er (unlR D s) ≠ 0) : unlS S D s = (S, D) := by
  unfold unlS
  cases hr : unlR D s with
  | error e => rfl
  | ok p => rw [hr] at h; exact absurd rfl h
theorem rmd_ne {s : ByteArray} (h : er (rmdR D s) ≠ 0) : rmdS S D s = (S, D) := by
  unfold rmdS
  cases hr : rmdR D s with
  | error e => rfl
  | ok p => rw [hr] at h; exact absurd rfl h
theorem ren_ne {s t : ByteArray} (h : (ren S D s t).1 ≠ 0) : (ren S D s t).2 = (S, D) := by
  unfold ren at h ⊢
  by_cases h0 : PM.perr s ≠ 0
  · rw [if_pos h0]
  · rw [if_neg h0] at h ⊢
    by_cases h1 : PM.perr t ≠ 0
    · rw [if_pos h1]
    · rw [if_neg h1] at h ⊢
      by_cases h2 : PM.pN t = []
      · rw [if_pos h2]
      · rw [if_neg h2] at h ⊢
        cases hs : src D s with
        | error e => rfl
        | ok pf =>
          rw [hs] at h
          simp only at h ⊢
          cases hd : dst D s t pf with
          | error e => rfl
          | ok pt => rw [hd] at h; exact absurd rfl h
end
def RunOut (w : World) (e : Ending) (w' : World) : Prop := ∃ b1 tg sg mb S D, e = .returned (.tuple #[.pointer (some ⟨sg, 0, none⟩), .pointer (some ⟨tg, 0, none⟩), .bool true]) ∧ w.heap.size ≤ b1 ∧ PW b1 tg sg mb 100 S D w' ∧ Below w.heap.size w w'
theorem RunOut.mk {w w' : World} {e : Ending} {b1 tg sg mb : Nat} {S : Int → Option IN.Nd} {D : Ds} (h1 : e = .returned (.tuple #[.pointer (some ⟨sg, 0, none⟩), .pointer (some ⟨tg, 0, none⟩), .bool true])) (h2 : w.heap.size ≤ b1) (h3 : PW b1 tg sg mb 100 S D w') (h4 : Below w.heap.size w w') : RunOut w e w' := ⟨b1, tg, sg, mb, S, D, h1, h2, h3, h4⟩
set_option maxRecDepth 100000 in
set_option maxHeartbeats 16000000 in
theorem run_any (o1 : Option Addr) (n1 c1 : Nat) (l1 : List OpT12) (w : World) (w1 : OS12 w o1 n1 c1 l1) :
    Calls Tryz.prog 23 #[.slice o1 n1 c1] w (RunOut w) := by
  obtain ⟨hlen, hll, hops⟩ := w1
  have hlen2 : (n1 : Int) ≤ 9223372036854775807 := by unfold maxLen at hlen; omega
  have cC := fun w => W_hid (caps_any w)
  have hR : IN.Right 12 1000 3 := by unfold IN.Right; omega
  have cO := W_hid (fun w => opened12 12 1000 3 w hR)
  have cQ := W_hid (fun w => IN.rNew_yes 12 1000 3 0 0 0 0 w hR)
  have e1 : (12 : Int).toNat = 12 := rfl
  have e2 : (1000 : Int).toNat = 1000 := rfl
  have e3 : (3 : Int).toNat = 3 := rfl
  simp only [e1, e2, e3] at cO
  unfold IN.cap7 at cO cQ cC
  replace hops := W_hid hops
  replace hll := W_hid hll
  clear hlen hR
  go_enter Tryz.func23, Tryz.ntmps23
  go_wp2_with fail
  refine (cC _).out.mono ?_
  rintro e w2 ⟨rfl, b2⟩
  have B2 := W_hid b2
  clear b2
  go_wp2_with fail
  refine (cO.out _).mono ?_
  rintro e w3 ⟨b1', sg, mb, tg, A, rfl, hb1, hP, hT, b3⟩
  have hB1 : w.heap.size ≤ b1' := Nat.le_trans B2.out.size hb1
  have hTW : Hid (∃ A, TW b1' tg sg mb 12 3 1000 0 0 A Sn D0 w3) := W_hid ⟨A, hT, hP, TI.new (by decide)⟩
  have B3 := W_hid (B2.out.trans (b3.mono B2.out.size))
  clear hP hT b3 cO hb1
  go_wp2_with fail
  refine (cC _).out.mono ?_
  rintro e w4 ⟨rfl, b4⟩
  have hTW := W_hid (show ∃ A, TW b1' tg sg mb 12 3 1000 0 0 A Sn D0 w4 from by obtain ⟨A, h⟩ := hTW.out; exact ⟨A, h.keep b4⟩)
  have B4 := W_hid (B3.out.trans (b4.mono B3.out.size))
  clear b4
  go_wp2_with fail
  refine (cQ.out _).mono ?_
  rintro e w5 ⟨rg, rfl, hRS, b5⟩
  have hTW := W_hid (show ∃ A, TW b1' tg sg mb 12 3 1000 0 0 A Sn D0 w5 from by obtain ⟨A, h⟩ := hTW.out; exact ⟨A, h.keep b5⟩)
  have hB2 : w.heap.size ≤ w4.heap.size := B4.out.size
  rw [show ([] : List (Nat × IN.Nd)) = IN.lst (fun _ => none) 12 from (List.eq_nil_iff_forall_not_mem.2 fun x hx => by have := (IN.mem_lst.1 hx).2.2; cases this).symm] at hRS
  have cT := W_hid (rNewT (I := 12) (B := 1000) (L := 3) w5 hRS (by decide) (by decide))
  have B5 := W_hid (B4.out.trans (b5.mono B4.out.size))
  clear hRS b5 cQ
  go_wp2_with fail
  refine cT.out.mono ?_
  rintro e w6 ⟨rt, rfl, hRW, hK⟩
  have hTW := W_hid (show ∃ A, TW b1' tg sg mb 12 3 1000 0 0 A Sn D0 w6 from by obtain ⟨A, h⟩ := hTW.out; exact ⟨A, TW_other h hK⟩)
  have B6 := W_hid (B5.out.trans ((RN.below_keeps hK).mono hB2))
  obtain ⟨b2', hb2'⟩ : ∃ x, w4.heap.size = x := ⟨_, rfl⟩
  rw [hb2'] at hRW hB2
  replace hb2' := W_hid hb2'
  replace hRW := W_hid hRW
  clear cT hK B5 B4 B3 B2
  go_wp2_with fail
  go_loopw [12] (fun v wr => ∃ (j : Nat) (S : Int → Option IN.Nd) (D : Ds), j ≤ n1 ∧ j ≤ 100 ∧ v = .int .i64 (j : Int) ∧ Hid (∃ A, TW b1' tg sg mb 12 3 1000 0 j A S D wr) ∧ Hid (RW b2' rt rg 12 1000 3 (2 * j) S D (kap D) wr) ∧ Hid (Below w.heap.size w wr)) (fun v _ => n1 - (intOf v).toNat)
  case atStart => exact ⟨0, _, _, by omega, by omega, rfl, hTW, hRW, B6⟩
  case round =>
    clear hTW B6 hRW
    obtain ⟨j, S, D, hj, hj2, rfl, hTW, hRW, hb⟩ := hrel
    by_cases hlt : j < n1 ∧ j < 100
    · obtain ⟨hl1, hl2⟩ := hlt
      obtain ⟨blk, off, rfl, hblk, hc0, hc1, hc2, hc3, z1, z2, z3, z4, z5, z6⟩ := hops.out j (by rw [hll.out]; exact hl1)
      obtain ⟨⟨kd, s, t, n⟩, hx⟩ : ∃ x, l1[j]'(by rw [hll.out]; exact hl1) = x := ⟨_, rfl⟩
      rw [hx] at hc0 hc1 hc2 hc3 z1 z2 z3 z4 z5 z6
      simp only at hc0 hc1 hc2 hc3 z1 z2 z3 z4 z5 z6
      have kk : ∀ {a : Nat} {u : Value}, w.cell? ⟨blk, a, none⟩ = some u → wr.cell? ⟨blk, a, none⟩ = some u := fun {a u} hc => by rw [hb.out.cell (p := ⟨blk, a, none⟩) hblk]; exact hc
      have k0 := kk hc0
      have k1 := kk hc1
      have k2 := kk hc2
      have k3 := kk hc3
      obtain ⟨A1, hT1⟩ := hTW.out
      have cD := W_hid (does12 (B0 := w.heap.size) kd n s t wr hT1 hRW.out (by assumption) (by assumption) (by decide) (by decide) (by omega) (by omega) hB1 hB2 hb.out.size)
      clear kk hc0 hc1 hc2 hc3 hx hT1
      go_wp2_with fail
      refine cD.out.mono ?_
      rintro e w7 ⟨rfl, S', D', hT7, hR7, b7⟩
      replace hT7 := W_hid hT7
      replace hR7 := W_hid hR7
      have B7 := W_hid (hb.out.trans b7)
      clear cD k0 k1 k2 k3 b7
      go_wp2_with fail
      go_roundw
      case rel => exact ⟨j + 1, S', D', by omega, by omega, by go_num, hT7, hR7, B7⟩
      case measure => simp [intOf]; omega
    · have hex : (¬ j < n1) ∨ (j < n1 ∧ ¬ j < 100) := by omega
      have hfin := W_hid (show PW b1' tg sg mb 100 S D wr from by obtain ⟨A, h⟩ := hTW.out; exact ⟨A, h.more hj2⟩)
      clear hTW hRW
      rcases hex with h1 | ⟨h1, h2⟩ <;>
      · go_wp2_with fail
        go_ret3
        exact RunOut.mk rfl hB1 hfin.out hb.out
end NT
end Go.Proofs.YtmnmheocmcmpmaaGreat

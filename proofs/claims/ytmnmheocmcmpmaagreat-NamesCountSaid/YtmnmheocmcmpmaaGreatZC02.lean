/- Names that stay short; plain. -/
import Derived.Test.YtmnmheocmcmpmaaGreatZC01
import Derived.Test.YtmnmheocmcmpmaaGreatZB06
import Derived.Deep.Slices

namespace Go.Proofs.YtmnmheocmcmpmaaGreat
open Go.ChangeShapes Go.WideShapes Go.ChangeAt Go.RowKit
set_option linter.unusedVariables false
set_option linter.unusedSimpArgs false
theorem XS.drew {w : World} {ao : Option Addr} {n cap : Nat} {l : List (Int × ByteArray)} (h : XS w ao n cap l) : XS w.drew ao n cap l := h
theorem Own.lies {w : World} {base e size n : Nat} {v : Value} {xs : List Value} (h : w.ownsRow base e size v n xs) (hn : 0 < n) : ∃ g cap, v = .slice (some ⟨g, 0, none⟩) n cap ∧ base ≤ g ∧ g < w.heap.size ∧ n ≤ cap := by
  rcases h.2 with ⟨_, h0⟩ | ⟨g, cap, cur, h1, h2, h3, h4, _⟩
  · omega
  · refine ⟨g, cap, h1, h2, ?_, h4⟩
    rcases Nat.lt_or_ge g w.heap.size with hlt | hge
    · exact hlt
    · rw [Array.getElem?_eq_none hge] at h3; cases h3
theorem BR.set {w : World} {g : Nat} {bs : List UInt8} (h : BR w g bs) (j : Nat) (c : UInt8) : BR (w.setCell ⟨g, j, none⟩ (.int .u8 (c.toNat : Int))) g (bs.set j c) := by
  have := heap_setCell_same w g j (cel bs).toArray 5 (.int .u8 (c.toNat : Int)) h
  unfold BR
  rw [this]
  congr 2
  apply Array.toList_inj.1
  rw [Array.toList_setIfInBounds]
  simp [cel, List.map_set]
theorem BR.fz {w : World} {g : Nat} {bs : List UInt8} (h : BR w g bs) (j : Nat) : w.frozen? ⟨g, j, none⟩ = false := frozen_of_row w g j (cel bs).toArray 5 h
theorem BR.cell {w : World} {g : Nat} {bs : List UInt8} (h : BR w g bs) (j : Nat) (hj : j < bs.length) : w.cell? ⟨g, j, none⟩ = some (.int .u8 (bs[j].toNat : Int)) := by
  rw [cell_of_row w g j _ _ _ h]
  simp [cel, hj]
namespace IN
section
variable {base : Nat} {rg : Nat} {I B L k : Nat} {S : Int → Option Nd} {z3 z4 z5 z6 : Int} {v : Value} {q : List RE}
end
end IN
end Go.Proofs.YtmnmheocmcmpmaaGreat

namespace Go.Proofs.YtmnmheocmcmpmaaGreat
open Go.ChangeShapes Go.WideShapes Go.ChangeAt Go.RowKit Go.Maps
open Go.ChangeMaps (open_string shut_string)
set_option linter.unusedVariables false
set_option linter.unusedSimpArgs false
abbrev OpT12 := Int × ByteArray × ByteArray × Int
def OS12 (w : World) (a : Option Addr) (len cap : Nat) (l : List OpT12) : Prop :=
  len ≤ maxLen ∧ l.length = len ∧ ∀ j (hj : j < l.length), ∃ blk off, a = some ⟨blk, off, none⟩ ∧ blk < w.heap.size ∧ w.cell? ⟨blk, off + j * 4, none⟩ = some (.int .i64 l[j].1) ∧ w.cell? ⟨blk, off + j * 4 + 1, none⟩ = some (.string l[j].2.1) ∧ w.cell? ⟨blk, off + j * 4 + 2, none⟩ = some (.string l[j].2.2.1) ∧ w.cell? ⟨blk, off + j * 4 + 3, none⟩ = some (.int .i64 l[j].2.2.2) ∧ -9223372036854775808 ≤ l[j].1 ∧ l[j].1 ≤ 9223372036854775807 ∧ l[j].2.1.size ≤ maxLen ∧ l[j].2.2.1.size ≤ maxLen ∧ -9223372036854775808 ≤ l[j].2.2.2 ∧ l[j].2.2.2 ≤ 9223372036854775807
set_option maxRecDepth 100000 in
theorem open_ops12 {H : Type} {enc : TypeId × Value → H} {W : World} {r : Reach} {b0 : Nat} {v : Value} {d : DataW H} {p : List MemPlace} (hv : Value.okWide Tryz.prog W r b0 22 v)
    (h : DataW.Trod enc Tryz.prog W 0 (fun _ => true) true 22 v d p) :
    ∃ (ao : Option Addr) (n cap : Nat) (l : List OpT12), v = .slice ao n cap ∧ OS12 W ao n cap l := by
  obtain ⟨a, len, cap, rfl⟩ := okWide_slice Tryz.underlying22 hv
  obtain ⟨fuel, hf⟩ := h
  rcases Deep.open_slice Tryz.underlying22 hf with ⟨e1, -⟩ | ⟨x, len', cap', m, n, D, Pl, e1, hb, hl, hm, hmm, -, hx⟩
  · simp [Value.cells] at e1
    obtain ⟨rfl, rfl, rfl⟩ := e1
    exact ⟨none, 0, 0, [], rfl, Nat.zero_le _, rfl, fun j hj => by simp at hj⟩
  · simp [Value.cells] at e1
    obtain ⟨rfl, rfl, rfl⟩ := e1
    have hlm : len ≤ m := by rw [hmm]; split <;> omega
    have each : ∀ i, i < len → ∃ q : OpT12, W.cell? (x.add (i * 4)) = some (.int .i64 q.1) ∧ W.cell? (x.add (i * 4 + 1)) = some (.string q.2.1) ∧ W.cell? (x.add (i * 4 + 2)) = some (.string q.2.2.1) ∧ W.cell? (x.add (i * 4 + 3)) = some (.int .i64 q.2.2.2) ∧ -9223372036854775808 ≤ q.1 ∧ q.1 ≤ 9223372036854775807 ∧ q.2.1.size ≤ maxLen ∧ q.2.2.1.size ≤ maxLen ∧ -9223372036854775808 ≤ q.2.2.2 ∧ q.2.2.2 ≤ 9223372036854775807 := by
      intro i hi
      obtain ⟨cs', h1, h2⟩ := hx i (by omega)
      rw [show Tryz.prog.cellsOf 40 = 4 from by kernel_rfl] at h1
      obtain ⟨_, hlen, hcell⟩ := World.cells?_some h1
      obtain ⟨xs, k, hk, hxy, _, hxl, hff⟩ := DataW.trod_struct Tryz.underlying40 h2
      match xs, hxl, cs', hlen with
      | [y0, y1, y2, y3], _, [v0, v1, v2, v3], _ =>
        have g0 := hff 0 _ rfl
        have g1 := hff 1 _ rfl
        have g2 := hff 2 _ rfl
        have g3 := hff 3 _ rfl
        have t0 : Tryz.prog.cellsOf 3 = 1 := by kernel_rfl
        have t1 : Tryz.prog.cellsOf 9 = 1 := by kernel_rfl
        simp [t0, t1] at g0 g1 g2 g3
        have e0 := hcell 0 (by omega)
        have e1 := hcell 1 (by omega)
        have e2 := hcell 2 (by omega)
        have e3 := hcell 3 (by omega)
        rw [Deep.add_add] at e0 e1 e2 e3
        obtain ⟨z0, q0, -, b0⟩ := DataW.trod_int Tryz.underlying3 g0
        have b0' := bounds_i64 b0
        obtain ⟨z1, q1, -, b1⟩ := DataW.trod_string Tryz.underlying9 g1
        obtain ⟨z2, q2, -, b2⟩ := DataW.trod_string Tryz.underlying9 g2
        obtain ⟨z3, q3, -, b3⟩ := DataW.trod_int Tryz.underlying3 g3
        have b3' := bounds_i64 b3
        simp at q0 q1 q2 q3
        subst q0 q1 q2 q3
        exact ⟨(z0, z1, z2, z3), by simpa using e0, by simpa using e1, by simpa using e2, by simpa using e3, b0'.1, b0'.2, b1, b2, b3'.1, b3'.2⟩
    have key : ∀ k, k ≤ len → ∃ l : List OpT12, l.length = k ∧ ∀ j (hj : j < l.length), W.cell? (x.add (j * 4)) = some (.int .i64 l[j].1) ∧ W.cell? (x.add (j * 4 + 1)) = some (.string l[j].2.1) ∧ W.cell? (x.add (j * 4 + 2)) = some (.string l[j].2.2.1) ∧ W.cell? (x.add (j * 4 + 3)) = some (.int .i64 l[j].2.2.2) ∧ -9223372036854775808 ≤ l[j].1 ∧ l[j].1 ≤ 9223372036854775807 ∧ l[j].2.1.size ≤ maxLen ∧ l[j].2.2.1.size ≤ maxLen ∧ -9223372036854775808 ≤ l[j].2.2.2 ∧ l[j].2.2.2 ≤ 9223372036854775807 := by
      intro k
      induction k with
      | zero => exact fun _ => ⟨[], rfl, fun j hj => by simp at hj⟩
      | succ k ih =>
        intro hk
        obtain ⟨l, h1, h2⟩ := ih (by omega)
        obtain ⟨q, hq⟩ := each k (by omega)
        refine ⟨l ++ [q], by simp [h1], fun j hj => ?_⟩
        by_cases hjl : j < l.length
        · rw [List.getElem_append_left hjl]; exact h2 j hjl
        · have : j = k := by simp at hj; omega
          subst this
          rw [List.getElem_append_right (by omega)]
          simpa [h1] using hq
    obtain ⟨l, h1, h2⟩ := key len (Nat.le_refl _)
    refine ⟨some x, len, cap, l, rfl, Nat.le_trans hl hm, h1, fun j hj => ?_⟩
    obtain ⟨c0, c1, c2, c3, hbn⟩ := h2 j hj
    obtain ⟨b, off, spot⟩ := x
    have h0 := (h2 0 (by omega)).1
    have hs : spot = none := by simpa [Addr.add] using World.cell?_spot h0
    subst hs
    rw [Addr.add_lit] at c0 c1 c2 c3
    exact ⟨b, off, rfl, cell_lt c0, c0, by rw [← Nat.add_assoc] at c1; exact c1, by rw [← Nat.add_assoc] at c2; exact c2, by rw [← Nat.add_assoc] at c3; exact c3, hbn⟩
end Go.Proofs.YtmnmheocmcmpmaaGreat

namespace Go.Proofs.YtmnmheocmcmpmaaGreat
open Go.ChangeShapes Go.WideShapes Go.ChangeAt Go.RowKit Go.Maps
set_option linter.unusedVariables false
set_option linter.unusedSimpArgs false
open RN
namespace NT
open IN (Keeps)
def PW (b1 tg sg mb c : Nat) (S : Int → Option IN.Nd) (D : Ds) (w : World) : Prop := ∃ A, TW b1 tg sg mb 12 3 1000 0 c A S D w
def FX (mb k : Nat) (o : Obj) : Prop := IN.PT mb k o ∨ (∃ es c, o = .map es c) ∨ ∃ c s, o = .cells c 163 s
section
variable {b1 tg sg mb c : Nat} {S S' : Int → Option IN.Nd} {D D' : Ds} {w w' : World}
theorem PW.low (h : PW b1 tg sg mb c S D w) : b1 ≤ w.heap.size := by
  obtain ⟨A, h⟩ := h
  exact h.tm.low
theorem PW.keep (h : PW b1 tg sg mb c S D w) (hb : Below w.heap.size w w') : PW b1 tg sg mb c S D w' := by
  obtain ⟨A, h⟩ := h
  exact ⟨A, h.keep hb⟩
theorem PW.more (h : PW b1 tg sg mb c S D w) {c' : Nat} (hc : c ≤ c') : PW b1 tg sg mb c' S D w := by
  obtain ⟨A, h⟩ := h
  exact ⟨A, h.more hc⟩
theorem PW.ti (h : PW b1 tg sg mb c S D w) : TI 12 c e0 S D := by
  obtain ⟨A, h⟩ := h
  exact h.ti
def PO (b1 tg sg mb c : Nat) (S : Int → Option IN.Nd) (D : Ds) (w w' : World) : Prop := PW b1 tg sg mb c S D w' ∧ Keeps b1 (FX mb) w w'
theorem PW.same (h : PW b1 tg sg mb c S D w) (hb : Below w.heap.size w w') : PO b1 tg sg mb (c + 1) S D w w' := ⟨(h.keep hb).more (by omega), Keeps.new hb h.low⟩
theorem lcl_any (D : Ds) : ∀ l : List (ByteArray × Int), lcl D l = kcl (l.map fun x => (x.1, x.2, kap D x.2))
  | [] => rfl
  | x :: l => by
    have ih := lcl_any D l
    unfold lcl at ih ⊢
    rw [List.flatMap_cons, ih, List.map_cons, show (x.1, x.2, kap D x.2) :: l.map (fun x => (x.1, x.2, kap D x.2)) = [(x.1, x.2, kap D x.2)] ++ l.map (fun x => (x.1, x.2, kap D x.2)) from rfl, kcl_app, kcl_one]
    rfl
def liK (D : Ds) (s : ByteArray) : List (ByteArray × Int × Int) := (li (listR D s)).map fun x => (x.1, x.2, kap D x.2)
theorem list_p (s : ByteArray) (hs : s.size ≤ maxLen) (w : World) (h : PW b1 tg sg mb c S D w) (hc : c < 65535) :
    Calls Tryz.prog 28 #[.pointer (some ⟨tg, 0, none⟩), .string s] w fun e w' => ∃ v, e = .returned (.tuple #[v, .int .i64 (er (listR D s))]) ∧ NE w' v (liK D s) ∧ Below w.heap.size w w' := by
  obtain ⟨A, h⟩ := h
  refine (List_all s hs w h hc).mono ?_
  rintro e w' ⟨v, rfl, ho, hb⟩
  refine ⟨v, rfl, ⟨w.heap.size, ?_⟩, hb⟩
  rw [lcl_any] at ho
  unfold liK
  rw [List.length_map]
  exact ho
theorem all_p (w : World) (h : PW b1 tg sg mb c S D w) : Calls Tryz.prog 21 #[.pointer (some ⟨sg, 0, none⟩)] w fun e w' => ∃ v, e = .returned v ∧ w'.ownsRow w.heap.size 49 6 v (IN.lst S 12).length (IN.stcl (IN.lst S 12)) ∧ Below w.heap.size w w' := by
  obtain ⟨A, h⟩ := h
  obtain ⟨M, hM⟩ := h.ps
  exact IN.All_any w hM
theorem find_p (s : ByteArray) (hs : s.size ≤ maxLen) (w : World) (h : PW b1 tg sg mb c S D w) :
    Calls Tryz.prog 26 #[.pointer (some ⟨tg, 0, none⟩), .string s] w fun e w' => e = .returned (.tuple #[.int .i64 (nu (findR D s)), .int .i64 (er (findR D s))]) ∧ Below w.heap.size w w' := by
  obtain ⟨A, h⟩ := h
  exact Find_all s hs w h
end
def RunP (P : Ds → Prop) (w : World) (e : Ending) (w' : World) : Prop := ∃ b1 tg sg mb S D, P D ∧ e = .returned (.tuple #[.pointer (some ⟨sg, 0, none⟩), .pointer (some ⟨tg, 0, none⟩), .bool true]) ∧ w.heap.size ≤ b1 ∧ PW b1 tg sg mb 100 S D w' ∧ Below w.heap.size w w'
theorem RunP.mk {P : Ds → Prop} {w w' : World} {e : Ending} {b1 tg sg mb : Nat} {S : Int → Option IN.Nd} {D : Ds} (h0 : P D) (h1 : e = .returned (.tuple #[.pointer (some ⟨sg, 0, none⟩), .pointer (some ⟨tg, 0, none⟩), .bool true])) (h2 : w.heap.size ≤ b1) (h3 : PW b1 tg sg mb 100 S D w') (h4 : Below w.heap.size w w') : RunP P w e w' := ⟨b1, tg, sg, mb, S, D, h0, h1, h2, h3, h4⟩
def RunOut (w : World) (e : Ending) (w' : World) : Prop := ∃ b1 tg sg mb S D, e = .returned (.tuple #[.pointer (some ⟨sg, 0, none⟩), .pointer (some ⟨tg, 0, none⟩), .bool true]) ∧ w.heap.size ≤ b1 ∧ PW b1 tg sg mb 100 S D w' ∧ Below w.heap.size w w'
set_option maxRecDepth 100000 in
set_option maxHeartbeats 16000000 in
theorem run_core (P : Ds → Prop) (o1 : Option Addr) (n1 c1 : Nat) (l1 : List OpT12) (w : World) (w1 : OS12 w o1 n1 c1 l1) (hP0 : P D0) (hPs : ∀ (j : Nat) (hj : j < l1.length) S D S' D', P D → Turn 12 3 S D l1[j].2.1 l1[j].2.2.1 l1[j].2.2.2 S' D' → P D') :
    Calls Tryz.prog 23 #[.slice o1 n1 c1] w (RunP P w) := by
  obtain ⟨hlen, hll, hops⟩ := w1
  have hlen2 : (n1 : Int) ≤ 9223372036854775807 := by unfold maxLen at hlen; omega
  have cC := fun w => W_hid (caps_any w)
  have hR : IN.Right 12 1000 3 := by unfold IN.Right; omega
  have cO := W_hid (fun w => opened12 12 1000 3 w hR)
  have cQ := W_hid (fun w => IN.rNew_yes 12 1000 3 0 0 0 0 w hR)
  have e1 : (12 : Int).toNat = 12 := rfl
  have e2 : (1000 : Int).toNat = 1000 := rfl
  have e3 : (3 : Int).toNat = 3 := rfl
  simp only [e1, e2, e3] at cO
  unfold IN.cap7 at cO cQ cC
  replace hops := W_hid hops
  replace hll := W_hid hll
  replace hP0 := W_hid hP0
  replace hPs := W_hid hPs
  clear hlen hR
  go_enter Tryz.func23, Tryz.ntmps23
  go_wp2_with fail
  refine (cC _).out.mono ?_
  rintro e w2 ⟨rfl, b2⟩
  have B2 := W_hid b2
  clear b2
  go_wp2_with fail
  refine (cO.out _).mono ?_
  rintro e w3 ⟨b1', sg, mb, tg, A, rfl, hb1, hP, hT, b3⟩
  have hB1 : w.heap.size ≤ b1' := Nat.le_trans B2.out.size hb1
  have hTW : Hid (∃ A, TW b1' tg sg mb 12 3 1000 0 0 A Sn D0 w3) := W_hid ⟨A, hT, hP, TI.new (by decide)⟩
  have B3 := W_hid (B2.out.trans (b3.mono B2.out.size))
  clear hP hT b3 cO hb1
  go_wp2_with fail
  refine (cC _).out.mono ?_
  rintro e w4 ⟨rfl, b4⟩
  have hTW := W_hid (show ∃ A, TW b1' tg sg mb 12 3 1000 0 0 A Sn D0 w4 from by obtain ⟨A, h⟩ := hTW.out; exact ⟨A, h.keep b4⟩)
  have B4 := W_hid (B3.out.trans (b4.mono B3.out.size))
  clear b4
  go_wp2_with fail
  refine (cQ.out _).mono ?_
  rintro e w5 ⟨rg, rfl, hRS, b5⟩
  have hTW := W_hid (show ∃ A, TW b1' tg sg mb 12 3 1000 0 0 A Sn D0 w5 from by obtain ⟨A, h⟩ := hTW.out; exact ⟨A, h.keep b5⟩)
  have hB2 : w.heap.size ≤ w4.heap.size := B4.out.size
  rw [show ([] : List (Nat × IN.Nd)) = IN.lst (fun _ => none) 12 from (List.eq_nil_iff_forall_not_mem.2 fun x hx => by have := (IN.mem_lst.1 hx).2.2; cases this).symm] at hRS
  have cT := W_hid (rNewT (I := 12) (B := 1000) (L := 3) w5 hRS (by decide) (by decide))
  have B5 := W_hid (B4.out.trans (b5.mono B4.out.size))
  clear hRS b5 cQ
  go_wp2_with fail
  refine cT.out.mono ?_
  rintro e w6 ⟨rt, rfl, hRW, hK⟩
  have hTW := W_hid (show ∃ A, TW b1' tg sg mb 12 3 1000 0 0 A Sn D0 w6 from by obtain ⟨A, h⟩ := hTW.out; exact ⟨A, TW_other h hK⟩)
  have B6 := W_hid (B5.out.trans ((RN.below_keeps hK).mono hB2))
  obtain ⟨b2', hb2'⟩ : ∃ x, w4.heap.size = x := ⟨_, rfl⟩
  rw [hb2'] at hRW hB2
  replace hb2' := W_hid hb2'
  replace hRW := W_hid hRW
  clear cT hK B5 B4 B3 B2
  go_wp2_with fail
  go_loopw [12] (fun v wr => ∃ (j : Nat) (S : Int → Option IN.Nd) (D : Ds), j ≤ n1 ∧ j ≤ 100 ∧ v = .int .i64 (j : Int) ∧ Hid (P D) ∧ Hid (∃ A, TW b1' tg sg mb 12 3 1000 0 j A S D wr) ∧ Hid (RW b2' rt rg 12 1000 3 (2 * j) S D (kap D) wr) ∧ Hid (Below w.heap.size w wr)) (fun v _ => n1 - (intOf v).toNat)
  case atStart => exact ⟨0, _, _, by omega, by omega, rfl, hP0, hTW, hRW, B6⟩
  case round =>
    clear hTW B6 hRW
    obtain ⟨j, S, D, hj, hj2, rfl, hPD, hTW, hRW, hb⟩ := hrel
    by_cases hlt : j < n1 ∧ j < 100
    · obtain ⟨hl1, hl2⟩ := hlt
      obtain ⟨blk, off, rfl, hblk, hc0, hc1, hc2, hc3, z1, z2, z3, z4, z5, z6⟩ := hops.out j (by rw [hll.out]; exact hl1)
      have hPj := fun S' D' => hPs.out j (by rw [hll.out]; exact hl1) S D S' D' hPD.out
      obtain ⟨⟨kd, s, t, n⟩, hx⟩ : ∃ x, l1[j]'(by rw [hll.out]; exact hl1) = x := ⟨_, rfl⟩
      rw [hx] at hPj
      simp only at hPj
      replace hPj := W_hid hPj
      rw [hx] at hc0 hc1 hc2 hc3 z1 z2 z3 z4 z5 z6
      simp only at hc0 hc1 hc2 hc3 z1 z2 z3 z4 z5 z6
      have kk : ∀ {a : Nat} {u : Value}, w.cell? ⟨blk, a, none⟩ = some u → wr.cell? ⟨blk, a, none⟩ = some u := fun {a u} hc => by rw [hb.out.cell (p := ⟨blk, a, none⟩) hblk]; exact hc
      have k0 := kk hc0
      have k1 := kk hc1
      have k2 := kk hc2
      have k3 := kk hc3
      obtain ⟨A1, hT1⟩ := hTW.out
      have cD := W_hid (does12 (B0 := w.heap.size) kd n s t wr hT1 hRW.out (by assumption) (by assumption) (by decide) (by decide) (by omega) (by omega) hB1 hB2 hb.out.size)
      clear kk hc0 hc1 hc2 hc3 hx hT1
      go_wp2_with fail
      refine cD.out.mono ?_
      rintro e w7 ⟨rfl, S', D', hTn, hT7, hR7, b7⟩
      have hPD7 := W_hid (hPj.out S' D' hTn)
      clear hTn hPj
      replace hT7 := W_hid hT7
      replace hR7 := W_hid hR7
      have B7 := W_hid (hb.out.trans b7)
      clear cD k0 k1 k2 k3 b7
      go_wp2_with fail
      go_roundw
      case rel => exact ⟨j + 1, S', D', by omega, by omega, by go_num, hPD7, hT7, hR7, B7⟩
      case measure => simp [intOf]; omega
    · have hex : (¬ j < n1) ∨ (j < n1 ∧ ¬ j < 100) := by omega
      have hfin := W_hid (show PW b1' tg sg mb 100 S D wr from by obtain ⟨A, h⟩ := hTW.out; exact ⟨A, h.more hj2⟩)
      clear hTW hRW
      rcases hex with h1 | ⟨h1, h2⟩ <;>
      · go_wp2_with fail
        go_ret3
        exact RunP.mk hPD.out rfl hB1 hfin.out hb.out
end NT
end Go.Proofs.YtmnmheocmcmpmaaGreat

namespace Go.Proofs.YtmnmheocmcmpmaaGreat
set_option linter.unusedVariables false
set_option linter.unusedSimpArgs false
open RN
namespace NT
theorem last_snoc {l : List ByteArray} (h : l ≠ []) : l.dropLast ++ [last l] = l := by
  have h1 := List.dropLast_concat_getLast h
  have h2 : last l = l.getLast h := by
    unfold last
    have : l.length - 1 < l.length := by have := List.length_pos_iff.2 h; omega
    rw [List.getLast_eq_getElem]
    simp [List.getD, this]
  rw [h2]; exact h1
theorem name_ne {k : ByteArray} (h : PM.name k = true) : k ≠ PM.dot ∧ k ≠ PM.dots := by
  unfold PM.name at h
  simp only [Bool.and_eq_true, decide_eq_true_eq] at h
  exact ⟨h.1.2, h.2⟩
theorem step_nm {D : Ds} {p : Int} {d : Dr} {k : ByteArray} (hD : D p = some d) (h : k ≠ PM.dot ∧ k ≠ PM.dots) : step D p k = (match look k d.l with | none => .error 11 | some m => .ok m) := by
  unfold step
  rw [hD]
  simp only
  rw [if_neg h.1, if_neg h.2]
  rfl
theorem find_of {D : Ds} {l : List ByteArray} {dir : Bool} {n : Int} (h1 : goes D 1 l = .ok n) (h2 : ¬ (dir = true ∧ D n = none)) : find D l dir = .ok n := by
  unfold find
  rw [h1]
  simp only
  rw [if_neg h2]
section
variable {I L c : Nat} {S : Int → Option IN.Nd} {D : Ds}
end
end NT
namespace NT
theorem anc_self {D : Ds} : ∀ {q : Nat} {n : Int}, Reach D q n → n ∈ anc D q n
  | 0, n, _ => by unfold anc; simp
  | q + 1, n, h => by unfold anc; simp
section
variable {I c : Nat} {S : Int → Option IN.Nd} {D : Ds}
end
end NT
namespace NT
def vis (D : Ds) : Nat → Int → List Int
  | 0, _ => []
  | f + 1, n => match D n with
    | none => []
    | some d => n :: d.l.flatMap fun y => vis D f y.2
def sumT (D : Ds) (g : Int → Nat) : Nat → Int → Nat
  | 0, _ => 0
  | f + 1, n => match D n with
    | none => 0
    | some d => (d.l.map fun y => g y.2 + sumT D g f y.2).sum
def wl (D : Ds) (g : Int → Nat) (m : Int) : Nat := match D m with
  | none => 0
  | some d => (d.l.map fun y => g y.2).sum
theorem sum_add {α : Type} (a b : α → Nat) : ∀ l : List α, (l.map fun y => a y + b y).sum = (l.map a).sum + (l.map b).sum
  | [] => rfl
  | x :: l => by
    have := sum_add a b l
    simp only [List.map_cons, List.sum_cons, this]
    omega
theorem sum_flat {α β : Type} (g : α → List β) (h : β → Nat) : ∀ l : List α, ((l.flatMap g).map h).sum = (l.map fun y => ((g y).map h).sum).sum
  | [] => rfl
  | x :: l => by
    have := sum_flat g h l
    rw [List.flatMap_cons, List.map_append, List.sum_append, this, List.map_cons, List.sum_cons]
theorem sum_le {α : Type} {a b : α → Nat} : ∀ {l : List α}, (∀ x ∈ l, a x ≤ b x) → (l.map a).sum ≤ (l.map b).sum
  | [], _ => Nat.le_refl _
  | x :: l, h => by
    have h1 := h x List.mem_cons_self
    have h2 := sum_le (l := l) fun y hy => h y (List.mem_cons_of_mem _ hy)
    simp only [List.map_cons, List.sum_cons]
    omega
theorem sum_const {α : Type} (c : Nat) : ∀ l : List α, (l.map fun _ => c).sum = l.length * c
  | [] => by simp
  | x :: l => by
    rw [List.map_cons, List.sum_cons, sum_const c l, List.length_cons, Nat.add_mul]
    omega
theorem vis_none {D : Ds} {f : Nat} {n : Int} (h : D n = none) : vis D f n = [] := by
  cases f with
  | zero => rfl
  | succ f => unfold vis; rw [h]
theorem sumT_none {D : Ds} {g : Int → Nat} {f : Nat} {n : Int} (h : D n = none) : sumT D g f n = 0 := by
  cases f with
  | zero => rfl
  | succ f => unfold sumT; rw [h]
theorem sum_vis (D : Ds) (g : Int → Nat) : ∀ (f : Nat) (n : Int), sumT D g f n = ((vis D f n).map (wl D g)).sum
  | 0, n => rfl
  | f + 1, n => by
    unfold sumT vis
    cases hD : D n with
    | none => rfl
    | some d =>
      simp only
      rw [sum_add, List.map_cons, List.sum_cons, sum_flat]
      have h1 : wl D g n = (d.l.map fun y => g y.2).sum := by unfold wl; rw [hD]
      rw [h1]
      congr 1
      congr 1
      exact List.map_congr_left fun y _ => sum_vis D g f y.2
def one (x j : Int) : Nat := if j = x then 1 else 0
theorem wl_one (D : Ds) (x m : Int) : wl D (one x) m = cl D m x := by
  unfold wl cl
  cases D m with
  | none => rfl
  | some d =>
    simp only [Option.map_some, Option.getD_some]
    unfold cntL
    induction d.l with
    | nil => rfl
    | cons y l ih =>
      rw [List.map_cons, List.sum_cons, List.countP_cons, ih]
      unfold one
      by_cases e : y.2 = x <;> simp [e] <;> omega
section
variable {I c : Nat} {S : Int → Option IN.Nd} {D : Ds}
theorem anc_depth {D : Ds} : ∀ {k : Nat} {m y y' : Int} {b : Nat}, Reach D k m → y ∈ anc D k m → y' ∈ anc D k m → Reach D b y → Reach D b y' → y = y'
  | 0, m, y, y', b, _, h1, h2, _, _ => by
    rw [show anc D 0 m = [m] from rfl, List.mem_singleton] at h1 h2
    rw [h1, h2]
  | k + 1, m, y, y', b, hr, h1, h2, h3, h4 => by
    have hr0 := hr
    obtain ⟨-, x, hx, hr2⟩ := hr
    have e : anc D (k + 1) m = m :: anc D k x.up := by
      show m :: (match D m with | none => [] | some y => anc D k y.up) = _
      rw [hx]
    rw [e, List.mem_cons] at h1 h2
    have low : ∀ z, z ∈ anc D k x.up → Reach D b z → b ≤ k := fun z hz hb => by
      obtain ⟨q', h5, h6⟩ := anc_reach hr2 z hz
      have := reach_one hb h6
      omega
    rcases h1 with rfl | h1
    · have hb := reach_one h3 hr0
      rcases h2 with rfl | h2
      · rfl
      · have := low _ h2 h4; omega
    · rcases h2 with rfl | h2
      · have hb := reach_one h4 hr0
        have := low _ h1 h3; omega
      · exact anc_depth hr2 h1 h2 h3 h4
theorem anc_up {D : Ds} : ∀ {k : Nat} {m y : Int} {dy : Dr}, Reach D k m → y ∈ anc D k m → D y = some dy → y ≠ 1 → dy.up ∈ anc D k m
  | 0, m, y, dy, hr, h1, hD, hy => by
    rw [show anc D 0 m = [m] from rfl, List.mem_singleton] at h1
    exact absurd (h1.trans hr) hy
  | k + 1, m, y, dy, hr, h1, hD, hy => by
    obtain ⟨-, x, hx, hr2⟩ := hr
    have e : anc D (k + 1) m = m :: anc D k x.up := by
      show m :: (match D m with | none => [] | some y => anc D k y.up) = _
      rw [hx]
    rw [e, List.mem_cons] at h1 ⊢
    rcases h1 with rfl | h1
    · rw [hx] at hD
      cases hD
      exact .inr (anc_self hr2)
    · exact .inr (anc_up hr2 h1 hD hy)
theorem kid (h : TI I c e0 S D) {n : Int} {d : Dr} {a : Nat} {y : ByteArray × Int} (hD : D n = some d) (hr : Reach D a n) (hy : y ∈ d.l) (hb : D y.2 ≠ none) : y.2 ≠ 1 ∧ Reach D (a + 1) y.2 ∧ ∀ db, D y.2 = some db → db.up = n := by
  obtain ⟨db, hdb⟩ := Option.ne_none_iff_exists'.1 hb
  have hl := look_asc (h.asc n d hD).1 y hy
  have hat : at_ D n y.1 = some y.2 := by unfold at_; rw [hD]; exact hl
  have hup := (h.ent n d y.1 y.2 hD hl).2
  exact ⟨h.not1 (by simp) hat, ⟨h.not1 (by simp) hat, db, hdb, by rw [hup db hdb]; exact hr⟩, hup⟩
theorem vis_in (h : TI I c e0 S D) : ∀ {f : Nat} {n m : Int} {a : Nat}, Reach D a n → m ∈ vis D f n → D m ≠ none ∧ ∃ k, a ≤ k ∧ Reach D k m ∧ n ∈ anc D k m
  | 0, n, m, a, _, hm => by cases hm
  | f + 1, n, m, a, hr, hm => by
    unfold vis at hm
    cases hD : D n with
    | none => rw [hD] at hm; cases hm
    | some d =>
      rw [hD] at hm
      rcases List.mem_cons.1 hm with rfl | hm
      · exact ⟨by rw [hD]; simp, a, Nat.le_refl _, hr, anc_self hr⟩
      · obtain ⟨y, hy, hm2⟩ := List.mem_flatMap.1 hm
        have hb : D y.2 ≠ none := fun e => by rw [vis_none e] at hm2; cases hm2
        obtain ⟨y1, y2, y3⟩ := kid h hD hr hy hb
        obtain ⟨h1, k, h2, h3, h4⟩ := vis_in h y2 hm2
        refine ⟨h1, k, by omega, h3, ?_⟩
        obtain ⟨db, hdb⟩ := Option.ne_none_iff_exists'.1 hb
        have := anc_up h3 h4 hdb y1
        rw [y3 db hdb] at this
        exact this
theorem flat_nodup {α β : Type} {g : α → List β} : ∀ {l : List α}, (∀ y ∈ l, (g y).Nodup) → l.Pairwise (fun y y' => ∀ m, m ∈ g y → m ∈ g y' → False) → (l.flatMap g).Nodup
  | [], _, _ => List.nodup_nil
  | x :: l, h1, h2 => by
    rw [List.flatMap_cons, List.nodup_append]
    rw [List.pairwise_cons] at h2
    refine ⟨h1 x List.mem_cons_self, flat_nodup (fun y hy => h1 y (List.mem_cons_of_mem _ hy)) h2.2, fun a ha b hb e => ?_⟩
    subst e
    obtain ⟨y, hy, hm⟩ := List.mem_flatMap.1 hb
    exact h2.1 y hy a ha hm
theorem once : ∀ {l : List (ByteArray × Int)}, (∀ j, D j ≠ none → cntL j l ≤ 1) → l.Pairwise fun y y' => y.2 = y'.2 → D y.2 = none
  | [], _ => List.Pairwise.nil
  | x :: l, h => by
    refine List.pairwise_cons.2 ⟨fun y hy e => Decidable.byContradiction fun hb => ?_, once fun j hj => ?_⟩
    · have h1 := h x.2 hb
      unfold cntL at h1
      rw [List.countP_cons] at h1
      have : 0 < l.countP (fun z => decide (z.2 = x.2)) := List.countP_pos_iff.2 ⟨y, hy, by simp [e]⟩
      simp only [decide_true, if_true] at h1
      omega
    · have h1 := h j hj
      unfold cntL at h1 ⊢
      rw [List.countP_cons] at h1
      omega
theorem vis_nodup (h : TI I c e0 S D) : ∀ {f : Nat} {n : Int} {a : Nat}, Reach D a n → (vis D f n).Nodup
  | 0, n, a, _ => List.nodup_nil
  | f + 1, n, a, hr => by
    unfold vis
    cases hD : D n with
    | none => exact List.nodup_nil
    | some d =>
      simp only
      have hkid := fun (y : ByteArray × Int) (hy : y ∈ d.l) (m : Int) (hm : m ∈ vis D f y.2) => show D y.2 ≠ none ∧ Reach D (a + 1) y.2 from by
        have hb : D y.2 ≠ none := fun e => by rw [vis_none e] at hm; cases hm
        exact ⟨hb, (kid h hD hr hy hb).2.1⟩
      rw [List.nodup_cons]
      refine ⟨fun hm => ?_, flat_nodup (fun y hy => ?_) ?_⟩
      · obtain ⟨y, hy, hm2⟩ := List.mem_flatMap.1 hm
        obtain ⟨-, y2⟩ := hkid y hy n hm2
        obtain ⟨-, k, h2, h3, -⟩ := vis_in h y2 hm2
        have := reach_one hr h3
        omega
      · by_cases hb : D y.2 = none
        · rw [vis_none hb]; exact List.nodup_nil
        · exact vis_nodup h (kid h hD hr hy hb).2.1
      · have hone := once (D := D) (l := d.l) fun j hj => by
          obtain ⟨dj, hdj⟩ := Option.ne_none_iff_exists'.1 hj
          have h1 := h.dirs hdj
          obtain ⟨-, -, -, -, h2, h3⟩ := h.dir hD
          have h4 := cnt_ge (D := D) (j := j) h2 h3
          have h5 : cl D n j = cntL j d.l := by unfold cl; rw [hD]
          simp only [e0] at h1
          split at h1 <;> omega
        refine List.Pairwise.imp_of_mem ?_ hone
        intro y y' hy hy' hyy m hm hm'
        obtain ⟨b1, r1⟩ := hkid y hy m hm
        obtain ⟨b2, r2⟩ := hkid y' hy' m hm'
        obtain ⟨-, k, -, h3, h4⟩ := vis_in h r1 hm
        obtain ⟨-, k', -, h5, h6⟩ := vis_in h r2 hm'
        have := reach_one h3 h5
        subst this
        exact b1 (hyy (anc_depth h3 h4 h6 r1 r2))
theorem vis_step (h : TI I c e0 S D) {p m : Int} {key : ByteArray} {k : Nat} (hat : at_ D p key = some m) (hm : D m ≠ none) (hk : Reach D k p) : ∀ {f : Nat} {n : Int} {a : Nat}, Reach D a n → p ∈ vis D f n → k + 1 < a + f → m ∈ vis D f n
  | 0, n, a, _, hp, _ => by cases hp
  | f + 1, n, a, hr, hp, hlt => by
    unfold vis at hp ⊢
    cases hD : D n with
    | none => rw [hD] at hp; cases hp
    | some d =>
      rw [hD] at hp
      simp only at hp ⊢
      refine List.mem_cons_of_mem _ (List.mem_flatMap.2 ?_)
      rcases List.mem_cons.1 hp with rfl | hp
      · have := reach_one hk hr
        subst this
        obtain ⟨d2, h1, h2⟩ := at_look hat
        rw [hD] at h1
        cases h1
        refine ⟨(key, m), look_mem h2, ?_⟩
        cases f with
        | zero => omega
        | succ f =>
          obtain ⟨dm, hdm⟩ := Option.ne_none_iff_exists'.1 hm
          unfold vis
          rw [hdm]
          exact List.mem_cons_self
      · obtain ⟨y, hy, hp2⟩ := List.mem_flatMap.1 hp
        have hb : D y.2 ≠ none := fun e => by rw [vis_none e] at hp2; cases hp2
        exact ⟨y, hy, vis_step h hat hm hk (kid h hD hr hy hb).2.1 hp2 (by omega)⟩
theorem vis_all (h : TI I c e0 S D) {f : Nat} : ∀ {k : Nat} {m : Int}, Reach D k m → D m ≠ none → k < f → m ∈ vis D f 1
  | 0, m, hr, hm, hf => by
    rw [show m = 1 from hr]
    obtain ⟨d1, h1, -⟩ := h.root
    cases f with
    | zero => omega
    | succ f =>
      unfold vis
      rw [h1]
      exact List.mem_cons_self
  | k + 1, m, hr, hm, hf => by
    obtain ⟨hm1, x, hx, hr2⟩ := hr
    obtain ⟨key, hkey⟩ := h.up_names hx hm1 rfl
    obtain ⟨d2, h2⟩ := h.up m x hx
    exact vis_step h hkey hm hr2 (a := 0) rfl (vis_all h hr2 (by rw [h2]; simp) (by omega)) (by omega)
theorem cnt_vis (D : Ds) (x : Int) : ∀ (N : Nat) (V : List Int), V.Nodup → (∀ m ∈ V, 1 ≤ m ∧ m ≤ (N : Int)) → (∀ m, 1 ≤ m → m ≤ (N : Int) → m ∉ V → cl D m x = 0) → (V.map fun m => cl D m x).sum = cnt D x N
  | 0, V, hn, h1, h2 => by
    have : V = [] := List.eq_nil_iff_forall_not_mem.2 fun m hm => by have := h1 m hm; omega
    subst this
    rfl
  | N + 1, V, hn, h1, h2 => by
    unfold cnt
    by_cases hm : ((N : Int) + 1) ∈ V
    · have hp := List.perm_cons_erase hm
      have hs : (V.map fun m => cl D m x).sum = cl D ((N : Int) + 1) x + ((V.erase ((N : Int) + 1)).map fun m => cl D m x).sum := by
        rw [(hp.map _).sum_nat, List.map_cons, List.sum_cons]
      have ih := cnt_vis D x N (V.erase ((N : Int) + 1)) (hn.erase _) (fun m hm2 => by
        have h3 := (hn.mem_erase_iff).1 hm2
        have := h1 m h3.2
        have := h3.1
        omega) (fun m h3 h4 h5 => h2 m h3 (by omega) fun h6 => h5 ((hn.mem_erase_iff).2 ⟨by omega, h6⟩))
      rw [hs, ih]
      omega
    · have ih := cnt_vis D x N V hn (fun m hm2 => by
        have := h1 m hm2
        have : m ≠ (N : Int) + 1 := fun e => hm (by rw [← e]; exact hm2)
        omega) (fun m h3 h4 h5 => h2 m h3 (by omega) h5)
      rw [ih, h2 ((N : Int) + 1) (by omega) (by omega) hm]
      omega
theorem reach_lt (h : TI I c e0 S D) {k : Nat} {n : Int} (hr : Reach D k n) : k < I := by
  have := sub_len (anc_nodup hr) (b := (List.range I).map fun i => ((i + 1 : Nat) : Int)) fun m hm => by
    obtain ⟨q', -, h4⟩ := anc_reach hr m hm
    have h5 : D m ≠ none := by
      cases q' with
      | zero =>
        obtain ⟨d1, h1, -⟩ := h.root
        rw [show m = 1 from h4, h1]; simp
      | succ q' =>
        obtain ⟨-, x, hx, -⟩ := h4
        rw [hx]; simp
    obtain ⟨d, hd⟩ := Option.ne_none_iff_exists'.1 h5
    obtain ⟨-, -, -, -, h1, h2⟩ := h.dir hd
    exact List.mem_map.2 ⟨(m - 1).toNat, List.mem_range.2 (by omega), by omega⟩
  rw [anc_len hr, List.length_map, List.length_range] at this
  omega
theorem own_cnt (h : TI I c e0 S D) (x : Int) : sumT D (one x) I 1 = cnt D x I := by
  rw [sum_vis]
  have e : (vis D I 1).map (wl D (one x)) = (vis D I 1).map fun m => cl D m x := List.map_congr_left fun m _ => wl_one D x m
  rw [e]
  refine cnt_vis D x I (vis D I 1) (vis_nodup h (a := 0) rfl) (fun m hm => ?_) (fun m h1 h2 h3 => ?_)
  · obtain ⟨h4, -⟩ := vis_in h (a := 0) rfl hm
    obtain ⟨d, hd⟩ := Option.ne_none_iff_exists'.1 h4
    obtain ⟨-, -, -, -, h5, h6⟩ := h.dir hd
    exact ⟨h5, h6⟩
  · unfold cl
    cases hD : D m with
    | none => rfl
    | some d =>
      obtain ⟨k, hk⟩ := h.reach m d hD
      exact absurd (vis_all h hk (by rw [hD]; simp) (reach_lt h hk)) h3
theorem all_own {X : List Int} (hX : X.Nodup) (h : ∀ n d y, D n = some d → y ∈ d.l → y.2 ∈ X) : ∀ (f : Nat) (n : Int), sumT D (fun _ => 1) f n = (X.map fun x => sumT D (one x) f n).sum
  | 0, n => by
    unfold sumT
    rw [sum_const]
    rfl
  | f + 1, n => by
    have hz : (X.map fun _ => 0).sum = 0 := by rw [sum_const]; rfl
    unfold sumT
    cases hD : D n with
    | none => exact hz.symm
    | some d =>
      simp only
      have hsub : ∀ y ∈ d.l, y.2 ∈ X := fun y hy => h n d y hD hy
      generalize d.l = l at hsub
      induction l with
      | nil => simp only [List.map_nil, List.sum_nil]; exact hz.symm
      | cons y l ih =>
        rw [List.map_cons, List.sum_cons, ih fun z hz => hsub z (List.mem_cons_of_mem _ hz)]
        have e : (X.map fun x => ((y :: l).map fun z => one x z.2 + sumT D (one x) f z.2).sum).sum = (X.map fun x => one x y.2 + sumT D (one x) f y.2).sum + (X.map fun x => (l.map fun z => one x z.2 + sumT D (one x) f z.2).sum).sum := by
          rw [← sum_add]
          congr 1
        rw [e, sum_add, ← all_own hX h f y.2]
        have e1 : (X.map fun x => one x y.2).sum = 1 := by
          have hy := hsub y List.mem_cons_self
          generalize y.2 = j at hy
          clear e hsub ih hz h
          induction X with
          | nil => cases hy
          | cons x l ih =>
            rw [List.nodup_cons] at hX
            rw [List.map_cons, List.sum_cons]
            by_cases e : j = x
            · subst e
              have : (l.map fun x => one x j).sum = 0 := by
                have hh : ∀ l : List Int, j ∉ l → (l.map fun x => one x j).sum = 0 := fun l => by
                  induction l with
                  | nil => intro _; rfl
                  | cons z l ih2 =>
                    intro hz
                    rw [List.mem_cons, not_or] at hz
                    rw [List.map_cons, List.sum_cons, ih2 hz.2]
                    unfold one
                    rw [if_neg hz.1]
                exact hh l hX.1
              rw [this]
              unfold one
              rw [if_pos rfl]
            · rw [ih hX.2 (by rcases List.mem_cons.1 hy with h1 | h1; exact absurd h1 e; exact h1)]
              unfold one
              rw [if_neg e]
        rw [e1]
theorem sum_few (h : TI I c e0 S D) (g : Int → Nat) (hg : ∀ j, g j ≤ 1) {f : Nat} {n : Int} {a : Nat} (hr : Reach D a n) : sumT D g f n ≤ I * c := by
  rw [sum_vis]
  have h1 : ((vis D f n).map (wl D g)).sum ≤ ((vis D f n).map fun _ => c).sum := sum_le fun m hm => by
    unfold wl
    cases hD : D m with
    | none => exact Nat.zero_le _
    | some d =>
      have h2 : (d.l.map fun y => g y.2).sum ≤ (d.l.map fun _ => 1).sum := sum_le fun y _ => hg y.2
      have h3 : (d.l.map fun _ => 1).sum = d.l.length := by rw [sum_const, Nat.mul_one]
      have := (h.asc m d hD).2
      simp only
      omega
  have h2 : ((vis D f n).map fun _ => c).sum = (vis D f n).length * c := sum_const _ _
  have h3 := sub_len (vis_nodup h (f := f) hr) (b := (List.range I).map fun i => ((i + 1 : Nat) : Int)) fun m hm => by
    obtain ⟨h4, -⟩ := vis_in h hr hm
    obtain ⟨d, hd⟩ := Option.ne_none_iff_exists'.1 h4
    obtain ⟨-, -, -, -, h5, h6⟩ := h.dir hd
    exact List.mem_map.2 ⟨(m - 1).toNat, List.mem_range.2 (by omega), by omega⟩
  rw [List.length_map, List.length_range] at h3
  have := Nat.mul_le_mul_right c h3
  omega
end
end NT
namespace NT
def pth (ns : List ByteArray) : ByteArray := PM.str (47 :: PM.behind ns)
theorem str_app (a b : ByteArray) : (a ++ b).data.toList = a.data.toList ++ b.data.toList := by
  have : (a ++ b).data = a.data ++ b.data := by simp [ByteArray.data_append]
  rw [this, Array.toList_append]
theorem ba_ext {a b : ByteArray} (h : a.data.toList = b.data.toList) : a = b := by
  cases a with | mk a => cases b with | mk b => exact congrArg ByteArray.mk (Array.toList_inj.1 h)
theorem pth_list (ns : List ByteArray) : (pth ns).data.toList = 47 :: PM.behind ns := PM.str_list _
theorem pth_snoc (ns : List ByteArray) (x : ByteArray) : pth ns ++ ⟨#[47]⟩ ++ x = pth (ns ++ [x]) := by
  apply ba_ext
  rw [str_app, str_app, pth_list, pth_list, PM.behind_append]
  show (47 :: PM.behind ns ++ [47]) ++ x.data.toList = 47 :: (PM.behind ns ++ (47 :: (x.data.toList ++ [])))
  simp
theorem pth_up (ns : List ByteArray) : pth ns ++ ⟨#[47, 46, 46]⟩ = pth (ns ++ [PM.dots]) := by
  apply ba_ext
  rw [str_app, pth_list, pth_list, PM.behind_append]
  rfl
theorem pth_size (ns : List ByteArray) : (pth ns).size = PM.tot ns + 1 := by
  rw [← PM.list_size, pth_list, List.length_cons, PM.behind_length]
theorem split_behind : ∀ (ns acc : List ByteArray), (∀ x ∈ ns, PM.comp x = true) → PM.split [] acc (PM.behind ns) = some (acc ++ ns)
  | [], acc, _ => by
    show (if 32 < ([] : List UInt8).length then none else some (PM.emit [] acc)) = _
    rw [if_neg (by simp), PM.emit_nil, List.append_nil]
  | x :: ns, acc, h => by
    have hx := h x List.mem_cons_self
    have ih := split_behind ns (acc ++ [x]) fun y hy => h y (List.mem_cons_of_mem _ hy)
    show PM.split [] acc (47 :: (x.data.toList ++ PM.behind ns)) = _
    rw [PM.split_slash]
    cases ns with
    | nil =>
      show PM.split [] acc (x.data.toList ++ []) = _
      rw [List.append_nil, PM.split_name_end x hx]
    | cons y ns =>
      show PM.split [] acc (x.data.toList ++ 47 :: (y.data.toList ++ PM.behind ns)) = _
      rw [PM.split_name x hx, ← PM.split_slash]
      have : PM.split [] (acc ++ [x]) (47 :: (y.data.toList ++ PM.behind ns)) = some (acc ++ [x] ++ y :: ns) := ih
      rw [this]
      simp
theorem behind_no0 : ∀ (ns : List ByteArray), (∀ x ∈ ns, PM.comp x = true) → ∀ b ∈ PM.behind ns, b.toNat ≠ 0
  | [], _, b, hb => by cases hb
  | x :: ns, h, b, hb => by
    have hx := ((PM.comp_iff x).1 (h x List.mem_cons_self)).2.2
    rcases List.mem_cons.1 (show b ∈ 47 :: (x.data.toList ++ PM.behind ns) from hb) with rfl | hb
    · decide
    · rcases List.mem_append.1 hb with hb | hb
      · exact hx b hb
      · exact behind_no0 ns (fun y hy => h y (List.mem_cons_of_mem _ hy)) b hb
theorem pth_parse {ns : List ByteArray} (h : ∀ x ∈ ns, PM.comp x = true) (hl : PM.tot ns + 1 ≤ 256) : PM.perr (pth ns) = 0 ∧ PM.pN (pth ns) = ns ∧ (PM.pD (pth ns) = true → ns = []) := by
  have hsp : PM.split [] [] (pth ns).data.toList = some ns := by
    rw [pth_list, PM.split_slash, split_behind ns [] h, List.nil_append]
  have hp : PM.perr (pth ns) = 0 := by
    unfold PM.perr
    rw [if_neg (by rw [pth_size]; omega), if_neg (by rw [pth_size]; omega), if_neg, hsp]
    · rfl
    · unfold PM.has
      rw [pth_list]
      simp only [List.any_eq_true, not_exists, not_and]
      intro b hb
      rcases List.mem_cons.1 hb with rfl | hb
      · decide
      · simpa using behind_no0 ns h b hb
  refine ⟨hp, ?_, fun hd => ?_⟩
  · unfold PM.pN PM.names
    rw [if_pos hp, hsp]
    rfl
  · unfold PM.pD PM.last at hd
    rw [if_pos hp, pth_list] at hd
    exact Decidable.byContradiction fun hne => by
      obtain ⟨b, h1, h2⟩ := PM.behind_last ns hne h
      have hbn : PM.behind ns ≠ [] := fun e => by rw [e] at h1; cases h1
      rw [List.getLast?_cons_of_ne_nil hbn, h1] at hd
      simp at hd
      exact h2 hd
theorem tot_short : ∀ {ns : List ByteArray}, (∀ x ∈ ns, x.size ≤ 20) → PM.tot ns ≤ 21 * ns.length
  | [], _ => Nat.le_refl _
  | x :: ns, h => by
    have h1 := h x List.mem_cons_self
    have h2 := tot_short fun y hy => h y (List.mem_cons_of_mem _ hy)
    rw [PM.tot_cons, List.length_cons]
    omega
theorem find_pth {D : Ds} {ns : List ByteArray} {n : Int} (h : ∀ x ∈ ns, PM.comp x = true) (hl : PM.tot ns + 1 ≤ 256) (hg : goes D 1 ns = .ok n) (h1 : D 1 ≠ none) : findR D (pth ns) = .ok n := by
  obtain ⟨p1, p2, p3⟩ := pth_parse h hl
  rw [findR_ok p1, p2]
  refine find_of hg fun e => ?_
  have := p3 e.1
  subst this
  cases hg
  exact h1 e.2
end NT
end Go.Proofs.YtmnmheocmcmpmaaGreat

namespace Go.Proofs.YtmnmheocmcmpmaaGreat
open Go.ChangeShapes Go.WideShapes Go.ChangeAt Go.RowKit Go.Maps
set_option linter.unusedVariables false
set_option linter.unusedSimpArgs false
open RN
namespace NT
theorem take_sum {α : Type} (g : α → Nat) (l : List α) (j : Nat) (hj : j < l.length) : ((l.take (j + 1)).map g).sum = ((l.take j).map g).sum + g l[j] := by
  rw [List.take_succ_eq_append_getElem hj, List.map_append, List.sum_append]
  simp
theorem take_le {α : Type} (g : α → Nat) (l : List α) (j : Nat) : ((l.take j).map g).sum ≤ (l.map g).sum := by
  conv => rhs; rw [← List.take_append_drop j l, List.map_append, List.sum_append]
  omega
section
variable {b1 tg sg mb c : Nat} {S : Int → Option IN.Nd} {D : Ds}
set_option maxRecDepth 100000 in
set_option maxHeartbeats 32000000 in
theorem count_any (hti : TI 12 c e0 S D) (hc : c ≤ 100) (hsh : ∀ n d y, D n = some d → y ∈ d.l → y.1.size ≤ 20) (x : Int) : ∀ (f a : Nat) (n : Int) (ns : List ByteArray) (d : Dr), a + f = 12 → Reach D a n → D n = some d → ns.length = a → (∀ k ∈ ns, PM.comp k = true ∧ k.size ≤ 20) → goes D 1 ns = .ok n → ∀ W, PW b1 tg sg mb c S D W →
    Calls Tryz.prog 24 #[.pointer (some ⟨tg, 0, none⟩), .string (pth ns), .int .i64 x, .int .i64 (a : Int)] W fun e w' => e = .returned (.tuple #[.int .i64 (sumT D (fun _ => 1) f n : Int), .int .i64 (sumT D (one x) f n : Int), .bool true]) ∧ Below W.heap.size W w' := by
  intro f
  induction f with
  | zero =>
    intro a n ns d haf hr
    have := reach_lt hti hr
    omega
  | succ f ih =>
    intro a n ns d haf hr hD hna hns hgo W hP
    have h1n : D 1 ≠ none := by
      obtain ⟨d1, h1, -⟩ := hti.root
      rw [h1]; simp
    have htot := tot_short fun k hk => (hns k hk).2
    have hf0 := find_pth (fun k hk => (hns k hk).1) (by omega) hgo h1n
    have hsz : (pth ns).size ≤ 300 := by rw [pth_size]; omega
    have hss : (pth ns).size ≤ maxLen := by unfold maxLen; omega
    have cL := list_p (pth ns) hss W hP (by omega)
    have hls : listR D (pth ns) = .ok d.l := by unfold listR; rw [hf0]; simp only; rw [hD]
    have hli : liK D (pth ns) = d.l.map fun y => (y.1, y.2, kap D y.2) := by unfold liK; rw [hls]; rfl
    rw [hls, hli] at cL
    simp only [er] at cL
    have cF := W_hid (fun W' (hb : Below W.heap.size W W') => by
      have := find_p (pth ns) hss W' (hP.keep hb)
      rw [hf0] at this
      simp only [nu, er] at this
      exact this)
    obtain ⟨N, hN⟩ : ∃ N, d.l.length = N := ⟨_, rfl⟩
    have hNc : N ≤ 100 := by have := (hti.asc n d hD).2; omega
    have hall := sum_few hti (fun _ => 1) (fun _ => Nat.le_refl _) (f := f + 1) hr
    have hown := sum_few hti (one x) (fun j => by unfold one; split <;> omega) (f := f + 1) hr
    have hdef : ∀ g : Int → Nat, sumT D g (f + 1) n = (d.l.map fun y : ByteArray × Int => g y.2 + sumT D g f y.2).sum := fun g => by
      show (match D n with | none => 0 | some d => (d.l.map fun y : ByteArray × Int => g y.2 + sumT D g f y.2).sum) = _
      rw [hD]
    obtain ⟨ALL, hALL⟩ : ∃ ALL, sumT D (fun _ => 1) (f + 1) n = ALL := ⟨_, rfl⟩
    obtain ⟨OWN, hOWN⟩ : ∃ OWN, sumT D (one x) (f + 1) n = OWN := ⟨_, rfl⟩
    rw [hALL] at hall ⊢
    rw [hOWN] at hown ⊢
    rw [hdef] at hALL hOWN
    have hA0 : ALL ≤ 1200 := by have := Nat.mul_le_mul_left 12 hc; omega
    have hO0 : OWN ≤ 1200 := by have := Nat.mul_le_mul_left 12 hc; omega
    have ha12 : a < 12 := by omega
    replace hALL := W_hid hALL
    replace hOWN := W_hid hOWN
    -- one name of the directory
    have hone := W_hid (fun (j : Nat) (hj : j < d.l.length) (W' : World) (hb : Below W.heap.size W W') => show
        (Calls Tryz.prog 26 #[.pointer (some ⟨tg, 0, none⟩), .string (pth ns ++ ⟨#[47]⟩ ++ d.l[j].1)] W' fun e w' => e = .returned (.tuple #[.int .i64 d.l[j].2, .int .i64 0]) ∧ Below W'.heap.size W' w') ∧
        (D d.l[j].2 ≠ none → (Calls Tryz.prog 26 #[.pointer (some ⟨tg, 0, none⟩), .string (pth ns ++ ⟨#[47]⟩ ++ d.l[j].1 ++ ⟨#[47, 46, 46]⟩)] W' fun e w' => e = .returned (.tuple #[.int .i64 n, .int .i64 0]) ∧ Below W'.heap.size W' w') ∧
          (Calls Tryz.prog 24 #[.pointer (some ⟨tg, 0, none⟩), .string (pth ns ++ ⟨#[47]⟩ ++ d.l[j].1), .int .i64 x, .int .i64 ((a : Int) + 1)] W' fun e w' => e = .returned (.tuple #[.int .i64 (sumT D (fun _ => 1) f d.l[j].2 : Int), .int .i64 (sumT D (one x) f d.l[j].2 : Int), .bool true]) ∧ Below W'.heap.size W' w')) ∧ d.l[j].1.size ≤ 20 from by
      have hy := List.getElem_mem hj
      generalize d.l[j] = y at hy
      have hlk := look_asc (hti.asc n d hD).1 y hy
      have hnm := (hti.ent n d y.1 y.2 hD hlk).1
      have hcy : PM.comp y.1 = true := by
        unfold PM.name at hnm
        simp only [Bool.and_eq_true] at hnm
        exact hnm.1.1
      have hsy := hsh n d y hD hy
      have hns2 : ∀ k ∈ ns ++ [y.1], PM.comp k = true ∧ k.size ≤ 20 := fun k hk => by
        rcases List.mem_append.1 hk with hk | hk
        · exact hns k hk
        · rw [List.mem_singleton.1 hk]; exact ⟨hcy, hsy⟩
      have hgo2 : goes D 1 (ns ++ [y.1]) = .ok y.2 := by
        rw [goes_snoc, hgo]
        simp only
        rw [step_nm hD (name_ne hnm), hlk]
      have ht2 := tot_short fun k hk => (hns2 k hk).2
      rw [List.length_append, List.length_singleton] at ht2
      have hf2 := find_pth (fun k hk => (hns2 k hk).1) (by omega) hgo2 h1n
      refine ⟨?_, fun hdy => ⟨?_, ?_⟩, hsy⟩
      · have := find_p (pth (ns ++ [y.1])) (by rw [pth_size]; unfold maxLen; omega) W' (hP.keep hb)
        rw [hf2, ← pth_snoc] at this
        simp only [nu, er] at this
        exact this
      · obtain ⟨dy, hdy⟩ := Option.ne_none_iff_exists'.1 hdy
        have hup := (hti.ent n d y.1 y.2 hD hlk).2 dy hdy
        have hns3 : ∀ k ∈ ns ++ [y.1] ++ [PM.dots], PM.comp k = true := fun k hk => by
          rcases List.mem_append.1 hk with hk | hk
          · exact (hns2 k hk).1
          · rw [List.mem_singleton.1 hk]; decide
        have hgo3 : goes D 1 (ns ++ [y.1] ++ [PM.dots]) = .ok n := by
          rw [goes_snoc, hgo2]
          simp only
          unfold step
          rw [hdy]
          simp only
          rw [if_neg (by decide), if_pos trivial, hup]
        have ht3 : PM.tot (ns ++ [y.1] ++ [PM.dots]) ≤ 21 * (a + 1) + 3 := by
          rw [PM.tot_snoc]
          have : PM.dots.size = 2 := rfl
          omega
        have hf3 := find_pth hns3 (by omega) hgo3 h1n
        have := find_p (pth (ns ++ [y.1] ++ [PM.dots])) (by rw [pth_size]; unfold maxLen; omega) W' (hP.keep hb)
        rw [hf3, ← pth_up, ← pth_snoc] at this
        simp only [nu, er] at this
        exact this
      · obtain ⟨dy, hdy2⟩ := Option.ne_none_iff_exists'.1 hdy
        obtain ⟨-, hr2, -⟩ := kid hti hD hr hy hdy
        have := ih (a + 1) y.2 (ns ++ [y.1]) dy (by omega) hr2 hdy2 (by rw [List.length_append, List.length_singleton]; omega) hns2 hgo2 W' (hP.keep hb)
        rw [← pth_snoc] at this
        exact this)
    have hasc := W_hid (hti.asc n d hD).1
    generalize pth ns = p at *
    have hlow := W_hid hP.low
    replace cL := W_hid cL
    clear hP ih hns hgo hna htot hf0 hss hls hli hD hr h1n hsh hdef haf
    go_enter Tryz.func24, Tryz.ntmps24
    go_wp2_with fail
    refine cL.out.mono ?_
    rintro e w1 ⟨v, rfl, hNE, b1⟩
    obtain ⟨ao, cc, rfl⟩ := hNE.form
    rw [List.length_map, hN]
    rw [List.length_map, hN] at hNE
    have cF1 := W_hid (cF.out _ b1)
    have hNE := W_hid hNE
    have B1 := W_hid b1
    clear b1 cF cL
    go_wp2_with fail
    refine cF1.out.mono ?_
    rintro e w2 ⟨rfl, b2⟩
    have hNE := W_hid (hNE.out.keep b2)
    have B2 := W_hid (B1.out.trans (b2.mono B1.out.size))
    clear b2 B1 cF1
    go_wp2_with fail
    have hlow2 := B2.out.size
    go_loopw [15, 16, 17, 18, 19, 20, 21, 22, 23, 24, 25] (fun v15 v16 v17 v18 v19 v20 v21 v22 v23 v24 v25 wr => ∃ (j A O : Nat), j ≤ N ∧ v17 = .int .i64 (j : Int) ∧ v15 = .int .i64 (A : Int) ∧ v16 = .int .i64 (O : Int) ∧ Hid (((d.l.take j).map fun y : ByteArray × Int => 1 + sumT D (fun _ => 1) f y.2).sum = A) ∧ Hid (((d.l.take j).map fun y : ByteArray × Int => one x y.2 + sumT D (one x) f y.2).sum = O) ∧ Hid (Below w2.heap.size w2 wr)) (fun _ _ v17 _ _ _ _ _ _ _ _ _ => N - (intOf v17).toNat)
    case atStart => exact ⟨0, 0, 0, Nat.zero_le _, rfl, rfl, rfl, W_hid rfl, W_hid rfl, W_hid (Below.refl _ _)⟩
    case round =>
      obtain ⟨j, A, O, hj, rfl, rfl, rfl, hA, hO, hb⟩ := hrel
      have hbW := W_hid (B2.out.trans (hb.out.mono hlow2))
      by_cases hlt : j < N
      · have hjl : j < d.l.length := by rw [hN]; exact hlt
        obtain ⟨cF, -, hy20⟩ := hone.out j hjl wr hbW.out
        have hdir := fun (W' : World) (hb' : Below W.heap.size W W') => (hone.out j hjl W' hb').2.1
        have hN2 := hNE.out.keep hb.out
        obtain ⟨g, cap, hv, -, -, -, s0, s1, s2⟩ := hN2.el (i := j) (by rw [List.length_map]; exact hjl)
        simp only [Value.slice.injEq] at hv
        obtain ⟨rfl, -, -⟩ := hv
        rw [List.getElem_map] at s0 s1 s2
        have hA1 := take_sum (fun y : ByteArray × Int => 1 + sumT D (fun _ => 1) f y.2) d.l j hjl
        have hO1 := take_sum (fun y : ByteArray × Int => one x y.2 + sumT D (one x) f y.2) d.l j hjl
        have hA2 := take_le (fun y : ByteArray × Int => 1 + sumT D (fun _ => 1) f y.2) d.l (j + 1)
        have hO2 := take_le (fun y : ByteArray × Int => one x y.2 + sumT D (one x) f y.2) d.l (j + 1)
        rw [hA.out] at hA1
        rw [hO.out] at hO1
        rw [hALL.out] at hA2
        rw [hOWN.out] at hO2
        have hz : j = 0 ∨ ∃ i, j = i + 1 ∧ ∃ pk : ByteArray, wr.cell? ⟨g, i * 3, none⟩ = some (.string pk) ∧ Op.bytesLess pk.toList d.l[j].1.toList = true := by
          cases j with
          | zero => exact .inl rfl
          | succ i =>
            obtain ⟨g', cap', hv', -, -, -, t0, -, -⟩ := hN2.el (i := i) (by rw [List.length_map]; omega)
            simp only [Value.slice.injEq] at hv'
            obtain ⟨hg, -, -⟩ := hv'
            simp only [Option.some.injEq, Addr.mk.injEq, and_true] at hg
            subst hg
            rw [List.getElem_map] at t0
            exact .inr ⟨i, rfl, _, t0, List.pairwise_iff_getElem.1 hasc.out i (i + 1) (by omega) hjl (by omega)⟩
        obtain ⟨⟨y1, y2⟩, hy⟩ : ∃ y, d.l[j] = y := ⟨_, rfl⟩
        rw [hy] at cF hy20 s0 s1 s2 hA1 hO1 hz
        simp only [hy] at hdir
        simp only at cF hy20 s0 s1 s2 hA1 hO1 hz
        have hz0 : D y2 = none → sumT D (fun _ => 1) f y2 = 0 ∧ sumT D (one x) f y2 = 0 := fun h => ⟨sumT_none h, sumT_none h⟩
        generalize sumT D (fun _ => 1) f y2 = A1 at *
        generalize sumT D (one x) f y2 = O1 at *
        generalize hAn : ((d.l.take (j + 1)).map fun y : ByteArray × Int => 1 + sumT D (fun _ => 1) f y.2).sum = An at *
        generalize hOn : ((d.l.take (j + 1)).map fun y : ByteArray × Int => one x y.2 + sumT D (one x) f y.2).sum = On at *
        have hyy : (y2 != y2) = false := by simp
        replace cF := W_hid cF
        replace hAn := W_hid hAn
        replace hOn := W_hid hOn
        clear hy hN2 hjl hA hO
        unfold one at hO1
        replace hdir := W_hid hdir
        have hsz1 : (p ++ ⟨#[47]⟩ ++ y1 : ByteArray).size ≤ 400 := by
          have : (⟨#[47]⟩ : ByteArray).size = 1 := rfl
          rw [ByteArray.size_append, ByteArray.size_append]; omega
        have hd : (kap D y2 = 1 ∧ A1 = 0 ∧ O1 = 0) ∨ (kap D y2 = 2 ∧ Hid (D y2 ≠ none)) := by
          by_cases h : D y2 = none
          · exact .inl ⟨by unfold kap; rw [if_pos h], hz0 h⟩
          · exact .inr ⟨by unfold kap; rw [if_neg h], W_hid h⟩
        have hx : ∃ u : Nat, On = O + (u + O1) ∧ (((y2 == x) = true ∧ u = 1) ∨ ((y2 == x) = false ∧ ¬ y2 = x ∧ u = 0)) := by
          by_cases h : y2 = x
          · exact ⟨1, by rw [hO1, if_pos h], .inl ⟨by simp [h], rfl⟩⟩
          · exact ⟨0, by rw [hO1, if_neg h], .inr ⟨by simp [h], h, rfl⟩⟩
        obtain ⟨u, hO3, hx⟩ := hx
        generalize kap D y2 = kd at *
        clear hO1 hz0
        rcases hd with ⟨rfl, rfl, rfl⟩ | ⟨rfl, hdy⟩
        · rcases hx with ⟨hx1, rfl⟩ | ⟨hx1, hx2, rfl⟩ <;> rcases hz with rfl | ⟨i, rfl, pk, p0, hlt2⟩
          all_goals
            go_wp2_with fail
            refine cF.out.mono ?_
            rintro e w3 ⟨rfl, b3⟩
            have B3 := W_hid (hb.out.trans (b3.mono hb.out.size))
            have r0 := (b3.cell (cell_lt s0)).trans s0
            have r1 := (b3.cell (cell_lt s1)).trans s1
            have r2 := (b3.cell (cell_lt s2)).trans s2
            try have q0 := (b3.cell (cell_lt p0)).trans p0
            clear b3 cF s0 s1 s2
            go_wp2_with fail
            go_quiet (fail)
            have t2 := IN.cellkept (IN.drew_keep (w := w3) nq) r2
            obtain ⟨W0, hW0⟩ : ∃ W0, w3.drewN nq = W0 := ⟨_, rfl⟩
            rw [hW0] at t2
            have B0 : Hid (Below w2.heap.size w2 W0) := W_hid (by rw [← hW0]; exact ⟨B3.out.os, B3.out.tape, B3.out.output, B3.out.size, B3.out.block⟩)
            rw [hW0]
            clear hW0 r0 r1 r2 B3
            go_wp2_with fail
            go_roundw
            case rel => exact ⟨_, An, On, hlt, by go_num, by rw [hA1]; go_num, by rw [hO3]; go_num, hAn, hOn, B0⟩
            case measure => simp [intOf]; omega
        · rcases hx with ⟨hx1, rfl⟩ | ⟨hx1, hx2, rfl⟩ <;> rcases hz with rfl | ⟨i, rfl, pk, p0, hlt2⟩
          all_goals
            go_wp2_with fail
            refine cF.out.mono ?_
            rintro e w3 ⟨rfl, b3⟩
            have B3 := W_hid (hb.out.trans (b3.mono hb.out.size))
            have r0 := (b3.cell (cell_lt s0)).trans s0
            have r1 := (b3.cell (cell_lt s1)).trans s1
            have r2 := (b3.cell (cell_lt s2)).trans s2
            try have q0 := (b3.cell (cell_lt p0)).trans p0
            clear b3 cF s0 s1 s2
            go_wp2_with fail
            go_quiet (fail)
            have t2 := IN.cellkept (IN.drew_keep (w := w3) nq) r2
            obtain ⟨W0, hW0⟩ : ∃ W0, w3.drewN nq = W0 := ⟨_, rfl⟩
            rw [hW0] at t2
            have B0 : Hid (Below w2.heap.size w2 W0) := W_hid (by rw [← hW0]; exact ⟨B3.out.os, B3.out.tape, B3.out.output, B3.out.size, B3.out.block⟩)
            rw [hW0]
            clear hW0 r0 r1 r2 B3
            have cU := W_hid (hdir.out W0 (B2.out.trans (B0.out.mono hlow2)) hdy.out).1
            go_wp2_with fail
            refine cU.out.mono ?_
            rintro e w4 ⟨rfl, b4⟩
            have B4 := W_hid (B0.out.trans (b4.mono B0.out.size))
            have cC := W_hid (hdir.out w4 (B2.out.trans (B4.out.mono hlow2)) hdy.out).2
            clear b4 B0 cU t2
            go_wp2_with fail
            refine cC.out.mono ?_
            rintro e w5 ⟨rfl, b5⟩
            have B5 := W_hid (B4.out.trans (b5.mono B4.out.size))
            clear b5 B4 cC
            go_wp2_with fail
            go_roundw
            case rel => exact ⟨_, An, On, hlt, by go_num, by rw [hA1]; go_num, by rw [hO3]; go_num, hAn, hOn, B5⟩
            case measure => simp [intOf]; omega
      · obtain rfl : j = N := by omega
        have hA1 := hA.out
        have hO1 := hO.out
        rw [List.take_of_length_le (by rw [hN]; exact Nat.le_refl _)] at hA1 hO1
        have hA2 := hALL.out.symm.trans hA1
        have hO2 := hOWN.out.symm.trans hO1
        subst hA2
        subst hO2
        clear hA hO hA1 hO1 hALL hOWN hone
        go_wp2_with fail
        go_ret3
        exact ⟨rfl, hbW.out⟩
end
end NT
end Go.Proofs.YtmnmheocmcmpmaaGreat

namespace Go.Proofs.YtmnmheocmcmpmaaGreat
set_option linter.unusedVariables false
set_option linter.unusedSimpArgs false
open RN
namespace NT
def Shrt (D : Ds) : Prop := ∀ n d y, D n = some d → y ∈ d.l → y.1.size ≤ 20
theorem put_in {k : ByteArray} {n : Int} {l : List (ByteArray × Int)} {y : ByteArray × Int} (h : y ∈ put k n l) : y = (k, n) ∨ y ∈ l := by
  unfold put at h
  rcases List.mem_cons.1 ((ins_perm k n _).mem_iff.1 h) with h | h
  · exact .inl h
  · exact .inr (List.mem_filter.1 h).1
section
variable {D : Ds} {S : Int → Option IN.Nd} {n p : Int} {k : ByteArray}
theorem Shrt.put (h : Shrt D) (hk : k.size ≤ 20) : Shrt (putD D p k n) := fun m d y hd hy => by
  by_cases e : m = p
  · subst e
    unfold putD at hd
    rw [if_pos rfl] at hd
    obtain ⟨d0, h0, rfl⟩ := Option.map_eq_some_iff.1 hd
    rcases put_in hy with rfl | hy
    · exact hk
    · exact h m d0 y h0 hy
  · rw [putD_ne e] at hd; exact h m d y hd hy
theorem Shrt.cut (h : Shrt D) : Shrt (cutD D p k) := fun m d y hd hy => by
  by_cases e : m = p
  · subst e
    unfold cutD at hd
    rw [if_pos rfl] at hd
    obtain ⟨d0, h0, rfl⟩ := Option.map_eq_some_iff.1 hd
    exact h m d0 y h0 (List.mem_filter.1 hy).1
  · rw [cutD_ne e] at hd; exact h m d y hd hy
theorem Shrt.up (h : Shrt D) : Shrt (upD D n p) := fun m d y hd hy => by
  by_cases e : m = n
  · subst e
    unfold upD at hd
    rw [if_pos rfl] at hd
    obtain ⟨d0, h0, rfl⟩ := Option.map_eq_some_iff.1 hd
    exact h m d0 y h0 hy
  · rw [upD_ne e] at hd; exact h m d y hd hy
theorem Shrt.gone (h : Shrt D) : Shrt (upd D n none) := fun m d y hd hy => by
  by_cases e : m = n
  · rw [e, upd_at] at hd; cases hd
  · rw [upd_ne e] at hd; exact h m d y hd hy
theorem Shrt.mk (h : Shrt D) {kd : Int} (hk : k.size ≤ 20) : Shrt (mkD D p k n kd) := fun m d y hd hy => by
  unfold mkD at hd
  by_cases e : m = p
  · rw [if_pos e] at hd
    obtain ⟨d0, h0, rfl⟩ := Option.map_eq_some_iff.1 hd
    rcases put_in hy with rfl | hy
    · exact hk
    · exact h p d0 y h0 hy
  · rw [if_neg e] at hd
    by_cases e2 : m = n ∧ kd = 2
    · rw [if_pos e2] at hd; cases hd; cases hy
    · rw [if_neg e2] at hd; exact h m d y hd hy
theorem Shrt.mov (h : Shrt D) {pf pt : Int} {kf kt : ByteArray} (hk : kt.size ≤ 20) : Shrt (movD D pf kf pt kt n) := by
  have e : movD D pf kf pt kt n = upD (putD (cutD D pf kf) pt kt n) n pt := rfl
  rw [e]
  exact (h.cut.put hk).up
theorem last_short {s : ByteArray} (hs : s.size ≤ 20) : (last (PM.pN s)).size ≤ 20 := by
  by_cases hn : PM.pN s = []
  · rw [hn]; decide
  · have hp : PM.perr s = 0 := Decidable.byContradiction fun h => hn (by unfold PM.pN; rw [if_neg h])
    have h1 := (PM.parse_valid hp).2
    have h2 : [last (PM.pN s)].Sublist (PM.pN s) := by
      rw [List.singleton_sublist]
      have h4 : last (PM.pN s) ∈ (PM.pN s).dropLast ++ [last (PM.pN s)] := by simp
      rw [last_snoc hn] at h4
      exact h4
    have h3 := PM.tot_sub h2
    rw [PM.tot_cons, PM.tot_nil] at h3
    unfold PM.plen at h1
    omega
theorem mvS_short (h : Shrt D) {pf pt : Int} {kf kt : ByteArray} (hk : kt.size ≤ 20) : Shrt (mvS S D pf pt kf kt).2 := by
  unfold mvS
  simp only
  cases at_ D pt kt with
  | none => exact h.mov hk
  | some m =>
    simp only
    by_cases e : m = (at_ D pf kf).getD 0
    · rw [if_pos e]; exact h
    · rw [if_neg e]
      simp only
      by_cases e2 : D m = none
      · rw [if_pos e2]; exact h.mov hk
      · rw [if_neg e2]; exact (h.mov hk).gone
theorem D0_short : Shrt D0 := fun n d y hd hy => by
  obtain ⟨-, rfl⟩ := D0_at hd
  cases hy
theorem turn_short {I L : Nat} {s t : ByteArray} {S' : Int → Option IN.Nd} {D' : Ds} (h : Shrt D) (hs : s.size ≤ 20) (ht : t.size ≤ 20) (hT : Turn I L S D s t n S' D') : Shrt D' := by
  have hl1 := last_short hs
  have hl2 := last_short ht
  rcases hT with hT | hT | hT | hT | hT | hT
  · cases hT; exact h
  · have : D' = (mk I S D s n).2.2 := by rw [← hT]
    rw [this]
    unfold mk
    repeat' split
    all_goals first | exact h | exact h.mk hl1
  · have : D' = (lnk L S D s t).2.2 := by rw [← hT]
    rw [this]
    unfold lnk
    repeat' split
    all_goals first | exact h | exact h.put hl2
  · have : D' = (unlS S D s).2 := by rw [← hT]
    rw [this]
    unfold unlS
    repeat' split
    all_goals first | exact h | exact h.cut
  · have : D' = (rmdS S D s).2 := by rw [← hT]
    rw [this]
    unfold rmdS
    repeat' split
    all_goals first | exact h | exact h.cut.gone
  · have : D' = (ren S D s t).2.2 := by rw [← hT]
    rw [this]
    unfold ren
    repeat' split
    all_goals first | exact h | exact mvS_short h hl2
end
end NT
end Go.Proofs.YtmnmheocmcmpmaaGreat

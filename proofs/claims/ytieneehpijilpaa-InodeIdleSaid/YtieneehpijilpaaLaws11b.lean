/- The law InodeCounts of layer 11 (package haywardlaw11): for every input it returns true, and its arguments read as before. No further condition. -/
import Derived.Test.YtieneehpijilpaaLaws11
namespace Go.Proofs.Ytieneehpijilpaa
open Go.ChangeShapes Go.WideShapes Go.ChangeAt Go.RowKit
open Go.ChangeMaps (open_string shut_string)
set_option linter.unusedVariables false
set_option linter.unusedSimpArgs false

namespace IN
theorem lkR_some {L : Int} {S : Int → Option Nd} {n : Int} {d : Nd} (h : S n = some d) (hl : d.links < L) : lkR L S n = 0 := by simp [lkR, askR, h, hl]
theorem lkS_at {L : Int} {S : Int → Option Nd} {n : Int} {d : Nd} (h : S n = some d) (hl : d.links < L) : lkS L S n n = some { d with links := d.links + 1 } := by simp [lkS, h, hl, upd_at]
theorem room_of {S : Int → Option Nd} {n I : Nat} (h1 : 1 ≤ n) (h2 : n ≤ I) (hS : S (n : Int) = none) : (lst S I).length < I := by
  rw [split S n I h1 h2, hS]
  have e1 : (lo S n).length ≤ n - 1 := by have := List.length_filterMap_le (ent S) (List.range (n - 1)); simpa [lo] using this
  have e2 : (hi S n I).length ≤ I - n := by have := List.length_filterMap_le (ent S) (List.range' n (I - n)); simpa [hi] using this
  simp
  omega
theorem mkR_yes {I : Nat} {S : Int → Option Nd} {kd : Int} (hk : kd = 1 ∨ kd = 2) (h : (lst S I).length < I) : mkR I S kd = 0 := by unfold mkR; rw [if_pos hk, if_pos h]
/-- An inode with so many links and opens, and nothing else. -/
def nd (l o : Int) : Nd := { kind := 1, links := l, opens := o, size := 0, l := [] }
theorem stl_nd (l o : Int) : stl 1 (nd l o) = [.int .i64 1, .int .i64 1, .int .i64 l, .int .i64 o, .int .i64 0, .int .i64 0] := rfl
theorem ulS_nd {S : Int → Option Nd} {l o : Int} (h : S 1 = some (nd l o)) (hl : 0 < l) : ulS S 1 1 = if l = 1 ∧ o = 0 then none else some (nd (l - 1) o) := ulS_at h hl
theorem clS_nd {S : Int → Option Nd} {l o : Int} (h : S 1 = some (nd l o)) (hl : 0 < o) : clS S 1 1 = if l = 0 ∧ o = 1 then none else some (nd l (o - 1)) := clS_at h hl
end IN
open IN

set_option maxRecDepth 100000 in
set_option maxHeartbeats 16000000 in
theorem InodeCounts_walk (a0 a1 : Int) (w : World) (w0 : (Lit.int .i64 a0).wf = true) (w1 : (Lit.int .i64 a1).wf = true) :
    Calls Try.prog 8 #[.int .i64 a0, .int .i64 a1] w fun e w' => e = .returned (.bool true) ∧ Below w.heap.size w w' := by
  have cS := W_hid (shown_any w)
  obtain ⟨m0, hm0⟩ : ∃ m0, (if 20 < a0 then 20 else a0) = m0 := ⟨_, rfl⟩
  obtain ⟨m1, hm1⟩ : ∃ m1, (if 20 < a1 then 20 else a1) = m1 := ⟨_, rfl⟩
  have hm0' : m0 ≤ 20 := by rw [← hm0]; split <;> omega
  have hm1' : m1 ≤ 20 := by rw [← hm1]; split <;> omega
  obtain ⟨A, hA⟩ : ∃ A : Nat, (if 0 < m0 then m0 else 0) = (A : Int) := ⟨m0.toNat, by split <;> omega⟩
  obtain ⟨C, hC⟩ : ∃ C : Nat, (if 0 < m1 then m1 else 0) = (C : Int) := ⟨m1.toNat, by split <;> omega⟩
  have hA20 : A ≤ 20 := by split at hA <;> omega
  have hC20 : C ≤ 20 := by split at hC <;> omega
  clear hm0' hm1'
  have cap : ∀ w, (Instr.build 23 #[(0, .int .i64 3), (1, .int .i64 10), (2, .int .i64 30)]).run Try.prog w = .ok (cap7 3 10 30 0 0 0 0) w := fun w => by kernel_rfl
  go_enter Try.func8, Try.ntmps8
  go_wp2_with fail
  refine cS.out.mono ?_
  rintro e x1 ⟨rfl, b1⟩
  have hbase := b1.size
  have cN := W_hid (New_yes 3 10 30 0 0 0 0 x1 (by unfold Right; omega))
  have b1 := W_hid b1
  go_wp2_with fail
  refine cN.out.mono ?_
  rintro e x2 ⟨sg, mb, M, rfl, hP, b2⟩
  have b2 := W_hid (b1.out.trans (b2.mono hbase))
  have cM := W_hid (Make_yes 1 1 x2 hP (mkR_yes (.inl rfl) (by rw [lst_none]; decide)) low_none (by decide) (by decide))
  clear hP cN
  go_wp2_with fail
  refine cM.out.mono ?_
  rintro e x3 ⟨rfl, ⟨M1, hP1⟩, k3⟩
  have b3 := W_hid (b2.out.trans ((below_keeps k3).mono hbase))
  obtain ⟨S1, hS1⟩ : ∃ S1, upd (fun _ => none) ((1 : Nat) : Int) (some (newNd 1)) = S1 := ⟨_, rfl⟩
  have s11 : S1 1 = some (nd 1 0) := by rw [← hS1]; rfl
  have s12 : S1 ((2 : Nat) : Int) = none := by rw [← hS1]; rfl
  rw [hS1] at hP1
  have cM := W_hid (Make_yes 1 2 x3 hP1 (mkR_yes (.inl rfl) (room_of (n := 2) (by decide) (by decide) s12)) ⟨by decide, s12, fun m a b => by
    have : m = 1 := by omega
    subst this
    rw [show ((1 : Nat) : Int) = 1 from rfl, s11]; simp⟩ (by decide) (by decide))
  clear hP1 k3 hS1
  go_wp2_with fail
  refine cM.out.mono ?_
  rintro e x4 ⟨rfl, ⟨M2, hP2⟩, k4⟩
  have b4 := W_hid (b3.out.trans ((below_keeps k4).mono hbase))
  obtain ⟨S2, hS2⟩ : ∃ S2, upd S1 ((2 : Nat) : Int) (some (newNd 1)) = S2 := ⟨_, rfl⟩
  have s21 : Hid (S2 1 = some (nd ((0 : Nat) + 1 : Int) 0)) := W_hid (by rw [← hS2, upd_ne (by decide), s11]; rfl)
  rw [hS2] at hP2
  replace hP2 := W_hid hP2
  clear cM k4 hS2 s11 s12
  go_wp2_with fail
  go_loopw [12] (fun v wr => ∃ (i : Nat) (S : Int → Option Nd) (M : Int → Option Nat), i ≤ A ∧ v = .int .i64 (i : Int) ∧ Hid (PS x1.heap.size wr sg mb M 3 30 10 0 S) ∧ Hid (S 1 = some (nd ((i : Int) + 1) 0)) ∧ Hid (Below w.heap.size w wr)) (fun v _ => A - (intOf v).toNat)
  case atStart => exact ⟨0, S2, M2, Nat.zero_le _, rfl, hP2, s21, b4⟩
  case round =>
    clear hP2 s21 b4
    obtain ⟨i, S, M3, hi, rfl, hP, hs, hb⟩ := hrel
    by_cases hlt : i < A
    · have hl : (nd ((i : Int) + 1) 0).links < ((30 : Nat) : Int) := by show (i : Int) + 1 < 30; omega
      have cL := Link_any 1 wr hP.out i64_one
      rw [lkR_some hs.out hl] at cL
      have s' := lkS_at hs.out hl
      obtain ⟨S', hS'⟩ : ∃ S', lkS ((30 : Nat) : Int) S 1 = S' := ⟨_, rfl⟩
      rw [hS'] at cL
      have s2 : Hid (S' 1 = some (nd ((i : Int) + 1 + 1) 0)) := W_hid (by rw [← hS']; exact s')
      replace cL := W_hid cL
      clear hS' s'
      go_wp2_with fail
      refine cL.out.mono ?_
      rintro e x5 ⟨rfl, ⟨M', hP'⟩, k5⟩
      have hb' := W_hid (hb.out.trans ((below_keeps k5).mono hbase))
      replace hP' := W_hid hP'
      clear cL k5
      go_wp2_with fail
      go_roundw
      case rel => exact ⟨i + 1, S', M', by omega, by go_num, hP', by simpa using s2, hb'⟩
      case measure => simp [intOf]; omega
    · obtain rfl : i = A := by omega
      obtain ⟨wa, rfl⟩ : ∃ wa, wa = wr := ⟨wr, rfl⟩
      go_wp2_with fail
      go_loopw [13] (fun v wr => ∃ (j : Nat) (S : Int → Option Nd) (M : Int → Option Nat), j ≤ C ∧ v = .int .i64 (j : Int) ∧ Hid (PS x1.heap.size wr sg mb M 3 30 10 j S) ∧ Hid (S 1 = some (nd ((i : Int) + 1) (j : Int))) ∧ Hid (Below w.heap.size w wr)) (fun v _ => C - (intOf v).toNat)
      case atStart => exact ⟨0, S, M3, Nat.zero_le _, rfl, hP, hs, hb⟩
      case round =>
        clear hP hs hb
        obtain ⟨j, S, M4, hj, rfl, hP, hs, hb⟩ := hrel
        by_cases hlt2 : j < C
        · have cL := Open_any 1 wr hP.out i64_one (by omega)
          rw [opR_some hs.out] at cL
          have s' := opS_at hs.out
          obtain ⟨S', hS'⟩ : ∃ S', opS S 1 = S' := ⟨_, rfl⟩
          rw [hS'] at cL
          have s2 : Hid (S' 1 = some (nd ((i : Int) + 1) ((j : Int) + 1))) := W_hid (by rw [← hS']; exact s')
          replace cL := W_hid cL
          clear hS' s'
          go_wp2_with fail
          refine cL.out.mono ?_
          rintro e x5 ⟨rfl, ⟨M', hP'⟩, k5⟩
          have hb' := W_hid (hb.out.trans ((below_keeps k5).mono hbase))
          replace hP' := W_hid hP'
          clear cL k5
          go_wp2_with fail
          go_roundw
          case rel => exact ⟨j + 1, S', M', by omega, by go_num, hP', by simpa using s2, hb'⟩
          case measure => simp [intOf]; omega
        · obtain rfl : j = C := by omega
          have cT := Stat_any 1 wr hP.out i64_one
          rw [opR_some hs.out, stV_some hs.out, stl_nd] at cT
          replace cT := W_hid cT
          go_wp2_with fail
          refine cT.out.mono ?_
          rintro e x5 ⟨rfl, b5⟩
          have b6 := b5.alloc b5.size (.cells #[.int .i64 1, .int .i64 1, .int .i64 ((i : Int) + 1), .int .i64 (j : Int), .int .i64 0, .int .i64 0] 41)
          have hx := Blk.new x5 41 [.int .i64 1, .int .i64 1, .int .i64 ((i : Int) + 1), .int .i64 (j : Int), .int .i64 0, .int .i64 0] rfl
          have hP5 := hP.out.keep b6
          have hb5 := W_hid (hb.out.trans (b6.mono hb.out.size))
          replace hx := W_hid hx
          replace hP5 := W_hid hP5
          obtain ⟨wb, rfl⟩ : ∃ wb, wb = wr := ⟨wr, rfl⟩
          clear cT b5 b6 hb hP
          go_wp2_with fail
          go_loopw [16] (fun v wr => ∃ (p : Nat) (S : Int → Option Nd) (M : Int → Option Nat), p ≤ i + 1 ∧ v = .int .i64 (p : Int) ∧ Hid (PS x1.heap.size wr sg mb M 3 30 10 j S) ∧ Hid (S 1 = if p = i + 1 ∧ j = 0 then none else some (nd ((i : Int) + 1 - p) (j : Int))) ∧ Hid (Blk wr x5.heap.size 41 [.int .i64 1, .int .i64 1, .int .i64 ((i : Int) + 1), .int .i64 (j : Int), .int .i64 0, .int .i64 0]) ∧ Hid (Below w.heap.size w wr)) (fun v _ => i + 1 - (intOf v).toNat)
          case atStart => exact ⟨0, S, M4, Nat.zero_le _, rfl, hP5, W_hid (by rw [if_neg (by omega), hs.out]; simp), hx, hb5⟩
          case round =>
            clear hP5 hs hx hb5
            obtain ⟨p, S, M5, hp, rfl, hP, hs, hx, hb⟩ := hrel
            by_cases hlt3 : p < i + 1
            · have hs1 : S 1 = some (nd ((i : Int) + 1 - p) (j : Int)) := by rw [hs.out, if_neg (by omega)]
              have cL := Unlink_any 1 wr hP.out i64_one (by omega)
              rw [ulR_some hs1 (by show 0 < (i : Int) + 1 - p; omega)] at cL
              have s' := ulS_nd hs1 (by omega)
              obtain ⟨S', hS'⟩ : ∃ S', ulS S 1 = S' := ⟨_, rfl⟩
              rw [hS'] at cL
              have s2 : Hid (S' 1 = if p + 1 = i + 1 ∧ j = 0 then none else some (nd ((i : Int) + 1 - ((p + 1 : Nat) : Int)) (j : Int))) := W_hid (by
                rw [← hS', s']
                by_cases e : p + 1 = i + 1 ∧ j = 0
                · rw [if_pos e, if_pos (by omega)]
                · rw [if_neg e, if_neg (by omega)]
                  congr 2
                  omega)
              replace cL := W_hid cL
              clear hS' s' hs1 hs
              go_wp2_with fail
              refine cL.out.mono ?_
              rintro e x6 ⟨rfl, ⟨M', hP'⟩, k6⟩
              have hb' := W_hid (hb.out.trans ((below_keeps k6).mono hbase))
              have hx' : Hid (Blk x6 x5.heap.size 41 [.int .i64 1, .int .i64 1, .int .i64 ((i : Int) + 1), .int .i64 (j : Int), .int .i64 0, .int .i64 0]) := W_hid (k6.block _ _ hx.out (by simp [PT]))
              replace hP' := W_hid hP'
              clear cL k6 hx
              go_wp2_with fail
              go_roundw
              case rel => exact ⟨p + 1, S', M', by omega, by go_num, hP', s2, hx', hb'⟩
              case measure => simp [intOf]; omega
            · obtain rfl : p = i + 1 := by omega
              obtain ⟨wc, rfl⟩ : ∃ wc, wc = wr := ⟨wr, rfl⟩
              have hs2 : Hid (S 1 = if 0 = j then none else some (nd 0 ((j : Int) - ((0 : Nat) : Int)))) := W_hid (by
                rw [hs.out]
                by_cases e : j = 0
                · rw [if_pos ⟨rfl, e⟩, if_pos e.symm]
                · rw [if_neg (by omega), if_neg (Ne.symm e)]
                  congr 2 <;> omega)
              go_wp2_with fail
              go_loopw [17] (fun v wr => ∃ (q : Nat) (S : Int → Option Nd) (M : Int → Option Nat), q ≤ j ∧ v = .int .i64 (q : Int) ∧ Hid (PS x1.heap.size wr sg mb M 3 30 10 j S) ∧ Hid (S 1 = if q = j then none else some (nd 0 ((j : Int) - (q : Int)))) ∧ Hid (Blk wr x5.heap.size 41 [.int .i64 1, .int .i64 1, .int .i64 ((i : Int) + 1), .int .i64 (j : Int), .int .i64 0, .int .i64 0]) ∧ Hid (Below w.heap.size w wr)) (fun v _ => j - (intOf v).toNat)
              case atStart => exact ⟨0, S, M5, Nat.zero_le _, rfl, hP, hs2, hx, hb⟩
              case round =>
                clear hP hs hs2 hx hb
                obtain ⟨q, S, M6, hq, rfl, hP, hs, hx, hb⟩ := hrel
                by_cases hlt4 : q < j
                · have hs1 : S 1 = some (nd 0 ((j : Int) - (q : Int))) := by rw [hs.out, if_neg (by omega)]
                  have cL := Close_any 1 wr hP.out i64_one (by omega)
                  rw [clR_some hs1 (by show 0 < (j : Int) - (q : Int); omega)] at cL
                  have s' := clS_nd hs1 (by omega)
                  obtain ⟨S', hS'⟩ : ∃ S', clS S 1 = S' := ⟨_, rfl⟩
                  rw [hS'] at cL
                  have s2 : Hid (S' 1 = if q + 1 = j then none else some (nd 0 ((j : Int) - ((q + 1 : Nat) : Int)))) := W_hid (by
                    rw [← hS', s']
                    by_cases e : q + 1 = j
                    · rw [if_pos e, if_pos (by omega)]
                    · rw [if_neg e, if_neg (by omega)]
                      congr 2
                      omega)
                  replace cL := W_hid cL
                  clear hS' s' hs1 hs
                  go_wp2_with fail
                  refine cL.out.mono ?_
                  rintro e x6 ⟨rfl, ⟨M', hP'⟩, k6⟩
                  have hb' := W_hid (hb.out.trans ((below_keeps k6).mono hbase))
                  have hx' : Hid (Blk x6 x5.heap.size 41 [.int .i64 1, .int .i64 1, .int .i64 ((i : Int) + 1), .int .i64 (j : Int), .int .i64 0, .int .i64 0]) := W_hid (k6.block _ _ hx.out (by simp [PT]))
                  replace hP' := W_hid hP'
                  clear cL k6 hx
                  go_wp2_with fail
                  go_roundw
                  case rel => exact ⟨q + 1, S', M', by omega, by go_num, hP', s2, hx', hb'⟩
                  case measure => simp [intOf]; omega
                · obtain rfl : q = j := by omega
                  have hs1 : S 1 = none := by rw [hs.out, if_pos rfl]
                  have cT := Stat_any 1 wr hP.out i64_one
                  rw [opR_none hs1, stV_none hs1] at cT
                  simp only [zl] at cT
                  replace cT := W_hid cT
                  go_wp2_with fail
                  refine cT.out.mono ?_
                  rintro e x6 ⟨rfl, b6⟩
                  have b7 := b6.alloc b6.size (.cells #[.int .i64 0, .int .i64 0, .int .i64 0, .int .i64 0, .int .i64 0, .int .i64 0] 41)
                  have hx7 := W_hid (hx.out.keep b7)
                  have hb7 := W_hid (hb.out.trans (b7.mono hb.out.size))
                  have cM := W_hid (Make_yes 2 1 _ (hP.out.keep b7) (mkR_yes (.inr rfl) (room_of (n := 1) (by decide) (by decide) hs1)) ⟨by decide, hs1, fun m a b => by omega⟩ (by decide) (by decide))
                  clear cT b6 b7 hx hb hP hs hs1
                  go_wp2_with fail
                  refine cM.out.mono ?_
                  rintro e x8 ⟨rfl, ⟨M8, hP8⟩, k8⟩
                  have hx8 : Blk x8 x5.heap.size 41 [.int .i64 1, .int .i64 1, .int .i64 ((i : Int) + 1), .int .i64 (q : Int), .int .i64 0, .int .i64 0] := k8.block _ _ hx7.out (by simp [PT])
                  have y2 := hx8.cell (j := 2) rfl
                  have y3 := hx8.cell (j := 3) rfl
                  have hb8 := W_hid (hb7.out.trans ((below_keeps k8).mono hbase))
                  clear cM hP8 k8 hx8
                  go_wp2_with fail
                  go_ret
                  exact ⟨rfl, hb8.out⟩

set_option maxRecDepth 100000 in
theorem InodeCounts_lifted (os : Os) (started : os.Started) (H : Type) (enc : TypeId × Value → H) :
    ReturnsInHanded {} Try.checked os 8 .any (Rows.inodeCountsSpec.pre6 enc Try.prog Try.f8 Rows.inodeCountsRow.domain false) (Rows.inodeCountsSpec.post enc Try.prog Try.f8 false true false false) := by
  refine returnsInHanded_of_change (C := Try.checked) (by kernel_rfl) started (by kernel_rfl) Try.func8
    (ChangeSpec.witness6 (enc := enc) (C := Try.checked) false ⟨#[], #[.int .i64 0, .int .i64 0], []⟩ 8 (by kernel_rfl) (by kernel_rfl) (by kernel_rfl) (by kernel_rfl)) ?_
  intro W base args ds gs before hval0 hW hcnd _
  have hval : ∀ (j : Nat) t v, Try.f8.params[j]? = some t → args[j]? = some v → Value.okWide Try.prog W .any base t v := hval0
  have hW' := hW
  obtain ⟨p, q, hA0, hV, rfl, hfz, hnd⟩ := hW
  have hA : DataW.TrodAll enc Try.prog W 0 (fun _ => true) true Try.f8.params.toList args.toList ds p := hA0
  rw [Try.params8] at hA hval
  obtain ⟨v0, vs0, d0, ds0, p0, q0, hargs, rfl, rfl, h0, r0⟩ := trodAll_cons hA
  obtain ⟨v1, vs1, d1, ds1, p1, q1, rfl, rfl, rfl, h1, r1⟩ := trodAll_cons r0
  obtain ⟨rfl, rfl, rfl⟩ := trodAll_nil r1
  obtain rfl : args = #[v0, v1] := by cases args; simp_all
  obtain ⟨rfl, rfl⟩ := trodVars_none hV
  obtain ⟨a0, rfl, rfl, rfl, w0⟩ := open_int Try.underlying3 (hval 0 3 v0 rfl rfl) h0
  obtain ⟨a1, rfl, rfl, rfl, w1⟩ := open_int Try.underlying3 (hval 1 3 v1 rfl rfl) h1
  clear hA0 hval0
  refine (InodeCounts_walk a0 a1 W w0 w1).mono fun e W' ⟨he, bel⟩ => ?_
  subst he
  exact ⟨_, rfl, _, _, _, [], _, [], hW', trodAll_mk1 (shut_bool Try.underlying4 _), (trodAll_cons_mk (shut_int Try.underlying3 w0) (trodAll_cons_mk (shut_int Try.underlying3 w1) trodAll_mk0)), rfl, bel.frame _, fun h => by cases h⟩

/-- The given statement of InodeCounts. -/
theorem InodeCounts_holds : Rows.InodeCountsSaid :=
  OpenClaim.holds_of_wide 8 Try.f8 rfl rfl rfl rfl rfl rfl rfl ⟨rfl, rfl, rfl, rfl, rfl⟩ rfl rfl rfl rfl rfl (by kernel_rfl) Try.func8 (by kernel_rfl)
    (of_decide_eq_true (by kernel_rfl)) (by unfold Func.isWrapper; first | (rw [if_pos (by decide +kernel)]; kernel_rfl) | (rw [if_neg (by decide +kernel)]; exact ⟨rfl, rfl⟩))
    (fun os started H enc _ => InodeCounts_lifted os started H enc)
end Go.Proofs.Ytieneehpijilpaa

/- The law NamesLinks of layer 12 (package haywardlaw12): for every input it returns true, and its arguments read as before. No further condition. -/
import Derived.Test.YtmnmheocmcmpmaaGreatZX01
import Derived.Test.YtmnmheocmcmpmaaGreatZB10

namespace Go.Proofs.YtmnmheocmcmpmaaGreat
set_option linter.unusedVariables false
set_option linter.unusedSimpArgs false
open RN
namespace NT
theorem last_snoc {l : List ByteArray} (h : l ≠ []) : l.dropLast ++ [last l] = l := by
  have h1 := List.dropLast_concat_getLast h
  have h2 : last l = l.getLast h := by
    unfold last
    have : l.length - 1 < l.length := by have := List.length_pos_iff.2 h; omega
    rw [List.getLast_eq_getElem]
    simp [List.getD, this]
  rw [h2]; exact h1
theorem place_ok {D : Ds} {l : List ByteArray} {r p : Int} (h : place D l r = .ok p) : l ≠ [] ∧ goes D 1 l.dropLast = .ok p ∧ D p ≠ none := by
  unfold place at h
  by_cases e : l = []
  · rw [if_pos e] at h; cases h
  · rw [if_neg e] at h
    cases hg : goes D 1 l.dropLast with
    | error e2 => rw [hg] at h; cases h
    | ok n =>
      rw [hg] at h
      simp only at h
      by_cases hD : D n = none
      · rw [if_pos hD] at h; cases h
      · rw [if_neg hD] at h; cases h; exact ⟨e, rfl, hD⟩
theorem place_of {D : Ds} {l : List ByteArray} {p : Int} (h1 : l ≠ []) (h2 : goes D 1 l.dropLast = .ok p) (h3 : D p ≠ none) (r : Int) : place D l r = .ok p := by
  unfold place
  rw [if_neg h1, h2]
  simp only
  rw [if_neg h3]
theorem name_ne {k : ByteArray} (h : PM.name k = true) : k ≠ PM.dot ∧ k ≠ PM.dots := by
  unfold PM.name at h
  simp only [Bool.and_eq_true, decide_eq_true_eq] at h
  exact ⟨h.1.2, h.2⟩
theorem step_nm {D : Ds} {p : Int} {d : Dr} {k : ByteArray} (hD : D p = some d) (h : k ≠ PM.dot ∧ k ≠ PM.dots) : step D p k = (match look k d.l with | none => .error 11 | some m => .ok m) := by
  unfold step
  rw [hD]
  simp only
  rw [if_neg h.1, if_neg h.2]
  rfl
theorem goes_last {D : Ds} {l : List ByteArray} {p : Int} (h1 : l ≠ []) (h2 : goes D 1 l.dropLast = .ok p) : goes D 1 l = step D p (last l) := by
  conv => lhs; rw [← last_snoc h1]
  rw [goes_snoc, h2]
theorem goes_mono {D D' : Ds} (h : ∀ x k m, step D x k = .ok m → step D' x k = .ok m) : ∀ {l : List ByteArray} {a m : Int}, goes D a l = .ok m → goes D' a l = .ok m
  | [], a, m, hg => hg
  | x :: l, a, m, hg => by
    unfold goes at hg ⊢
    cases hs : step D a x with
    | error e => rw [hs] at hg; cases hg
    | ok b =>
      rw [hs] at hg
      rw [h a x b hs]
      exact goes_mono h hg
theorem step_put {D : Ds} {p n : Int} {d : Dr} {z : ByteArray} (hD : D p = some d) (hl : look z d.l = none) (x : Int) (k : ByteArray) (m : Int) (h : step D x k = .ok m) : step (putD D p z n) x k = .ok m := by
  unfold step at h ⊢
  by_cases e : x = p
  · subst e
    rw [putD_at hD]
    rw [hD] at h
    simp only at h ⊢
    rw [look_put]
    by_cases e2 : k = z
    · subst e2
      rw [hl] at h
      split at h
      · rename_i e3; rw [if_pos e3]; exact h
      · rename_i e3
        rw [if_neg e3]
        split at h
        · rename_i e4; rw [if_pos e4]; exact h
        · cases h
    · rw [if_neg e2]; exact h
  · rw [putD_ne e]; exact h
theorem find_ok {D : Ds} {l : List ByteArray} {dir : Bool} {n : Int} (h : find D l dir = .ok n) : goes D 1 l = .ok n ∧ ¬ (dir = true ∧ D n = none) := by
  unfold find at h
  cases hg : goes D 1 l with
  | error e => rw [hg] at h; cases h
  | ok m =>
    rw [hg] at h
    simp only at h
    by_cases e : dir = true ∧ D m = none
    · rw [if_pos e] at h; cases h
    · rw [if_neg e] at h; cases h; exact ⟨rfl, e⟩
theorem find_of {D : Ds} {l : List ByteArray} {dir : Bool} {n : Int} (h1 : goes D 1 l = .ok n) (h2 : ¬ (dir = true ∧ D n = none)) : find D l dir = .ok n := by
  unfold find
  rw [h1]
  simp only
  rw [if_neg h2]
theorem del_ins (k : ByteArray) (n : Int) : ∀ {l : List (ByteArray × Int)}, look k l = none → del k (ins k n l) = l
  | [], _ => by simp [ins, del]
  | x :: l, h => by
    have hx : x.1 ≠ k := fun e => by simp [look, e] at h
    have hl : look k l = none := by simpa [look, hx] using h
    unfold ins
    by_cases e : blt x.1 k = true
    · rw [if_pos e]
      have ih := del_ins k n hl
      unfold del at ih ⊢
      rw [List.filter_cons_of_pos (by simp [hx]), ih]
    · rw [if_neg e]
      have ih := del_none h
      unfold del at ih ⊢
      rw [List.filter_cons_of_neg (by simp), ih]
theorem cut_put_id {D : Ds} {p n : Int} {d : Dr} {z : ByteArray} (hD : D p = some d) (hl : look z d.l = none) : cutD (putD D p z n) p z = D := by
  funext x
  by_cases e : x = p
  · subst e
    rw [cutD_at (putD_at hD z n), hD]
    simp only [put]
    rw [del_none hl, del_ins z n hl]
  · rw [cutD_ne e, putD_ne e]
section
variable {I L c : Nat} {S : Int → Option IN.Nd} {D : Ds}
theorem goes_file (h : TI I c e0 S D) {n : Int} (hn : D n = none) : ∀ {l : List ByteArray} {a : Int}, D a ≠ none → goes D a l = .ok n → ∃ q k, at_ D q k = some n
  | [], a, ha, hg => by cases hg; exact absurd hn ha
  | x :: l, a, ha, hg => by
    unfold goes at hg
    cases hs : step D a x with
    | error e => rw [hs] at hg; cases hg
    | ok b =>
      rw [hs] at hg
      simp only at hg
      by_cases hb : D b = none
      · have hl : l = [] := by
          cases l with
          | nil => rfl
          | cons y l =>
            unfold goes step at hg
            rw [hb] at hg
            cases hg
        subst hl
        cases hg
        obtain ⟨d, hd⟩ := Option.ne_none_iff_exists'.1 ha
        unfold step at hs
        rw [hd] at hs
        simp only at hs
        split at hs
        · cases hs; exact absurd hn ha
        · split at hs
          · cases hs
            obtain ⟨d2, h2⟩ := h.up a d hd
            rw [h2] at hn; cases hn
          · cases hl2 : look x d.l with
            | none => rw [hl2] at hs; cases hs
            | some j =>
              rw [hl2] at hs
              cases hs
              exact ⟨a, x, by unfold at_; rw [hd]; exact hl2⟩
      · exact goes_file h hn hb hg
theorem links_ok (h : TI I c e0 S D) {s t : ByteArray} (h0 : (lnk L S D s t).1 = 0) : ∃ n x, findR (lnk L S D s t).2.2 s = .ok n ∧ findR (lnk L S D s t).2.2 t = .ok n ∧ (lnk L S D s t).2.1 n = some x ∧ 2 ≤ x.links ∧ er (unlR (lnk L S D s t).2.2 t) = 0 ∧ unlS (lnk L S D s t).2.1 (lnk L S D s t).2.2 t = (S, D) ∧ findR D t = .error 11 := by
  unfold lnk at h0 ⊢
  by_cases p0 : PM.perr s = 0
  rotate_left
  · rw [if_pos p0] at h0; exact absurd h0 p0
  rw [if_neg (fun e => e p0)] at h0 ⊢
  by_cases p1 : PM.perr t = 0
  rotate_left
  · rw [if_pos p1] at h0; exact absurd h0 p1
  rw [if_neg (fun e => e p1)] at h0 ⊢
  cases hf : find D (PM.pN s) (PM.pD s) with
  | error e =>
    rw [hf] at h0
    exact absurd h0 (find_er hf)
  | ok n =>
    rw [hf] at h0
    simp only at h0 ⊢
    by_cases hD : D n = none
    rotate_left
    · rw [if_pos hD] at h0; cases h0
    rw [if_neg (fun e => e hD)] at h0 ⊢
    cases hv : vacant D 1 t with
    | error e => rw [hv] at h0; exact absurd h0 (vacant_er hv)
    | ok p =>
      rw [hv] at h0
      simp only at h0 ⊢
      by_cases hr : IN.lkR L S n = 0
      rotate_left
      · rw [if_neg hr] at h0; exact absurd h0 hr
      rw [if_pos hr]
      simp only
      obtain ⟨⟨dp, hdp⟩, hat, hnm⟩ := vac_ok hv
      obtain ⟨hpl, hvc⟩ := placeC_ok hv
      obtain ⟨hne, hgo, hpn⟩ := place_ok hpl
      have hlk := at_none hdp hat
      have hdir : PM.pD t = false := by
        unfold vac at hvc
        cases hd : PM.pD t with
        | false => rfl
        | true =>
          rw [hd, if_neg (by rw [hat, hnm]; simp), if_pos ⟨rfl, rfl⟩] at hvc
          cases hvc
      generalize hz : last (PM.pN t) = z at *
      have hD2 : putD D p z n n = none := putD_none.2 hD
      obtain ⟨hg1, hg2⟩ := find_ok hf
      have hx : ∃ x, S n = some x ∧ x.links < (L : Int) := by
        unfold IN.lkR IN.askR at hr
        cases hS : S n with
        | none => rw [hS] at hr; cases hr
        | some x =>
          rw [hS] at hr
          simp only at hr
          by_cases e : x.links < (L : Int)
          · exact ⟨x, rfl, e⟩
          · rw [if_neg e] at hr; cases hr
      obtain ⟨x, hS, hxl⟩ := hx
      have hlkS : IN.lkS L S n = IN.upd S n (some { x with links := x.links + 1 }) := by
        unfold IN.lkS
        rw [hS]
        simp only
        rw [if_pos hxl]
      obtain ⟨d1, hd1, -⟩ := h.root
      obtain ⟨q, k, hqk⟩ := goes_file h hD (a := 1) (by rw [hd1]; simp) hg1
      have hcp := h.cnt_pos hqk
      have hli := (h.links n x hS).2
      have hx1 : 1 ≤ x.links := by
        simp only [e0] at hli
        split at hli <;> omega
      have hgo2 : goes (putD D p z n) 1 (PM.pN t).dropLast = .ok p := goes_mono (step_put hdp hlk) hgo
      have hp2 : putD D p z n p = some { dp with l := put z n dp.l } := putD_at hdp z n
      have hst : step (putD D p z n) p z = .ok n := by
        rw [step_nm hp2 (name_ne hnm)]
        simp only
        rw [look_put, if_pos rfl]
      have hul : unlR (putD D p z n) t = .ok p := by
        unfold unlR cutR placeC
        rw [if_pos p1, place_of hne hgo2 (by rw [hp2]; simp), hz]
        have : ulc (putD D p z n) z (PM.pD t) p = 0 := by
          unfold ulc
          rw [if_neg (by rw [hnm]; simp)]
          have : at_ (putD D p z n) p z = some n := by unfold at_; rw [hp2]; simp only; rw [look_put, if_pos rfl]
          rw [this]
          simp only
          rw [if_neg (fun e => e hD2), hdir]
          rfl
        simp only [this]
        rfl
      refine ⟨n, { x with links := x.links + 1 }, ?_, ?_, ?_, ?_, ?_, ?_, ?_⟩
      · rw [findR_ok p0]
        exact find_of (goes_mono (step_put hdp hlk) hg1) (by rw [hD2]; rw [hD] at hg2; exact hg2)
      · rw [findR_ok p1]
        refine find_of ?_ (by rw [hdir]; simp)
        rw [goes_last hne hgo2, hz]
        exact hst
      · rw [hlkS, IN.upd_at]
      · show 2 ≤ x.links + 1
        omega
      · rw [hul]; rfl
      · unfold unlS
        rw [hul]
        simp only
        have ht : tgt (putD D p z n) p t = n := by
          unfold tgt
          rw [hz]
          have : at_ (putD D p z n) p z = some n := by unfold at_; rw [hp2]; simp only; rw [look_put, if_pos rfl]
          rw [this]; rfl
        rw [ht, hz, cut_put_id hdp hlk]
        have hS2 : IN.lkS L S n n = some { x with links := x.links + 1 } := by rw [hlkS, IN.upd_at]
        rw [ulS_some hS2 (by show 0 < x.links + 1; omega), if_neg (fun e => by have := e.1; simp only at this; omega), hlkS, IN.upd_upd]
        have : IN.upd S n (some { x with links := x.links + 1 - 1 }) = S := by
          funext m
          by_cases e : m = n
          · rw [e, IN.upd_at, hS, show x.links + 1 - 1 = x.links by omega]
          · rw [IN.upd_ne e]
        rw [this]
      · rw [findR_ok p1]
        have : goes D 1 (PM.pN t) = .error 11 := by
          rw [goes_last hne hgo, hz, step_nm hdp (name_ne hnm), hlk]
        unfold find
        rw [this]
theorem stat_p {b1 tg sg mb c : Nat} {w : World} (n : Int) (h : PW b1 tg sg mb c S D w) (hn : S n ≠ none) :
    Calls Tryz.prog 34 #[.pointer (some ⟨sg, 0, none⟩), .int .i64 n] w fun e w' => e = .returned (.tuple #[.agg (IN.stV S n).toArray, .int .i64 (IN.opR S n)]) ∧ RowKit.Below w.heap.size w w' := by
  obtain ⟨A, h⟩ := h
  obtain ⟨M, hM⟩ := h.ps
  exact IN.Stat_any n w hM (h.ti.i64 (by decide) hn)
end
end NT
end Go.Proofs.YtmnmheocmcmpmaaGreat

namespace Go.Proofs.YtmnmheocmcmpmaaGreat
open Go.ChangeShapes Go.WideShapes Go.ChangeAt Go.RowKit Go.Maps
open Go.ChangeMaps (open_string shut_string)
set_option linter.unusedVariables false
set_option linter.unusedSimpArgs false
open RN
open NT
set_option maxRecDepth 100000 in
set_option maxHeartbeats 32000000 in
theorem NamesLinks_walk (o0 : Option Addr) (n0 c0 : Nat) (l0 : List OpT12) (a1 a2 : ByteArray) (w : World) (w0 : OS12 w o0 n0 c0 l0) (w1 : a1.size ≤ maxLen) (w2 : a2.size ≤ maxLen) :
    Calls Tryz.prog 7 #[.slice o0 n0 c0, .string a1, .string a2] w fun e w' => e = .returned (.bool true) ∧ Below w.heap.size w w' := by
  have hs1 := w1
  have hs2 := w2
  clear w1 w2
  have cS := W_hid (shown12 w)
  have hops := W_hid (fun (W : World) (hb : Below w.heap.size w W) => show OS12 W o0 n0 c0 l0 from by
    obtain ⟨h1, h2, h3⟩ := w0
    refine ⟨h1, h2, fun j hj => ?_⟩
    obtain ⟨blk, off, e, hlt, k0, k1, k2, k3, z⟩ := h3 j hj
    have kk : ∀ {a : Nat} {u : Value}, w.cell? ⟨blk, a, none⟩ = some u → W.cell? ⟨blk, a, none⟩ = some u := fun {a u} hc => by rw [hb.cell (p := ⟨blk, a, none⟩) hlt]; exact hc
    exact ⟨blk, off, e, Nat.lt_of_lt_of_le hlt hb.size, kk k0, kk k1, kk k2, kk k3, z⟩)
  clear w0
  go_enter Tryz.func7, Tryz.ntmps7
  go_wp2_with fail
  refine cS.out.mono ?_
  rintro e w1 ⟨rfl, bb1⟩
  have B1 := W_hid bb1
  clear bb1 cS
  have cR := W_hid (run_any o0 n0 c0 l0 w1 (hops.out w1 B1.out))
  clear hops
  go_wp2_with fail
  refine cR.out.mono ?_
  rintro e w2 ⟨b1', tg, sg, mb, S, D, rfl, hb1, hP2, bb2⟩
  have hB1 : w.heap.size ≤ b1' := Nat.le_trans B1.out.size hb1
  have B2 := W_hid (B1.out.trans (bb2.mono B1.out.size))
  have cA := W_hid (all_p w2 hP2)
  have hlen1 : (IN.lst S 12).length ≤ 12 := IN.lst_len S 12
  replace hP2 := W_hid hP2
  clear bb2 cR hb1 B1
  go_wp2_with fail
  refine cA.out.mono ?_
  rintro e w3 ⟨v3, rfl, ho3, bb3⟩
  obtain ⟨a3, k3, rfl⟩ := Own.form ho3
  have hP3 := W_hid (hP2.out.keep bb3)
  have B3 := W_hid (B2.out.trans (bb3.mono B2.out.size))
  replace ho3 := W_hid ho3
  clear bb3 cA hP2 B2
  have hti := hP3.out.ti
  obtain ⟨r, hr⟩ : ∃ r, (lnk 3 S D a1 a2).1 = r := ⟨_, rfl⟩
  by_cases hr0 : r = 0
  · subst hr0
    obtain ⟨n, x, f1, f2, f3, f4, f5, f6, f7⟩ := links_ok hti hr
    have cX := link_p a1 a2 hs1 hs2 w3 hP3.out (by decide)
    rw [hr] at cX
    generalize (lnk 3 S D a1 a2).2.1 = S' at *
    generalize (lnk 3 S D a1 a2).2.2 = D' at *
    replace cX := W_hid cX
    go_wp2_with fail
    refine cX.out.mono ?_
    rintro e w4 ⟨rfl, hP4, hK4⟩
    have ho4 := W_hid (row_keeps ho3.out (by decide) (by decide) (by decide) hK4)
    have B4 := W_hid (B3.out.trans ((below_of (Below.refl _ _) hK4 (Nat.le_refl _)).mono hB1))
    have cF := find_p a1 hs1 w4 hP4
    rw [f1] at cF
    simp only [nu, er] at cF
    replace cF := W_hid cF
    replace hP4 := W_hid hP4
    clear hK4 hP3 ho3 B3 cX
    go_wp2_with fail
    refine cF.out.mono ?_
    rintro e w5 ⟨rfl, b5⟩
    have hP5 := W_hid (hP4.out.keep b5)
    have ho5 := W_hid (Own.below ho4.out b5)
    have B5 := W_hid (B4.out.trans (b5.mono B4.out.size))
    have cG := find_p a2 hs2 w5 hP5.out
    rw [f2] at cG
    simp only [nu, er] at cG
    replace cG := W_hid cG
    clear b5 hP4 ho4 B4 cF
    go_wp2_with fail
    refine cG.out.mono ?_
    rintro e w6 ⟨rfl, b6⟩
    have hP6 := W_hid (hP5.out.keep b6)
    have ho6 := W_hid (Own.below ho5.out b6)
    have B6 := W_hid (B5.out.trans (b6.mono B5.out.size))
    have cT := stat_p n hP6.out (by rw [f3]; simp)
    rw [show IN.opR S' n = 0 by unfold IN.opR IN.askR; rw [f3], show IN.stV S' n = IN.stl n x by unfold IN.stV; rw [f3]] at cT
    unfold IN.stl at cT
    replace cT := W_hid cT
    clear b6 hP5 ho5 B5 cG
    go_wp2_with fail
    refine cT.out.mono ?_
    rintro e w7 ⟨rfl, b7⟩
    have P8 : Hid (Blk (w7.alloc (.cells #[.int .i64 n, .int .i64 x.kind, .int .i64 x.links, .int .i64 x.opens, .int .i64 x.size, .int .i64 (EM.cnt x.l : Int)] 49)) w7.heap.size 49 [.int .i64 n, .int .i64 x.kind, .int .i64 x.links, .int .i64 x.opens, .int .i64 x.size, .int .i64 (EM.cnt x.l : Int)]) := W_hid (Blk.new _ _ _ rfl)
    have b8 := b7.alloc b7.size (.cells #[.int .i64 n, .int .i64 x.kind, .int .i64 x.links, .int .i64 x.opens, .int .i64 x.size, .int .i64 (EM.cnt x.l : Int)] 49)
    have hP8 := W_hid (hP6.out.keep b8)
    have ho8 := W_hid (Own.below ho6.out b8)
    have B8 := W_hid (B6.out.trans (b8.mono B6.out.size))
    have cU := unlink_p a2 hs2 _ hP8.out
    rw [f5, f6] at cU
    replace cU := W_hid cU
    clear b7 b8 hP6 ho6 B6 cT
    go_wp2_with fail
    refine cU.out.mono ?_
    rintro e w9 ⟨rfl, hP9, hK9⟩
    have P9 : Hid (Blk w9 w7.heap.size 49 [.int .i64 n, .int .i64 x.kind, .int .i64 x.links, .int .i64 x.opens, .int .i64 x.size, .int .i64 (EM.cnt x.l : Int)]) := W_hid (hK9.block _ _ P8.out (fx_cells (by decide) (by decide) (by decide)))
    have ho9 := W_hid (row_keeps ho8.out (by decide) (by decide) (by decide) hK9)
    have B9 := W_hid (B8.out.trans ((below_of (Below.refl _ _) hK9 (Nat.le_refl _)).mono hB1))
    have cH := find_p a2 hs2 w9 hP9
    rw [f7] at cH
    simp only [nu, er] at cH
    replace cH := W_hid cH
    replace hP9 := W_hid hP9
    clear hK9 hP8 ho8 B8 cU P8
    go_wp2_with fail
    refine cH.out.mono ?_
    rintro e w10 ⟨rfl, b10⟩
    have hP10 := W_hid (hP9.out.keep b10)
    have ho10 := W_hid (Own.below ho9.out b10)
    have B10 := W_hid (B9.out.trans (b10.mono B9.out.size))
    have p2 := (P9.out.keep b10).cell (j := 2) rfl
    have cZ := W_hid (all_p w10 hP10.out)
    have hnn : (n == n) = true := by simp
    clear b10 hP9 ho9 B9 cH P9 f1 f2 f3 f5 f6 f7
    go_wp2_with fail
    refine (cZ.out).mono ?_
    rintro e z1 ⟨vz, rfl, hoz, bz⟩
    obtain ⟨az, kz, rfl⟩ := Own.form hoz
    have cE := W_hid (IN.Same_yes _ _ _ _ (IN.lst S 12) z1 (by omega) hoz (Own.below ho10.out bz))
    have BZ := W_hid (B10.out.trans (bz.mono B10.out.size))
    clear bz hoz cZ
    go_wp2_with fail
    refine cE.out.mono ?_
    rintro e z2 ⟨rfl, bz2⟩
    have BY := W_hid (BZ.out.trans (bz2.mono BZ.out.size))
    go_wp2_with fail
    go_ret
    exact ⟨rfl, BY.out⟩
  · have hr1 : (r != 0) = true := by simpa using hr0
    have hSD := lnk_ne (S := S) (D := D) (L := 3) (s := a1) (t := a2) (by rw [hr]; exact hr0)
    have cX := link_p a1 a2 hs1 hs2 w3 hP3.out (by decide)
    rw [hr, hSD] at cX
    replace cX := W_hid cX
    replace hr0 := W_hid hr0
    clear hr hSD
    go_wp2_with fail
    refine cX.out.mono ?_
    rintro e w4 ⟨rfl, hP4, hK4⟩
    have ho4 := W_hid (row_keeps ho3.out (by decide) (by decide) (by decide) hK4)
    have B4 := W_hid (B3.out.trans ((below_of (Below.refl _ _) hK4 (Nat.le_refl _)).mono hB1))
    have cZ := W_hid (all_p w4 hP4)
    clear hK4 hP3 ho3 B3 cX hP4
    go_wp2_with fail
    refine (cZ.out).mono ?_
    rintro e z1 ⟨vz, rfl, hoz, bz⟩
    obtain ⟨az, kz, rfl⟩ := Own.form hoz
    have cE := W_hid (IN.Same_yes _ _ _ _ (IN.lst S 12) z1 (by omega) hoz (Own.below ho4.out bz))
    have BZ := W_hid (B4.out.trans (bz.mono B4.out.size))
    clear bz hoz cZ
    go_wp2_with fail
    refine cE.out.mono ?_
    rintro e z2 ⟨rfl, bz2⟩
    have BY := W_hid (BZ.out.trans (bz2.mono BZ.out.size))
    go_wp2_with fail
    go_ret
    exact ⟨rfl, BY.out⟩
set_option maxRecDepth 100000 in
theorem NamesLinks_lifted (os : Os) (started : os.Started) (H : Type) (enc : TypeId × Value → H) :
    ReturnsInHanded {} Tryz.checked os 7 .any (Rows.namesLinksSpec.pre6 enc Tryz.prog Tryz.f7 Rows.namesLinksRow.domain false) (Rows.namesLinksSpec.post enc Tryz.prog Tryz.f7 false true false false) := by
  refine returnsInHanded_of_change (C := Tryz.checked) (by kernel_rfl) started (by kernel_rfl) Tryz.func7
    (ChangeSpec.witness6 (enc := enc) (C := Tryz.checked) false ⟨#[], #[.slice none 0 0, .string ByteArray.empty, .string ByteArray.empty], []⟩ 8 (by kernel_rfl) (by kernel_rfl) (by kernel_rfl) (by kernel_rfl)) ?_
  intro W base args ds gs before hval0 hW hcnd _
  have hval : ∀ (j : Nat) t v, Tryz.f7.params[j]? = some t → args[j]? = some v → Value.okWide Tryz.prog W .any base t v := hval0
  have hW' := hW
  obtain ⟨p, q, hA0, hV, rfl, hfz, hnd⟩ := hW
  have hA : DataW.TrodAll enc Tryz.prog W 0 (fun _ => true) true Tryz.f7.params.toList args.toList ds p := hA0
  rw [Tryz.params7] at hA hval
  obtain ⟨v0, vs0, d0, ds0, p0, q0, hargs, rfl, rfl, h0, r0⟩ := trodAll_cons hA
  obtain ⟨v1, vs1, d1, ds1, p1, q1, rfl, rfl, rfl, h1, r1⟩ := trodAll_cons r0
  obtain ⟨v2, vs2, d2, ds2, p2, q2, rfl, rfl, rfl, h2, r2⟩ := trodAll_cons r1
  obtain ⟨rfl, rfl, rfl⟩ := trodAll_nil r2
  obtain rfl : args = #[v0, v1, v2] := by cases args; simp_all
  obtain ⟨rfl, rfl⟩ := trodVars_none hV
  have k0 := h0
  have lt0 : ∀ x ∈ p0, x.block < W.heap.size := by obtain ⟨m, hm⟩ := k0; exact DataW.trod_lt m _ _ _ hm
  obtain ⟨o0, n0, c0, l0, rfl, w0⟩ := open_ops12 (hval 0 22 v0 rfl rfl) h0
  obtain ⟨a1, rfl, rfl, rfl, w1⟩ := open_string Tryz.underlying9 (hval 1 9 v1 rfl rfl) h1
  obtain ⟨a2, rfl, rfl, rfl, w2⟩ := open_string Tryz.underlying9 (hval 2 9 v2 rfl rfl) h2
  clear hA0 hval0
  refine (NamesLinks_walk o0 n0 c0 l0 a1 a2 W w0 w1 w2).mono fun e W' ⟨he, bel⟩ => ?_
  subst he
  exact ⟨_, rfl, _, _, _, [], _, [], hW', trodAll_mk1 (shut_bool Tryz.underlying4 _), (trodAll_cons_mk (Below.trod laidOut (by kernel_rfl) (of_decide_eq_true (by kernel_rfl)) k0 bel lt0) (trodAll_cons_mk (shut_string Tryz.underlying9 w1) (trodAll_cons_mk (shut_string Tryz.underlying9 w2) trodAll_mk0))), rfl, bel.frame _, fun h => by cases h⟩
theorem NamesLinks_holds : Rows.NamesLinksSaid :=
  OpenClaim.holds_of_wide 7 Tryz.f7 rfl rfl rfl rfl rfl rfl rfl ⟨rfl, rfl, rfl, rfl, rfl⟩ rfl rfl rfl rfl rfl (by kernel_rfl) Tryz.func7 (by kernel_rfl)
    (of_decide_eq_true (by kernel_rfl)) (by unfold Func.isWrapper; first | (rw [if_pos (by decide +kernel)]; kernel_rfl) | (rw [if_neg (by decide +kernel)]; exact ⟨rfl, rfl⟩))
    (fun os started H enc _ => NamesLinks_lifted os started H enc)
end Go.Proofs.YtmnmheocmcmpmaaGreat

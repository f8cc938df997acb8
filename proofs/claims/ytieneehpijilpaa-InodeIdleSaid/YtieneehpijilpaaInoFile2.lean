/- Contracts of package inode's Write, Trunc, of stores that are there. -/
import Derived.Test.YtieneehpijilpaaInoFile
namespace Go.Proofs.Ytieneehpijilpaa
open Go.ChangeShapes Go.WideShapes Go.ChangeAt Go.RowKit Go.Maps
set_option linter.unusedVariables false
set_option linter.unusedSimpArgs false
namespace IN

def wNd (d : Nd) (f : Int) (s : ByteArray) : Nd := { d with l := EM.wr d.l f s, size := if s.size = 0 then d.size else max d.size (f + s.size) }
def wrErr (I B : Nat) (S : Int → Option Nd) (n f : Int) (s : ByteArray) : Int := askR S n fun d => if d.kind = 1 then (if wrE d.l f s = 0 then (if tot S I + EM.cnt (EM.wr d.l f s) ≤ B + EM.cnt d.l then 0 else 21) else wrE d.l f s) else 14
def wrS (I B : Nat) (S : Int → Option Nd) (n f : Int) (s : ByteArray) : Int → Option Nd := match S n with
  | none => S
  | some d => if d.kind = 1 ∧ wrE d.l f s = 0 ∧ tot S I + EM.cnt (EM.wr d.l f s) ≤ B + EM.cnt d.l then upd S n (some (wNd d f s)) else S
def tNd (d : Nd) (s : Int) : Nd := { d with l := EM.part 0 s d.l, size := s }
def tErr (S : Int → Option Nd) (n s : Int) : Int := askR S n fun d => if d.kind = 1 then (if s < 0 then 2 else if 1048576 < s then 28 else 0) else 14
def tS (S : Int → Option Nd) (n s : Int) : Int → Option Nd := match S n with
  | none => S
  | some d => if d.kind = 1 ∧ 0 ≤ s ∧ s ≤ 1048576 then upd S n (some (tNd d s)) else S

section
variable {base sg mb I L B k : Nat} {M : Int → Option Nat} {S : Int → Option Nd}
/-- An inode turned, its bytes counted anew. -/
theorem turn_left {n : Int} {d d' : Nd} (hf : Fine I L B k S) (hS : S n = some d) (hg : Good L k d') (ht : (EM.cnt d'.l : Int) - (EM.cnt d.l : Int) ≤ (B : Int) - (tot S I : Int)) :
    Fine I L B k (upd S n (some d')) ∧ (B : Int) - (tot S I : Int) - ((EM.cnt d'.l : Int) - (EM.cnt d.l : Int)) = (B : Int) - (tot (upd S n (some d')) I : Int) := by
  have hb := hf.num n (by rw [hS]; simp)
  obtain ⟨m, rfl⟩ : ∃ m : Nat, n = m := ⟨n.toNat, by omega⟩
  have h := tot_upd S m I (some d') (by omega) (by omega)
  rw [hS] at h
  simp only [cntOf] at h
  have h2 := tot_ge S m I (by omega) (by omega)
  rw [hS] at h2
  simp only [cntOf] at h2
  exact ⟨hf.turn (by omega) (by omega) (fun x hx => by cases hx; exact hg) (by rw [hS]; simp only [cntOf]; omega), by omega⟩
theorem wr_good {d : Nd} {f : Int} {s : ByteArray} (hg : Good L k d) (hk : d.kind = 1) (he : wrE d.l f s = 0) : Good L k (wNd d f s) ∧ wrL d.l f s = EM.wr d.l f s ∧ EM.ok 0 (EM.wr d.l f s) = true ∧ 0 ≤ f ∧ f + s.size ≤ 1048576 := by
  have h0 : 0 ≤ f ∧ f + s.size ≤ 1048576 := by
    unfold wrE at he
    split at he
    · rename_i h
      split at he
      · exact ⟨h.2, by assumption⟩
      · cases he
    · cases he
  obtain ⟨h1, h2⟩ := ends_wr hg.ok (d := s) h0.1 h0.2 hg.fin hg.size.1
  refine ⟨⟨hg.kind, hg.links, hg.opens, hg.some, ?_, h1, h2, fun h => ?_⟩, by unfold wrL; rw [if_pos he], h1, h0⟩
  · have := hg.size
    show 0 ≤ (if s.size = 0 then d.size else max d.size (f + s.size)) ∧ (if s.size = 0 then d.size else max d.size (f + s.size)) ≤ 1048576
    split <;> omega
  · have e : d.kind = 2 := h
    rw [hk] at e; cases e
theorem t_good {d : Nd} {s : Int} (hg : Good L k d) (hk : d.kind = 1) (h0 : 0 ≤ s) (h1 : s ≤ 1048576) : Good L k (tNd d s) ∧ ctL d.l s = EM.part 0 s d.l ∧ EM.ok 0 (EM.part 0 s d.l) = true := by
  obtain ⟨h2, h3⟩ := ends_part hg.ok h0
  exact ⟨⟨hg.kind, hg.links, hg.opens, hg.some, ⟨h0, h1⟩, h2, h3, fun h => by
    have e : d.kind = 2 := h
    rw [hk] at e; cases e⟩, by unfold ctL; rw [if_pos ⟨hg.ok, h0⟩], h2⟩

set_option maxRecDepth 100000 in
set_option maxHeartbeats 8000000 in
theorem Write_any (n f : Int) (s : ByteArray) (w : World) (h : PS base w sg mb M I L B k S) (hn : IS.I64 n) (hf : I64 f) (hs : s.size ≤ maxLen) :
    Calls Try.prog 22 #[.pointer (some ⟨sg, 0, none⟩), .int .i64 n, .int .i64 f, .string s] w (Out base sg mb I L B k w (wrErr I B S n f s) (wrS I B S n f s)) := by
  have hmf : ∀ (fn : Fn) (first cap : Array Value) (w : World), (Instr.makeFunc fn first cap).run Try.prog w = .ok (.func fn first cap) w := fun _ _ _ _ => rfl
  have cA := ask_file n h.pm hn
  by_cases hno : ∃ d, S n = some d ∧ d.kind = 1
  · obtain ⟨d, hS, hk⟩ := hno
    have hr : (askR S n fun d => if d.kind = 1 then (0 : Int) else 14) = 0 := by simp [askR, hS, hk]
    rw [hr] at cA
    have cA := W_hid cA
    have H := W_hid h
    have hg := h.fn.good n d hS
    have hlow := W_hid h.low
    obtain ⟨E, hE⟩ : ∃ E, wrE d.l f s = E := ⟨_, rfl⟩
    have hSS : ∀ x, wrErr I B S n f s = x ↔ (if E = 0 then (if tot S I + EM.cnt (EM.wr d.l f s) ≤ B + EM.cnt d.l then (0 : Int) else 21) else E) = x := fun x => by unfold wrErr askR; rw [hS]; simp [hk, hE]
    have hSt : wrS I B S n f s = if E = 0 ∧ tot S I + EM.cnt (EM.wr d.l f s) ≤ B + EM.cnt d.l then upd S n (some (wNd d f s)) else S := by unfold wrS; rw [hS]; simp [hk, hE]
    replace hS := W_hid hS
    replace hSS := W_hid hSS
    replace hSt := W_hid hSt
    have hG := W_hid hg
    have hwg := W_hid (fun he => wr_good (s := s) (f := f) hg hk he)
    replace hE := W_hid hE
    clear h hr hg
    go_enter Try.func22, Try.ntmps22
    go_wp2_with fail
    refine cA.out.mono ?_
    rintro e w1 ⟨rfl, b1⟩
    have h1 := H.out.keep b1
    have c0 := h1.pm.box.cell (j := 0) rfl
    have hlk := h1.pm.mp.look n hn
    obtain ⟨g, v, hM, hN, hge, hgs, hgm⟩ := h1.pm.has hS.out
    rw [hM] at hlk
    simp only [IS.ptr] at hlk
    obtain ⟨ao, nn, cc, rfl, hx1, -⟩ := hN.2
    have d4 := hN.1.cell (j := 4) rfl
    have cW := Go.Proofs.Ytieneehpijilpaa.Write_any ao nn cc d.l f s w1 hx1 (ok_fit (Int.le_refl _) hG.out.ok) hf hs
    rw [hE.out] at cW
    have hb1 := W_hid b1
    have cW := W_hid cW
    have hM := W_hid hM
    have hN := W_hid hN
    have h1 := W_hid h1
    clear b1 hx1
    go_wp2_with fail
    refine cW.out.mono ?_
    rintro e w2 ⟨v2, rfl, ho2, b2⟩
    have b2' := W_hid (hb1.out.trans (b2.mono hb1.out.size))
    by_cases he : E = 0
    · obtain ⟨hGw, hL2, hok2, hf0, hf1⟩ := hwg.out (hE.out.trans he)
      subst he
      rw [hL2] at ho2
      have hX2 := XE.own ho2
      have h2 := h1.out.keep b2
      have hN2 : NB w2 g d (.slice ao nn cc) := ⟨hN.out.1.keep b2, hN.out.2.keep b2⟩
      have htot := h2.fn.tot
      have hlim := h2.lim
      have cR := W_hid (replace_any n g d _ v2 (EM.wr d.l f s) w2 h2.pm hM.out hS.out hN2 hX2 hG.out.ok hok2 ⟨by omega, by omega⟩)
      obtain ⟨ao2, nn2, cc2, rfl, -, -⟩ := hX2
      have h2 := W_hid h2
      have hGw := W_hid hGw
      clear ho2 b2 hN2 hL2 hok2 htot hlim cW cA
      go_wp2_with fail
      refine cR.out.mono ?_
      rintro e w3 (⟨q1, rfl, b3⟩ | ⟨q1, rfl, q2, q3, q4⟩)
      · have hbad : ¬ (tot S I + EM.cnt (EM.wr d.l f s) ≤ B + EM.cnt d.l) := by omega
        have e1 : wrErr I B S n f s = 21 := (hSS.out _).2 (by simp [hbad])
        have e2 : wrS I B S n f s = S := by rw [hSt.out]; simp [hbad]
        have e1 := W_hid e1
        have e2 := W_hid e2
        have b3 := W_hid (b2'.out.trans (b3.mono b2'.out.size))
        clear q1 hbad cR
        go_wp2_with fail
        go_ret
        rw [e1.out, e2.out]
        exact Out.same H.out (Nat.le_refl _) b3.out 21
      · have hgood : tot S I + EM.cnt (EM.wr d.l f s) ≤ B + EM.cnt d.l := by omega
        have e1 : wrErr I B S n f s = 0 := (hSS.out _).2 (by simp [hgood])
        have e2 : wrS I B S n f s = upd S n (some (wNd d f s)) := by rw [hSt.out]; simp [hgood]
        have e1 := W_hid e1
        have e2 := W_hid e2
        obtain ⟨t1, t2⟩ := turn_left (d' := wNd d f s) h2.out.fn hS.out hGw.out q1
        have K0 := W_hid ((Keeps.new (T := PT) b2'.out hlow.out).trans q4)
        have t1 := W_hid t1
        have hlim := W_hid h2.out.lim
        have t2' : (B : Int) - (tot S I : Int) - ((EM.cnt (EM.wr d.l f s) : Int) - (EM.cnt d.l : Int)) = (B : Int) - (tot (upd S n (some (wNd d f s))) I : Int) := t2
        rw [t2'] at q2
        clear q1 hgood cR t2 t2' q4 h2 h1
        by_cases hz : s.size = 0
        · obtain ⟨z1, z2⟩ := xempty hz
          have ew : wNd d f s = { d with l := EM.wr d.l f s } := by unfold wNd; rw [if_pos hz]
          have ez : s = ⟨#[]⟩ := EM.ba_inj (List.eq_nil_of_length_eq_zero (by rw [EM.list_size]; exact hz))
          rw [ew] at t1 q2 e2
          replace q2 := W_hid q2
          replace q3 := W_hid q3
          replace ez := W_hid ez
          clear ew
          go_wp2_with fail
          go_ret
          rw [e1.out, e2.out]
          exact ⟨rfl, ⟨M, q2.out, t1.out, hlim.out⟩, K0.out⟩
        · obtain ⟨z1, z2⟩ := xfull hz
          obtain ⟨mx, hmx⟩ : ∃ mx, (if d.size < f + (s.size : Int) then f + (s.size : Int) else d.size) = mx := ⟨_, rfl⟩
          have hmax : max d.size (f + (s.size : Int)) = mx := by rw [← hmx]; split <;> omega
          have ew : wNd d f s = { d with l := EM.wr d.l f s, size := mx } := by unfold wNd; rw [if_neg hz, hmax]
          have hw : IntKind.i64.wrap (f + (s.size : Int)) = f + (s.size : Int) := by rw [IntKind.wrap_i64]; omega
          have f3 := q3.1.fz
          have d3 := q3.1.cell (j := 3) rfl
          obtain ⟨r1, r2, r3⟩ := q2.setNode (n := n) (d' := { d with l := EM.wr d.l f s, size := mx }) (v' := .slice ao2 nn2 cc2) hM.out (upd_at _ _ _) q3.1 q3.2 3 (.int .i64 mx) rfl
          rw [upd_upd] at r1
          rw [ew] at t1 r1 e2
          replace r1 := W_hid r1
          have K1 := W_hid (K0.out.trans r3)
          clear q2 q3 r2 r3 ew hmax
          go_wp2_with fail
          go_ret
          rw [e1.out, e2.out]
          exact ⟨rfl, ⟨M, r1.out, t1.out, hlim.out⟩, K1.out⟩
    · have e1 : wrErr I B S n f s = E := (hSS.out _).2 (by rw [if_neg he])
      have e2 : wrS I B S n f s = S := by rw [hSt.out, if_neg (fun h => he h.1)]
      have e1 := W_hid e1
      have e2 := W_hid e2
      clear cW cA b2
      obtain ⟨ao2, c2, rfl⟩ := Own.form ho2
      clear ho2
      go_wp2_with fail
      go_ret
      rw [e1.out, e2.out]
      exact Out.same H.out (Nat.le_refl _) b2'.out E
  · have hr : ∃ r, r ≠ 0 ∧ (askR S n fun d => if d.kind = 1 then (0 : Int) else 14) = r ∧ wrErr I B S n f s = r ∧ wrS I B S n f s = S := by
      cases hS : S n with
      | none => exact ⟨11, by decide, by simp [askR, hS], by simp [wrErr, askR, hS], by simp [wrS, hS]⟩
      | some d =>
        have hk : ¬ d.kind = 1 := fun e => hno ⟨d, hS, e⟩
        exact ⟨14, by decide, by simp [askR, hS, hk], by simp [wrErr, askR, hS, hk], by simp [wrS, hS, hk]⟩
    obtain ⟨r, hr0, hr1, hr2, hr3⟩ := hr
    rw [hr2, hr3]
    rw [hr1] at cA
    have cA := W_hid cA
    have H := W_hid h
    clear h hr1 hr2 hr3 hno
    go_enter Try.func22, Try.ntmps22
    go_wp2_with fail
    refine cA.out.mono ?_
    rintro e w1 ⟨rfl, b1⟩
    go_wp2_with fail
    go_ret
    exact Out.same H.out (Nat.le_refl _) b1 r

set_option maxRecDepth 100000 in
set_option maxHeartbeats 8000000 in
theorem Trunc_any (n s : Int) (w : World) (h : PS base w sg mb M I L B k S) (hn : IS.I64 n) (hs : I64 s) :
    Calls Try.prog 23 #[.pointer (some ⟨sg, 0, none⟩), .int .i64 n, .int .i64 s] w (Out base sg mb I L B k w (tErr S n s) (tS S n s)) := by
  have hmf : ∀ (fn : Fn) (first cap : Array Value) (w : World), (Instr.makeFunc fn first cap).run Try.prog w = .ok (.func fn first cap) w := fun _ _ _ _ => rfl
  have cA := ask_file n h.pm hn
  by_cases hno : ∃ d, S n = some d ∧ d.kind = 1
  · obtain ⟨d, hS, hk⟩ := hno
    have hr : (askR S n fun d => if d.kind = 1 then (0 : Int) else 14) = 0 := by simp [askR, hS, hk]
    rw [hr] at cA
    have cA := W_hid cA
    have H := W_hid h
    have hg := h.fn.good n d hS
    have hlow := W_hid h.low
    have hSS : tErr S n s = if s < 0 then 2 else if 1048576 < s then 28 else 0 := by unfold tErr askR; rw [hS]; simp [hk]
    have hSt : tS S n s = if 0 ≤ s ∧ s ≤ 1048576 then upd S n (some (tNd d s)) else S := by unfold tS; rw [hS]; simp [hk]
    replace hS := W_hid hS
    replace hSS := W_hid hSS
    replace hSt := W_hid hSt
    have hG := W_hid hg
    have hwg := W_hid (fun h0 h1 => t_good (s := s) hg hk h0 h1)
    clear h hr hg
    by_cases hs0 : s < 0
    · have e1 : Hid (tErr S n s = 2) := W_hid (by rw [hSS.out, if_pos hs0])
      have e2 : Hid (tS S n s = S) := W_hid (by rw [hSt.out, if_neg (by omega)])
      go_enter Try.func23, Try.ntmps23
      go_wp2_with fail
      refine cA.out.mono ?_
      rintro e w1 ⟨rfl, b1⟩
      go_wp2_with fail
      go_ret
      rw [e1.out, e2.out]
      exact Out.same H.out (Nat.le_refl _) b1 2
    · by_cases hs1 : 1048576 < s
      · have e1 : Hid (tErr S n s = 28) := W_hid (by rw [hSS.out, if_neg hs0, if_pos hs1])
        have e2 : Hid (tS S n s = S) := W_hid (by rw [hSt.out, if_neg (by omega)])
        go_enter Try.func23, Try.ntmps23
        go_wp2_with fail
        refine cA.out.mono ?_
        rintro e w1 ⟨rfl, b1⟩
        go_wp2_with fail
        go_ret
        rw [e1.out, e2.out]
        exact Out.same H.out (Nat.le_refl _) b1 28
      · have e1 : Hid (tErr S n s = 0) := W_hid (by rw [hSS.out, if_neg hs0, if_neg hs1])
        have e2 : Hid (tS S n s = upd S n (some (tNd d s))) := W_hid (by rw [hSt.out, if_pos (by omega)])
        obtain ⟨hGw, hL2, hok2⟩ := hwg.out (by omega) (by omega)
        go_enter Try.func23, Try.ntmps23
        go_wp2_with fail
        refine cA.out.mono ?_
        rintro e w1 ⟨rfl, b1⟩
        have h1 := H.out.keep b1
        have c0 := h1.pm.box.cell (j := 0) rfl
        have hlk := h1.pm.mp.look n hn
        obtain ⟨g, v, hM, hN, hge, hgs, hgm⟩ := h1.pm.has hS.out
        rw [hM] at hlk
        simp only [IS.ptr] at hlk
        obtain ⟨ao, nn, cc, rfl, hx1, -⟩ := hN.2
        have d4 := hN.1.cell (j := 4) rfl
        have cW := Cut_any ao nn cc d.l s w1 hx1 (ok_fit (Int.le_refl _) hG.out.ok) hs
        rw [hL2] at cW
        have hb1 := W_hid b1
        have cW := W_hid cW
        have hM := W_hid hM
        have hN := W_hid hN
        have h1 := W_hid h1
        clear b1 hx1 hL2
        go_wp2_with fail
        refine cW.out.mono ?_
        rintro e w2 ⟨v2, rfl, ho2, b2⟩
        have b2' := W_hid (hb1.out.trans (b2.mono hb1.out.size))
        have hX2 := XE.own ho2
        have h2 := h1.out.keep b2
        have hN2 : NB w2 g d (.slice ao nn cc) := ⟨hN.out.1.keep b2, hN.out.2.keep b2⟩
        have htot := h2.fn.tot
        have hlim := h2.lim
        have hcp := cnt_part 0 s d.l
        have hle : Hid ((EM.cnt (EM.part 0 s d.l) : Int) - (EM.cnt d.l : Int) ≤ (B : Int) - (tot S I : Int)) := W_hid (by omega)
        have cR := W_hid (replace_any n g d _ v2 (EM.part 0 s d.l) w2 h2.pm hM.out hS.out hN2 hX2 hG.out.ok hok2 ⟨by omega, by omega⟩)
        obtain ⟨ao2, nn2, cc2, rfl, -, -⟩ := hX2
        have h2 := W_hid h2
        have hGw := W_hid hGw
        clear ho2 b2 hN2 hok2 htot hlim cW cA hcp
        go_wp2_with fail
        refine cR.out.mono ?_
        rintro e w3 (⟨q1, rfl, b3⟩ | ⟨q1, rfl, q2, q3, q4⟩)
        · have := hle.out; omega
        · obtain ⟨t1, t2⟩ := turn_left (d' := tNd d s) h2.out.fn hS.out hGw.out hle.out
          have K0 := W_hid ((Keeps.new (T := PT) b2'.out hlow.out).trans q4)
          have t1 := W_hid t1
          have hlim := W_hid h2.out.lim
          have t2' : (B : Int) - (tot S I : Int) - ((EM.cnt (EM.part 0 s d.l) : Int) - (EM.cnt d.l : Int)) = (B : Int) - (tot (upd S n (some (tNd d s))) I : Int) := t2
          rw [t2'] at q2
          have f3 := q3.1.fz
          have d3 := q3.1.cell (j := 3) rfl
          obtain ⟨r1, r2, r3⟩ := q2.setNode (n := n) (d' := tNd d s) (v' := .slice ao2 nn2 cc2) hM.out (upd_at _ _ _) q3.1 q3.2 3 (.int .i64 s) rfl
          rw [upd_upd] at r1
          replace r1 := W_hid r1
          have K1 := W_hid (K0.out.trans r3)
          clear q1 cR t2 t2' q4 h2 h1 q2 q3 r2 r3
          go_wp2_with fail
          go_ret
          rw [e1.out, e2.out]
          exact ⟨rfl, ⟨M, r1.out, t1.out, hlim.out⟩, K1.out⟩
  · have hr : ∃ r, r ≠ 0 ∧ (askR S n fun d => if d.kind = 1 then (0 : Int) else 14) = r ∧ tErr S n s = r ∧ tS S n s = S := by
      cases hS : S n with
      | none => exact ⟨11, by decide, by simp [askR, hS], by simp [tErr, askR, hS], by simp [tS, hS]⟩
      | some d =>
        have hk : ¬ d.kind = 1 := fun e => hno ⟨d, hS, e⟩
        exact ⟨14, by decide, by simp [askR, hS, hk], by simp [tErr, askR, hS, hk], by simp [tS, hS, hk]⟩
    obtain ⟨r, hr0, hr1, hr2, hr3⟩ := hr
    rw [hr2, hr3]
    rw [hr1] at cA
    have cA := W_hid cA
    have H := W_hid h
    clear h hr1 hr2 hr3 hno
    go_enter Try.func23, Try.ntmps23
    go_wp2_with fail
    refine cA.out.mono ?_
    rintro e w1 ⟨rfl, b1⟩
    go_wp2_with fail
    go_ret
    exact Out.same H.out (Nat.le_refl _) b1 r
end
end IN
end Go.Proofs.Ytieneehpijilpaa

/- Contract of the document's within. -/
import Derived.Test.YtmnmheocmcmpmaaGreatZB04
import Derived.Test.YtmnmheocmcmpmaaGreatZB02
import Derived.LaidEqlPtr

namespace Go.Proofs.YtmnmheocmcmpmaaGreat
open Go.ChangeShapes Go.WideShapes Go.ChangeAt Go.RowKit Go.Maps
set_option linter.unusedVariables false
set_option linter.unusedSimpArgs false
namespace NT
open IN (Keeps)
def Did (base tg sg mb I L B q : Nat) (A : Int → Option (Nat × Nat)) (w : World) (r : Int) (S' : Int → Option IN.Nd) (D' : Ds) (e : Ending) (w' : World) : Prop :=
  e = .returned (.int .i64 r) ∧ (∃ M', IN.PS base w' sg mb M' I L B q S') ∧ (∃ A', TM base w' tg sg mb A' D') ∧ Keeps base (FT A mb) w w'
section
variable {base : Nat} {w w' : World} {tg sg mb I L B q : Nat} {A : Int → Option (Nat × Nat)} {D : Ds} {M : Int → Option Nat} {S : Int → Option IN.Nd}
theorem did_same (h : TM base w tg sg mb A D) (hP : IN.PS base w sg mb M I L B q S) (hb : Below w.heap.size w w') (r : Int) : Did base tg sg mb I L B q A w r S D (.returned (.int .i64 r)) w' :=
  ⟨rfl, ⟨M, hP.keep hb⟩, ⟨A, h.keep hb⟩, Keeps.new hb h.low⟩
theorem did_r {r r' : Int} {S' : Int → Option IN.Nd} {D' : Ds} {e : Ending} (h : Did base tg sg mb I L B q A w r S' D' e w') (hr : r' = r) : Did base tg sg mb I L B q A w r' S' D' e w' := by rw [hr]; exact h
def linkV (D : Ds) (L : Nat) (S : Int → Option IN.Nd) (s t : ByteArray) : Int := if PM.perr s ≠ 0 then PM.perr s else if PM.perr t ≠ 0 then PM.perr t else match find D (PM.pN s) (PM.pD s) with
  | .error e => e
  | .ok n => if D n ≠ none then 27 else match vacant D 1 t with
    | .error e => e
    | .ok p => IN.lkR L S n
theorem vacant_er {kind : Int} {s : ByteArray} {e : Int} (h : vacant D kind s = .error e) : e ≠ 0 := by
  unfold vacant placeC at h
  split at h
  · rename_i e' he
    cases h
    rcases place_er he with h | h
    · rw [h]; decide
    · exact h
  · split at h
    · cases h
    · rename_i hne
      cases h
      exact hne
set_option maxRecDepth 100000 in
set_option maxHeartbeats 4000000 in
theorem Link_parse (s t : ByteArray) (hs : s.size ≤ maxLen) (ht : t.size ≤ maxLen) (w : World) (h : TM base w tg sg mb A D) (pe : Int) (hpe : pe ≠ 0) (he : (PM.perr s = pe) ∨ (PM.perr s = 0 ∧ PM.perr t = pe)) :
    Calls Tryz.prog 30 #[.pointer (some ⟨tg, 0, none⟩), .string s, .string t] w fun e w' => e = .returned (.int .i64 pe) ∧ Below w.heap.size w w' := by
  have cN := W_hid (none_some w h)
  have cP : Hid (∀ w, Calls Tryz.prog 77 #[.string s, .string t] w fun e w' => e = .returned (.tuple #[.agg #[.bool false, .slice none 0 0, .bool false], .agg #[.bool false, .slice none 0 0, .bool false], .int .i64 pe]) ∧ Below w.heap.size w w') := W_hid (fun w => by
    rcases he with e1 | ⟨e1, e2⟩
    · have := parse2_first s t hs w (by rw [e1]; exact hpe)
      rwa [e1] at this
    · have := parse2_second s t hs ht w e1 (by rw [e2]; exact hpe)
      rwa [e2] at this)
  have hne : (pe == 0) = false := by simpa using hpe
  clear h he hpe
  go_enter Tryz.func30, Tryz.ntmps30
  go_wp2_with fail
  refine cN.out.mono ?_
  rintro e w1 ⟨rfl, b1⟩
  have B1 := W_hid b1
  clear b1 cN
  go_wp2_with fail
  refine (cP.out _).mono ?_
  rintro e w2 ⟨rfl, b2⟩
  have b2' : Below w.heap.size w w2 := B1.out.trans (b2.mono B1.out.size)
  have B3 := W_hid ((b2'.alloc b2'.size (.cells #[.bool false, .slice none 0 0, .bool false] 136)).alloc (Nat.le_trans b2'.size (by simp)) (.cells #[.bool false, .slice none 0 0, .bool false] 136))
  clear b2 b2' B1
  go_wp2_with fail
  go_ret
  exact ⟨rfl, B3.out⟩
set_option maxRecDepth 100000 in
set_option maxHeartbeats 16000000 in
theorem Link_rest (s t : ByteArray) (hs : s.size ≤ maxLen) (ht : t.size ≤ maxLen) (w : World) (h : TM base w tg sg mb A D) (hP : IN.PS base w sg mb M I L B q S) (h0 : PM.perr s = 0) (h1 : PM.perr t = 0) (hfew : ∀ n d, D n = some d → d.l.length < 65536) (hnum : ∀ n, find D (PM.pN s) (PM.pD s) = .ok n → IS.I64 n) :
    Calls Tryz.prog 30 #[.pointer (some ⟨tg, 0, none⟩), .string s, .string t] w fun e w' =>
      match find D (PM.pN s) (PM.pD s) with
      | .error e0 => e = .returned (.int .i64 e0) ∧ Below w.heap.size w w'
      | .ok n => if D n ≠ none then e = .returned (.int .i64 27) ∧ Below w.heap.size w w' else match vacant D 1 t with
        | .error e0 => e = .returned (.int .i64 e0) ∧ Below w.heap.size w w'
        | .ok p => Did base tg sg mb I L B q A w (IN.lkR L S n) (IN.lkS L S n) (if IN.lkR L S n = 0 then (fun m => if m = p then (D p).map fun d => { d with l := put (last (PM.pN t)) n d.l } else D m) else D) e w' := by
  have cN := W_hid (none_some w h)
  have cP := fun w => W_hid (parse2_yes s t hs ht w h0 h1)
  have cF := fun (ao : Option Addr) (n cap : Nat) (w' : World) (hb : Below w.heap.size w w') (hl : SS w' ao n cap (PM.pN s)) => find_any (PM.pA s) (PM.pD s) (PM.pN s) ao n cap w' (h.keep hb) hl (pN_sm s)
  have cV := fun (ao : Option Addr) (n cap : Nat) (w' : World) (hb : Below w.heap.size w w') (hl : SS w' ao n cap (PM.pN t)) => vacant_any (PM.pA t) (PM.pD t) 1 (PM.pN t) ao n cap w' (h.keep hb) hl (pN_sm t)
  have hz := last_le t
  have hve : ∀ e0, vacant D 1 t = .error e0 → e0 ≠ 0 := fun e0 => vacant_er
  have hfe : ∀ e0, find D (PM.pN s) (PM.pD s) = .error e0 → e0 ≠ 0 := fun e0 => find_er
  have hvd : ∀ p, vacant D 1 t = .ok p → D p ≠ none := fun p hp => by
    unfold vacant placeC at hp
    cases e : place D (PM.pN t) 12 with
    | error e1 => rw [e] at hp; cases hp
    | ok m =>
      rw [e] at hp
      simp only at hp
      split at hp
      · cases hp; exact place_dir e
      · cases hp
  change ∀ (ao : Option Addr) (n cap : Nat) (w' : World), Below w.heap.size w w' → SS w' ao n cap (PM.pN t) → Calls Tryz.prog 85 _ w' fun e' w'' => e' = .returned (.tuple #[pv A (PM.pN t) (PM.pD t) (vacant D 1 t), .int .i64 (er (vacant D 1 t))]) ∧ Below w'.heap.size w' w'' at cV
  generalize vacant D 1 t = V at cV hve hvd ⊢
  generalize find D (PM.pN s) (PM.pD s) = R at cF hfe hnum ⊢
  generalize PM.pN s = l at cP cF
  generalize PM.pD s = d at cP cF
  generalize PM.pA s = a at cP cF
  generalize PM.pN t = l2 at cP cV hz ⊢
  generalize PM.pD t = d2 at cP cV
  generalize PM.pA t = a2 at cP cV
  have hpn := pa_none h
  have H := W_hid h
  have HP := W_hid hP
  replace cF := W_hid cF
  replace cV := W_hid cV
  clear h hP h0 h1 hs ht
  cases R with
  | error e0 =>
    have hne : (e0 == 0) = false := by simpa using hfe e0 rfl
    have cF2 : Hid (∀ (ao : Option Addr) (n cap : Nat) (w' : World), Below w.heap.size w w' → SS w' ao n cap l → Calls Tryz.prog 76 #[.pointer (some ⟨tg, 0, none⟩), .agg #[.bool a, .slice ao n cap, .bool d]] w' fun e w'' => e = .returned (.tuple #[.agg #[.int .i64 0, .pointer none], .int .i64 e0]) ∧ Below w'.heap.size w' w'') := W_hid cF.out
    simp only
    clear hfe hve hvd hnum cV cF hpn
    go_enter Tryz.func30, Tryz.ntmps30
    go_wp2_with fail
    refine cN.out.mono ?_
    rintro e w1 ⟨rfl, b1⟩
    have B1 := W_hid b1
    clear b1 cN
    go_wp2_with fail
    refine (cP _).out.mono ?_
    rintro e w2 ⟨ao, n, cap, ao2, n2, cap2, rfl, hS1, hS2, b2⟩
    have b2' : Below w.heap.size w w2 := B1.out.trans (b2.mono B1.out.size)
    have b3 := (b2'.alloc b2'.size (.cells #[.bool a, .slice ao n cap, .bool d] 136)).alloc (Nat.le_trans b2'.size (by simp)) (.cells #[.bool a2, .slice ao2 n2 cap2, .bool d2] 136)
    have p1 : Blk ((w2.alloc (.cells #[.bool a, .slice ao n cap, .bool d] 136)).alloc (.cells #[.bool a2, .slice ao2 n2 cap2, .bool d2] 136)) w2.heap.size 136 [.bool a, .slice ao n cap, .bool d] := (Blk.new _ _ _ rfl).alloc _
    have c0 := p1.cell (j := 0) rfl
    have c1 := p1.cell (j := 1) rfl
    have c2 := p1.cell (j := 2) rfl
    have cF3 := W_hid (cF2.out ao n cap _ b3 ((hS1.alloc _).alloc _))
    have B3 := W_hid b3
    clear b2 b2' b3 B1 p1 hS1 hS2 cF2
    go_wp2_with fail
    refine cF3.out.mono ?_
    rintro e w3 ⟨rfl, b4⟩
    have b5 := B3.out.trans (b4.mono B3.out.size)
    have B4 := W_hid (b5.alloc b5.size (.cells #[.int .i64 0, .pointer none] 141))
    clear b4 b5 B3 cF3
    go_wp2_with fail
    go_ret
    exact ⟨rfl, B4.out⟩
  | ok n0 =>
    have hn64 := hnum n0 rfl
    obtain ⟨pp, hpp⟩ := ptr_form (pa A n0)
    have cF2 : Hid (∀ (ao : Option Addr) (n cap : Nat) (w' : World), Below w.heap.size w w' → SS w' ao n cap l → Calls Tryz.prog 76 #[.pointer (some ⟨tg, 0, none⟩), .agg #[.bool a, .slice ao n cap, .bool d]] w' fun e w'' => e = .returned (.tuple #[.agg #[.int .i64 n0, .pointer pp], .int .i64 0]) ∧ Below w'.heap.size w' w'') := W_hid (fun ao n cap w' hb hl => by
      have := cF.out ao n cap w' hb hl
      simp only [rv, er, NS.nv, hpp] at this
      exact this)
    have cE := fun w => isFile_any n0 (pa A n0) w
    rw [hpn n0] at cE
    simp only [hpp] at cE
    have hpa := W_hid hpp
    have hpn0 := W_hid (hpn n0)
    clear hfe hnum cF hpn hpp
    simp only
    by_cases hD : D n0 = none
    · rw [decide_eq_true hD] at cE
      simp only [hD, ne_eq, not_true_eq_false, if_false]
      replace cE := fun w => W_hid (cE w)
      cases V with
      | error e0 =>
        have hne : (e0 == 0) = false := by simpa using hve e0 rfl
        have cV2 : Hid (∀ (ao : Option Addr) (n cap : Nat) (w' : World), Below w.heap.size w w' → SS w' ao n cap l2 → Calls Tryz.prog 85 #[.pointer (some ⟨tg, 0, none⟩), .agg #[.bool a2, .slice ao n cap, .bool d2], .int .i64 1] w' fun e' w'' => e' = .returned (.tuple #[.agg #[.int .i64 0, .pointer none, .string ⟨#[]⟩, .bool false], .int .i64 e0]) ∧ Below w'.heap.size w' w'') := W_hid cV.out
        simp only
        clear hve hvd cV
        go_enter Tryz.func30, Tryz.ntmps30
        go_wp2_with fail
        refine cN.out.mono ?_
        rintro e w1 ⟨rfl, b1⟩
        have B1 := W_hid b1
        clear b1 cN
        go_wp2_with fail
        refine (cP _).out.mono ?_
        rintro e w2 ⟨ao, n, cap, ao2, n2, cap2, rfl, hS1, hS2, b2⟩
        have b2' : Below w.heap.size w w2 := B1.out.trans (b2.mono B1.out.size)
        have b3 := (b2'.alloc b2'.size (.cells #[.bool a, .slice ao n cap, .bool d] 136)).alloc (Nat.le_trans b2'.size (by simp)) (.cells #[.bool a2, .slice ao2 n2 cap2, .bool d2] 136)
        have p1 : Blk ((w2.alloc (.cells #[.bool a, .slice ao n cap, .bool d] 136)).alloc (.cells #[.bool a2, .slice ao2 n2 cap2, .bool d2] 136)) w2.heap.size 136 [.bool a, .slice ao n cap, .bool d] := (Blk.new _ _ _ rfl).alloc _
        have p2 : Blk ((w2.alloc (.cells #[.bool a, .slice ao n cap, .bool d] 136)).alloc (.cells #[.bool a2, .slice ao2 n2 cap2, .bool d2] 136)) (w2.heap.size + 1) 136 [.bool a2, .slice ao2 n2 cap2, .bool d2] := Blk.new _ _ _ (by simp)
        have c0 := p1.cell (j := 0) rfl
        have c1 := p1.cell (j := 1) rfl
        have c2 := p1.cell (j := 2) rfl
        have cF3 := W_hid (cF2.out ao n cap _ b3 ((hS1.alloc _).alloc _))
        have B3 := W_hid b3
        have P2 := W_hid (And.intro p2 ((hS2.alloc (.cells #[.bool a, .slice ao n cap, .bool d] 136)).alloc (.cells #[.bool a2, .slice ao2 n2 cap2, .bool d2] 136)))
        clear b2 b2' b3 B1 p1 p2 hS1 hS2 cF2
        go_wp2_with fail
        refine cF3.out.mono ?_
        rintro e w3 ⟨rfl, b4⟩
        have b5 := B3.out.trans (b4.mono B3.out.size)
        have r3 : Blk (w3.alloc (.cells #[.int .i64 n0, .pointer pp] 141)) w3.heap.size 141 [.int .i64 n0, .pointer pp] := Blk.new _ _ _ rfl
        have P3 := W_hid (And.intro ((P2.out.1.keep b4).alloc (.cells #[.int .i64 n0, .pointer pp] 141)) ((P2.out.2.below b4 (Nat.le_refl _)).alloc (.cells #[.int .i64 n0, .pointer pp] 141)))
        have r30 := r3.cell (j := 0) rfl
        have r31 := r3.cell (j := 1) rfl
        have B4 := W_hid (b5.alloc b5.size (.cells #[.int .i64 n0, .pointer pp] 141))
        have R3 := W_hid r3
        clear b4 b5 B3 cF3 P2 r3
        go_wp2_with fail
        refine (cE _).out.mono ?_
        rintro e w4 ⟨rfl, b6⟩
        have B5 := W_hid (B4.out.trans (b6.mono B4.out.size))
        have P4 := W_hid (And.intro (P3.out.1.keep b6) (P3.out.2.below b6 (Nat.le_refl _)))
        have R4 := W_hid (R3.out.keep b6)
        clear b6 B4 P3 R3
        have d0 := P4.out.1.cell (j := 0) rfl
        have d1 := P4.out.1.cell (j := 1) rfl
        have d2' := P4.out.1.cell (j := 2) rfl
        have cV3 := W_hid (cV2.out ao2 n2 cap2 w4 B5.out P4.out.2)
        clear cV2 r30 r31
        go_wp2_with fail
        refine cV3.out.mono ?_
        rintro e w5 ⟨rfl, b7⟩
        have b8 := B5.out.trans (b7.mono B5.out.size)
        have B6 := W_hid (b8.alloc b8.size (.cells #[.int .i64 0, .pointer none, .string ⟨#[]⟩, .bool false] 147))
        clear b7 b8 cV3 B5 P4 R4
        go_wp2_with fail
        go_ret
        exact ⟨rfl, B6.out⟩
      | ok p =>
        have hDp := hvd p rfl
        cases hdp : D p with
        | none => exact absurd hdp hDp
        | some dp =>
        obtain ⟨g, m, hA, hpa2, hdb⟩ := H.out.db hdp
        have cV2 : Hid (∀ (ao : Option Addr) (n cap : Nat) (w' : World), Below w.heap.size w w' → SS w' ao n cap l2 → Calls Tryz.prog 85 #[.pointer (some ⟨tg, 0, none⟩), .agg #[.bool a2, .slice ao n cap, .bool d2], .int .i64 1] w' fun e' w'' => e' = .returned (.tuple #[.agg #[.int .i64 p, .pointer (some ⟨g, 0, none⟩), .string (last l2), .bool d2], .int .i64 0]) ∧ Below w'.heap.size w' w'') := W_hid (fun ao n cap w' hb hl => by
          have := cV.out ao n cap w' hb hl
          simp only [pv, er, plv, hpa2, IS.ptr] at this
          exact this)
        simp only
        have cL := W_hid (fun (w' : World) (hb : Below w.heap.size w w') => IN.Link_any n0 w' (HP.out.keep hb) hn64)
        have cU := W_hid (fun (w' : World) (hT : TM base w' tg sg mb A D) => by
          obtain ⟨q1, q2⟩ := hT.dir p g m dp hA hdp
          exact put_any base g m dp.up (pa A dp.up) (nm A dp.l) (last l2) hz n0 none w' ⟨q1, q2⟩ (H.out.ge.2 p g m hA).2.1 (made_few rfl (hfew p dp hdp)))
        have hpn1 : pa A n0 = none := by
          have := hpn0.out
          rw [decide_eq_true hD] at this
          cases e : pa A n0 with
          | none => rfl
          | some _ => rw [e] at this; cases this
        have hppn : pp = none := by have := hpa.out; rw [hpn1] at this; simpa [IS.ptr] using this.symm
        subst hppn
        have hA := W_hid hA
        have hdp := W_hid hdp
        have hpn1 := W_hid hpn1
        have hmlt := W_hid hdb.2.lt
        generalize last l2 = z at cV2 cU hz ⊢
        obtain ⟨Q, hQ⟩ : ∃ Q, Did base tg sg mb I L B q A w (IN.lkR (L : Int) S n0) (IN.lkS (L : Int) S n0) (if IN.lkR (L : Int) S n0 = 0 then (fun m => if m = p then (D p).map fun d => { d with l := put z n0 d.l } else D m) else D) = Q := ⟨_, rfl⟩
        rw [hQ]
        replace hQ := W_hid hQ
        clear hve hvd cV hDp hpa2 hdb hpa hpn0
        go_enter Tryz.func30, Tryz.ntmps30
        go_wp2_with fail
        refine cN.out.mono ?_
        rintro e w1 ⟨rfl, b1⟩
        have B1 := W_hid b1
        clear b1 cN
        go_wp2_with fail
        refine (cP _).out.mono ?_
        rintro e w2 ⟨ao, n, cap, ao2, n2, cap2, rfl, hS1, hS2, b2⟩
        have b2' : Below w.heap.size w w2 := B1.out.trans (b2.mono B1.out.size)
        have b3 := (b2'.alloc b2'.size (.cells #[.bool a, .slice ao n cap, .bool d] 136)).alloc (Nat.le_trans b2'.size (by simp)) (.cells #[.bool a2, .slice ao2 n2 cap2, .bool d2] 136)
        have p1 : Blk ((w2.alloc (.cells #[.bool a, .slice ao n cap, .bool d] 136)).alloc (.cells #[.bool a2, .slice ao2 n2 cap2, .bool d2] 136)) w2.heap.size 136 [.bool a, .slice ao n cap, .bool d] := (Blk.new _ _ _ rfl).alloc _
        have p2 : Blk ((w2.alloc (.cells #[.bool a, .slice ao n cap, .bool d] 136)).alloc (.cells #[.bool a2, .slice ao2 n2 cap2, .bool d2] 136)) (w2.heap.size + 1) 136 [.bool a2, .slice ao2 n2 cap2, .bool d2] := Blk.new _ _ _ (by simp)
        have c0 := p1.cell (j := 0) rfl
        have c1 := p1.cell (j := 1) rfl
        have c2 := p1.cell (j := 2) rfl
        have cF3 := W_hid (cF2.out ao n cap _ b3 ((hS1.alloc _).alloc _))
        have B3 := W_hid b3
        have P2 := W_hid (And.intro p2 ((hS2.alloc (.cells #[.bool a, .slice ao n cap, .bool d] 136)).alloc (.cells #[.bool a2, .slice ao2 n2 cap2, .bool d2] 136)))
        clear b2 b2' b3 B1 p1 p2 hS1 hS2 cF2
        go_wp2_with fail
        refine cF3.out.mono ?_
        rintro e w3 ⟨rfl, b4⟩
        have b5 := B3.out.trans (b4.mono B3.out.size)
        have r3 : Blk (w3.alloc (.cells #[.int .i64 n0, .pointer none] 141)) w3.heap.size 141 [.int .i64 n0, .pointer none] := Blk.new _ _ _ rfl
        have P3 := W_hid (And.intro ((P2.out.1.keep b4).alloc (.cells #[.int .i64 n0, .pointer none] 141)) ((P2.out.2.below b4 (Nat.le_refl _)).alloc (.cells #[.int .i64 n0, .pointer none] 141)))
        have r30 := r3.cell (j := 0) rfl
        have r31 := r3.cell (j := 1) rfl
        have B4 := W_hid (b5.alloc b5.size (.cells #[.int .i64 n0, .pointer none] 141))
        have R3 := W_hid r3
        clear b4 b5 B3 cF3 P2 r3
        go_wp2_with fail
        refine (cE _).out.mono ?_
        rintro e w4 ⟨rfl, b6⟩
        have B5 := W_hid (B4.out.trans (b6.mono B4.out.size))
        have P4 := W_hid (And.intro (P3.out.1.keep b6) (P3.out.2.below b6 (Nat.le_refl _)))
        have R4 := W_hid (R3.out.keep b6)
        clear b6 B4 P3 R3
        have d0 := P4.out.1.cell (j := 0) rfl
        have d1 := P4.out.1.cell (j := 1) rfl
        have d2' := P4.out.1.cell (j := 2) rfl
        have cV3 := W_hid (cV2.out ao2 n2 cap2 w4 B5.out P4.out.2)
        clear cV2 r30 r31
        go_wp2_with fail
        refine cV3.out.mono ?_
        rintro e w5 ⟨rfl, b7⟩
        have b8 := B5.out.trans (b7.mono B5.out.size)
        have b9 := b8.alloc b8.size (.cells #[.int .i64 p, .pointer (some ⟨g, 0, none⟩), .string z, .bool d2] 147)
        have q5 : Blk (w5.alloc (.cells #[.int .i64 p, .pointer (some ⟨g, 0, none⟩), .string z, .bool d2] 147)) w5.heap.size 147 [.int .i64 p, .pointer (some ⟨g, 0, none⟩), .string z, .bool d2] := Blk.new _ _ _ rfl
        have r5 := (R4.out.keep b7).alloc (.cells #[.int .i64 p, .pointer (some ⟨g, 0, none⟩), .string z, .bool d2] 147)
        have t0 := (H.out.keep b9).box.cell (j := 0) rfl
        have x0 := r5.cell (j := 0) rfl
        have cL1 := cL.out _ b9.drew
        have hsz5 := W_hid b8.size
        have Q5 := W_hid (And.intro q5 (And.intro r5 b9))
        replace cL1 := W_hid cL1
        clear b7 b8 b9 q5 r5 cV3 B5 P4 R4 d0 d1 d2'
        go_wp2_with fail
        go_region_held3 (fun w' => w'.cell? ⟨tg, 0, none⟩ = some (.pointer (some ⟨sg, 0, none⟩)) ∧ w'.cell? ⟨w3.heap.size, 0, none⟩ = some (.int .i64 n0)) (first | assumption | go_keep)
          (first
            | (go_at_call 89; refine cL1.out.mono ?_; rintro e w6 ⟨rfl, hP6, hK6⟩; have hT6 := ((H.out.keep Q5.out.2.2).store (w' := w6) hK6.undrew); have r6 : Blk w6 w3.heap.size 141 [.int .i64 n0, .pointer none] := hK6.undrew.block _ _ Q5.out.2.1 (by simp [IN.PT]); have S6 : w6.cell? ⟨tg, 0, none⟩ = some (.pointer (some ⟨sg, 0, none⟩)) ∧ w6.cell? ⟨w3.heap.size, 0, none⟩ = some (.int .i64 n0) := ⟨hT6.box.cell (j := 0) rfl, r6.cell (j := 0) rfl⟩))
        all_goals
          have q6 : Blk w6 w5.heap.size 147 [.int .i64 p, .pointer (some ⟨g, 0, none⟩), .string z, .bool d2] := hK6.undrew.block _ _ Q5.out.1 (by simp [IN.PT])
          have hKK : Keeps base (FT A mb) w w6 := (Keeps.new Q5.out.2.2 H.out.low).trans (keeps_store hK6.undrew)
          have hfa := W_hid (And.intro hP6 (And.intro hT6 hKK))
          have cU1 := W_hid (cU.out w6 hT6)
          have y1 := q6.cell (j := 1) rfl
          have y2 := q6.cell (j := 2) rfl
          have z0 := r6.cell (j := 0) rfl
          have z1 := r6.cell (j := 1) rfl
          clear S6 hP6 hT6 hKK hK6 cL1 Q5 q6 r6 cU t0 x0
          by_cases h0 : IN.lkR (L : Int) S n0 = 0
          · rw [h0]
            have hlk0 := W_hid h0
            clear h0
            go_wp2_with fail
            refine cU1.out.mono ?_
            rintro e w7 ⟨rfl, hM7, hK7⟩
            have hT7 := hfa.out.2.1.turn hA.out hdp.out (l' := put z n0 dp.l) (by rw [nm_put, hpn1.out]; exact hM7) hK7
            have hfin := W_hid (show Q (.returned (.int .i64 0)) w7 from by
              rw [← hQ.out]
              obtain ⟨⟨M', h1⟩, h2, h3⟩ := hfa.out
              have hb := H.out.ge.2 p g m hA.out
              refine ⟨by rw [hlk0.out], ⟨M', h1.keeps hK7 (by simp [One]) (by simp [One]) (by simp [One, hb.2.2.symm]) (by simp [One])⟩, ⟨A, ?_⟩, h3.trans (keeps_one hA.out hK7)⟩
              rw [if_pos hlk0.out, show (fun m => if m = p then (D p).map fun d => { d with l := put z n0 d.l } else D m) = upd D p (some { dp with l := put z n0 dp.l }) from by
                funext m'
                unfold upd
                rw [hdp.out]
                rfl]
              exact hT7)
            clear hT7 hM7 hK7 hfa cU1
            go_wp2_with fail
            exact hfin.out
          · have hne : (IN.lkR (L : Int) S n0 == 0) = false := by simpa using h0
            have hfin := W_hid (show Q (.returned (.int .i64 (IN.lkR (L : Int) S n0))) w6 from by
              rw [← hQ.out]
              rw [if_neg h0]
              exact ⟨rfl, hfa.out.1, ⟨A, hfa.out.2.1⟩, hfa.out.2.2⟩)
            clear hfa cU1 h0
            go_wp2_with fail
            exact hfin.out
    · rw [decide_eq_false hD] at cE
      simp only [ne_eq, hD, not_false_eq_true, if_true]
      replace cE := fun w => W_hid (cE w)
      clear hve hvd cV
      go_enter Tryz.func30, Tryz.ntmps30
      go_wp2_with fail
      refine cN.out.mono ?_
      rintro e w1 ⟨rfl, b1⟩
      have B1 := W_hid b1
      clear b1 cN
      go_wp2_with fail
      refine (cP _).out.mono ?_
      rintro e w2 ⟨ao, n, cap, ao2, n2, cap2, rfl, hS1, hS2, b2⟩
      have b2' : Below w.heap.size w w2 := B1.out.trans (b2.mono B1.out.size)
      have b3 := (b2'.alloc b2'.size (.cells #[.bool a, .slice ao n cap, .bool d] 136)).alloc (Nat.le_trans b2'.size (by simp)) (.cells #[.bool a2, .slice ao2 n2 cap2, .bool d2] 136)
      have p1 : Blk ((w2.alloc (.cells #[.bool a, .slice ao n cap, .bool d] 136)).alloc (.cells #[.bool a2, .slice ao2 n2 cap2, .bool d2] 136)) w2.heap.size 136 [.bool a, .slice ao n cap, .bool d] := (Blk.new _ _ _ rfl).alloc _
      have p2 : Blk ((w2.alloc (.cells #[.bool a, .slice ao n cap, .bool d] 136)).alloc (.cells #[.bool a2, .slice ao2 n2 cap2, .bool d2] 136)) (w2.heap.size + 1) 136 [.bool a2, .slice ao2 n2 cap2, .bool d2] := Blk.new _ _ _ (by simp)
      have c0 := p1.cell (j := 0) rfl
      have c1 := p1.cell (j := 1) rfl
      have c2 := p1.cell (j := 2) rfl
      have cF3 := W_hid (cF2.out ao n cap _ b3 ((hS1.alloc _).alloc _))
      have B3 := W_hid b3
      have P2 := W_hid (And.intro p2 ((hS2.alloc (.cells #[.bool a, .slice ao n cap, .bool d] 136)).alloc (.cells #[.bool a2, .slice ao2 n2 cap2, .bool d2] 136)))
      clear b2 b2' b3 B1 p1 p2 hS1 hS2 cF2
      go_wp2_with fail
      refine cF3.out.mono ?_
      rintro e w3 ⟨rfl, b4⟩
      have b5 := B3.out.trans (b4.mono B3.out.size)
      have r3 : Blk (w3.alloc (.cells #[.int .i64 n0, .pointer pp] 141)) w3.heap.size 141 [.int .i64 n0, .pointer pp] := Blk.new _ _ _ rfl
      have P3 := W_hid (And.intro ((P2.out.1.keep b4).alloc (.cells #[.int .i64 n0, .pointer pp] 141)) ((P2.out.2.below b4 (Nat.le_refl _)).alloc (.cells #[.int .i64 n0, .pointer pp] 141)))
      have r30 := r3.cell (j := 0) rfl
      have r31 := r3.cell (j := 1) rfl
      have B4 := W_hid (b5.alloc b5.size (.cells #[.int .i64 n0, .pointer pp] 141))
      have R3 := W_hid r3
      clear b4 b5 B3 cF3 P2 r3
      go_wp2_with fail
      refine (cE _).out.mono ?_
      rintro e w4 ⟨rfl, b6⟩
      have B5 := W_hid (B4.out.trans (b6.mono B4.out.size))
      have P4 := W_hid (And.intro (P3.out.1.keep b6) (P3.out.2.below b6 (Nat.le_refl _)))
      have R4 := W_hid (R3.out.keep b6)
      clear b6 B4 P3 R3
      go_wp2_with fail
      go_ret
      exact ⟨rfl, B5.out⟩
end
end NT
namespace NT
open IN (Keeps)
def yR (xm xn : Option Nat) (es : Bool) : Int := if xm ≠ none ∧ xn = none then 14 else if xm = none ∧ xn ≠ none then 13 else if xm ≠ none ∧ es = false then 15 else 0
set_option maxRecDepth 100000 in
set_option maxHeartbeats 8000000 in
theorem yields_any (m n : Int) (xm xn : Option Nat) (es : Bool) (w : World)
    (hes : ∀ g2, xm = some g2 → ∃ u2 pu2 m2 M2 ss2, DB w g2 u2 pu2 m2 M2 ∧ NS.Nums M2 ss2 ∧ es = decide (ss2.length = 0)) :
    Calls Tryz.prog 145 #[.agg #[.int .i64 m, IS.ptr xm], .agg #[.int .i64 n, IS.ptr xn]] w fun e w' => e = .returned (.int .i64 (yR xm xn es)) ∧ Below w.heap.size w w' := by
  have cM := fun w => isFile_any m xm w
  have cN := fun w => isFile_any n xn w
  have b0 := new2 w (.cells #[.int .i64 m, IS.ptr xm] 141) (.cells #[.int .i64 n, IS.ptr xn] 141)
  have k1 : Blk ((w.alloc (.cells #[.int .i64 m, IS.ptr xm] 141)).alloc (.cells #[.int .i64 n, IS.ptr xn] 141)) w.heap.size 141 [.int .i64 m, IS.ptr xm] := (Blk.new _ _ _ rfl).alloc _
  have k2 : Blk ((w.alloc (.cells #[.int .i64 m, IS.ptr xm] 141)).alloc (.cells #[.int .i64 n, IS.ptr xn] 141)) (w.heap.size + 1) 141 [.int .i64 n, IS.ptr xn] := Blk.new _ _ _ (by simp)
  have HE := W_hid hes
  clear hes
  cases xm with
  | none =>
    cases xn with
    | none =>
      simp only [IS.ptr, Option.isNone_none] at cM cN b0 k1 k2 ⊢
      replace cM := fun w => W_hid (cM w)
      replace cN := fun w => W_hid (cN w)
      have K := W_hid (And.intro b0 (And.intro k1 k2))
      clear b0 k1 k2
      go_enter Tryz.func145, Tryz.ntmps145
      go_wp2_with fail
      refine (cM _).out.mono ?_
      rintro e w1 ⟨rfl, b1⟩
      have K1 := W_hid (And.intro (K.out.1.trans (b1.mono K.out.1.size)) (And.intro (K.out.2.1.keep b1) (K.out.2.2.keep b1)))
      have x0 := K1.out.2.1.cell (j := 0) rfl
      have x1 := K1.out.2.1.cell (j := 1) rfl
      clear b1 K
      go_wp2_with fail
      refine (cM _).out.mono ?_
      rintro e w2 ⟨rfl, b2⟩
      have K2 := W_hid (And.intro (K1.out.1.trans (b2.mono K1.out.1.size)) (And.intro (K1.out.2.1.keep b2) (K1.out.2.2.keep b2)))
      have y0 := K2.out.2.2.cell (j := 0) rfl
      have y1 := K2.out.2.2.cell (j := 1) rfl
      have z0 := K2.out.2.1.cell (j := 0) rfl
      have z1 := K2.out.2.1.cell (j := 1) rfl
      clear b2 K1 x0 x1
      go_wp2_with fail
      refine (cN _).out.mono ?_
      rintro e w3 ⟨rfl, b3⟩
      have K3 := W_hid (And.intro (K2.out.1.trans (b3.mono K2.out.1.size)) (K2.out.2.1.keep b3))
      have v0 := K3.out.2.cell (j := 0) rfl
      have v1 := K3.out.2.cell (j := 1) rfl
      clear b3 K2 y0 y1 z0 z1
      go_wp2_with fail
      refine (cM _).out.mono ?_
      rintro e w4 ⟨rfl, b4⟩
      have K4 := W_hid (K3.out.1.trans (b4.mono K3.out.1.size))
      clear b4 K3
      go_wp2_with fail
      go_ret
      exact ⟨by simp [yR], K4.out⟩
    | some gn =>
      simp only [IS.ptr, Option.isNone_none, Option.isNone_some] at cM cN b0 k1 k2 ⊢
      replace cM := fun w => W_hid (cM w)
      replace cN := fun w => W_hid (cN w)
      have K := W_hid (And.intro b0 (And.intro k1 k2))
      clear b0 k1 k2
      go_enter Tryz.func145, Tryz.ntmps145
      go_wp2_with fail
      refine (cM _).out.mono ?_
      rintro e w1 ⟨rfl, b1⟩
      have K1 := W_hid (And.intro (K.out.1.trans (b1.mono K.out.1.size)) (And.intro (K.out.2.1.keep b1) (K.out.2.2.keep b1)))
      have x0 := K1.out.2.1.cell (j := 0) rfl
      have x1 := K1.out.2.1.cell (j := 1) rfl
      clear b1 K
      go_wp2_with fail
      refine (cM _).out.mono ?_
      rintro e w2 ⟨rfl, b2⟩
      have K2 := W_hid (And.intro (K1.out.1.trans (b2.mono K1.out.1.size)) (And.intro (K1.out.2.1.keep b2) (K1.out.2.2.keep b2)))
      have y0 := K2.out.2.2.cell (j := 0) rfl
      have y1 := K2.out.2.2.cell (j := 1) rfl
      clear b2 K1 x0 x1
      go_wp2_with fail
      refine (cN _).out.mono ?_
      rintro e w3 ⟨rfl, b3⟩
      have K3 := W_hid (K2.out.1.trans (b3.mono K2.out.1.size))
      clear b3 K2 y0 y1
      go_wp2_with fail
      go_ret
      exact ⟨by simp [yR], K3.out⟩
  | some gm =>
    cases xn with
    | none =>
      simp only [IS.ptr, Option.isNone_none, Option.isNone_some] at cM cN b0 k1 k2 ⊢
      replace cM := fun w => W_hid (cM w)
      replace cN := fun w => W_hid (cN w)
      have K := W_hid (And.intro b0 (And.intro k1 k2))
      clear b0 k1 k2
      go_enter Tryz.func145, Tryz.ntmps145
      go_wp2_with fail
      refine (cM _).out.mono ?_
      rintro e w1 ⟨rfl, b1⟩
      have K1 := W_hid (And.intro (K.out.1.trans (b1.mono K.out.1.size)) (K.out.2.2.keep b1))
      have x0 := K1.out.2.cell (j := 0) rfl
      have x1 := K1.out.2.cell (j := 1) rfl
      clear b1 K
      go_wp2_with fail
      refine (cN _).out.mono ?_
      rintro e w2 ⟨rfl, b2⟩
      have K2 := W_hid (K1.out.1.trans (b2.mono K1.out.1.size))
      clear b2 K1 x0 x1
      go_wp2_with fail
      go_ret
      exact ⟨by simp [yR], K2.out⟩
    | some gn =>
      obtain ⟨u2, pu2, m2, M2, ss2, hD2, hN2, hes3⟩ := HE.out gm rfl
      have cE := fun w' (hb : Below w.heap.size w w') => empty_any gm m2 u2 pu2 M2 ss2 w' (hD2.keep hb) hN2
      rw [← hes3] at cE
      replace cE := W_hid cE
      simp only [IS.ptr, Option.isNone_some] at cM cN b0 k1 k2 ⊢
      replace cM := fun w => W_hid (cM w)
      replace cN := fun w => W_hid (cN w)
      have K := W_hid (And.intro b0 (And.intro k1 k2))
      clear b0 k1 k2 hD2 hN2 hes3 HE
      go_enter Tryz.func145, Tryz.ntmps145
      go_wp2_with fail
      refine (cM _).out.mono ?_
      rintro e w1 ⟨rfl, b1⟩
      have K1 := W_hid (And.intro (K.out.1.trans (b1.mono K.out.1.size)) (And.intro (K.out.2.1.keep b1) (K.out.2.2.keep b1)))
      have x0 := K1.out.2.2.cell (j := 0) rfl
      have x1 := K1.out.2.2.cell (j := 1) rfl
      clear b1 K
      go_wp2_with fail
      refine (cN _).out.mono ?_
      rintro e w2 ⟨rfl, b2⟩
      have K2 := W_hid (And.intro (K1.out.1.trans (b2.mono K1.out.1.size)) (K1.out.2.1.keep b2))
      have y0 := K2.out.2.cell (j := 0) rfl
      have y1 := K2.out.2.cell (j := 1) rfl
      clear b2 K1 x0 x1
      go_wp2_with fail
      refine (cM _).out.mono ?_
      rintro e w3 ⟨rfl, b3⟩
      have K3 := W_hid (And.intro (K2.out.1.trans (b3.mono K2.out.1.size)) (K2.out.2.keep b3))
      have z0 := K3.out.2.cell (j := 0) rfl
      have z1 := K3.out.2.cell (j := 1) rfl
      clear b3 K2 y0 y1
      go_wp2_with fail
      refine (cM _).out.mono ?_
      rintro e w4 ⟨rfl, b4⟩
      have b5 := K3.out.1.trans (b4.mono K3.out.1.size)
      have v1 := (K3.out.2.keep b4).cell (j := 1) rfl
      have cE1 := W_hid (cE.out w4 b5)
      have K4 := W_hid b5
      clear b4 b5 K3 z0 z1 cE
      go_wp2_with fail
      refine cE1.out.mono ?_
      rintro e w5 ⟨rfl, rfl⟩
      cases es with
      | true =>
        go_wp2_with fail
        go_ret
        exact ⟨by simp [yR], K4.out⟩
      | false =>
        go_wp2_with fail
        go_ret
        exact ⟨by simp [yR], K4.out⟩
end NT
namespace NT
open IN (Keeps)
theorem dir_under : Tryz.prog.underlying 139 = some (.pointer 163) := by kernel_rfl
theorem dir_info : ∃ j, Tryz.prog.info? 163 = some j ∧ j.size ≠ 0 := by
  have : (Tryz.prog.info? 163).map (·.size) = some 3 := by kernel_rfl
  obtain ⟨j, hj, hs⟩ := Option.map_eq_some_iff.1 this
  exact ⟨j, hj, by omega⟩
def IsDir (w : World) (x : Option Nat) : Prop := ∀ g, x = some g → ∃ l, Blk w g 163 l
theorem ptr_in (w : World) (d : Nat) (x y : Option Nat) (hx : IsDir w x) (hy : IsDir w y) : (Op.equalIn (d + 1) 139 (IS.ptr x) (IS.ptr y)).run Tryz.prog w = .ok (decide (x = y)) w := by
  obtain ⟨j, hj, hs⟩ := dir_info
  cases x with
  | none =>
    cases y with
    | none => simp [Op.equalIn, run_underlying dir_under, IS.ptr]
    | some b => simp [Op.equalIn, run_underlying dir_under, IS.ptr]
  | some a =>
    cases y with
    | none => simp [Op.equalIn, run_underlying dir_under, IS.ptr]
    | some b =>
      simp only [IS.ptr]
      by_cases e : a = b
      · subst e
        simp [Op.equalIn, run_underlying dir_under, sizeOf, typeInfo, hj, run_sameAddr_same]
      · obtain ⟨l1, h1⟩ := hx a rfl
        obtain ⟨l2, h2⟩ := hy b rfl
        have hne : (⟨a, 0, none⟩ : Addr) ≠ ⟨b, 0, none⟩ := fun h => e (by cases h; rfl)
        simp [Op.equalIn, run_underlying dir_under, sizeOf, typeInfo, hj, hs, run_sameAddr_other w hne h1 h2, e]
theorem ptr_eql (w : World) (x y : Option Nat) (hx : IsDir w x) (hy : IsDir w y) : (binOp .eql 139 (IS.ptr x) (IS.ptr y)).run Tryz.prog w = .ok (.bool (decide (x = y))) w := by
  have := ptr_in w 9999 x y hx hy
  cases x <;> cases y <;> simp only [IS.ptr, binOp] at this ⊢ <;> simp [Op.equal, Op.maxDepth, this]
theorem ptr_neq (w : World) (x y : Option Nat) (hx : IsDir w x) (hy : IsDir w y) : (binOp .neq 139 (IS.ptr x) (IS.ptr y)).run Tryz.prog w = .ok (.bool (!decide (x = y))) w := by
  have := ptr_in w 9999 x y hx hy
  cases x <;> cases y <;> simp only [IS.ptr, binOp] at this ⊢ <;> simp [Op.equal, Op.maxDepth, this]
def Reach (D : Ds) : Nat → Int → Prop
  | 0, d => d = 1
  | h + 1, d => d ≠ 1 ∧ ∃ x, D d = some x ∧ Reach D h x.up
def anc (D : Ds) : Nat → Int → List Int
  | 0, d => [d]
  | h + 1, d => d :: (match D d with
    | none => []
    | some x => anc D h x.up)
theorem reach_one {D : Ds} {d : Int} : ∀ {h h' : Nat}, Reach D h d → Reach D h' d → h = h'
  | 0, 0, _, _ => rfl
  | 0, h' + 1, a, b => absurd a b.1
  | h + 1, 0, a, b => absurd b a.1
  | h + 1, h' + 1, a, b => by
    obtain ⟨_, x, hx, a⟩ := a
    obtain ⟨_, y, hy, b⟩ := b
    rw [hx] at hy
    cases hy
    rw [reach_one a b]
theorem reach_up {D : Ds} {h : Nat} {d : Int} {x : Dr} (hr : Reach D (h + 1) d) (hx : D d = some x) : Reach D h x.up := by
  obtain ⟨_, y, hy, hr⟩ := hr
  rw [hx] at hy
  cases hy
  exact hr
theorem reach_ne {D : Ds} {h : Nat} {d : Int} {x : Dr} (hr : Reach D (h + 1) d) (hx : D d = some x) : x.up ≠ d := fun e => by
  have h1 := reach_up hr hx
  rw [e] at h1
  have := reach_one hr h1
  omega
theorem anc_zero (D : Ds) (d : Int) : anc D 0 d = [d] := rfl
theorem anc_succ {D : Ds} {h : Nat} {d : Int} {x : Dr} (hx : D d = some x) : anc D (h + 1) d = d :: anc D h x.up := by
  show d :: _ = _
  rw [hx]
section
variable {base : Nat} {w w' : World} {tg sg mb : Nat} {A : Int → Option (Nat × Nat)} {D : Ds}
theorem pa_isDir (h : TM base w tg sg mb A D) (n : Int) : IsDir w (pa A n) := fun g hg => by
  unfold pa at hg
  cases hA : A n with
  | none => rw [hA] at hg; cases hg
  | some y =>
    obtain ⟨y1, y2⟩ := y
    rw [hA] at hg
    simp only [Option.map_some, Option.some.injEq] at hg
    subst hg
    obtain ⟨d', hd', q1, _⟩ := h.hasA hA
    exact ⟨_, q1⟩
theorem pa_inj (h : TM base w tg sg mb A D) {d e : Int} {g : Nat} (hd : pa A d = some g) (he : pa A e = some g) : d = e := by
  unfold pa at hd he
  cases h1 : A d with
  | none => rw [h1] at hd; cases hd
  | some x =>
    cases h2 : A e with
    | none => rw [h2] at he; cases he
    | some y =>
      rw [h1] at hd
      rw [h2] at he
      obtain ⟨x1, x2⟩ := x
      obtain ⟨y1, y2⟩ := y
      simp only [Option.map_some, Option.some.injEq] at hd he
      subst hd he
      rcases Decidable.em (d = e) with e1 | e1
      · exact e1
      · exact absurd rfl (h.inj d e _ _ _ _ h1 h2 e1).1
open Classical in
noncomputable def hOf (A : Int → Option (Nat × Nat)) (D : Ds) (v : Value) : Nat := if h : ∃ k c g, v = .pointer (some ⟨g, 0, none⟩) ∧ pa A c = some g ∧ Reach D k c then Classical.choose h else 0
theorem hOf_eq (h : TM base w tg sg mb A D) {c : Int} {g k : Nat} (hc : pa A c = some g) (hr : Reach D k c) : hOf A D (.pointer (some ⟨g, 0, none⟩)) = k := by
  have he : ∃ k c g', Value.pointer (some ⟨g, 0, none⟩) = .pointer (some ⟨g', 0, none⟩) ∧ pa A c = some g' ∧ Reach D k c := ⟨k, c, g, rfl, hc, hr⟩
  unfold hOf
  rw [dif_pos he]
  obtain ⟨c', g', e1, e2, e3⟩ := Classical.choose_spec he
  simp only [Value.pointer.injEq, Option.some.injEq, Addr.mk.injEq, and_true] at e1
  subst e1
  rw [pa_inj h e2 hc] at e3
  exact reach_one e3 hr
theorem reach_dir (h : TM base w tg sg mb A D) : ∀ {k : Nat} {c : Int}, Reach D k c → ∃ x, D c = some x
  | 0, c, hr => by
    have : c = 1 := hr
    subst this
    cases e : D 1 with
    | none => exact absurd e h.root
    | some x => exact ⟨x, rfl⟩
  | k + 1, c, hr => by
    obtain ⟨_, x, hx, _⟩ := hr
    exact ⟨x, hx⟩
set_option maxRecDepth 100000 in
set_option maxHeartbeats 4000000 in
theorem within_any (d top : Int) (gd gt : Nat) (hgt : Nat) (w : World) (h : TM base w tg sg mb A D) (h1 : ∃ dr, D 1 = some dr ∧ dr.up = 1) (hd : pa A d = some gd) (ht : pa A top = some gt) (hr : Reach D hgt d) :
    Calls Tryz.prog 146 #[.pointer (some ⟨gd, 0, none⟩), .pointer (some ⟨gt, 0, none⟩)] w fun e w' => e = .returned (.bool (decide (top ∈ anc D hgt d))) ∧ w' = w := by
  have H := W_hid h
  have H1 := W_hid h1
  have Hd := W_hid hd
  have Ht := W_hid ht
  have Hr := W_hid hr
  clear h h1 hd ht hr
  go_enter Tryz.func146, Tryz.ntmps146
  go_wp2_with fail
  go_loopw [0] (fun v wr => ∃ (c : Int) (gc k : Nat), v = .pointer (some ⟨gc, 0, none⟩) ∧ wr = w ∧ Hid (pa A c = some gc) ∧ Hid (Reach D k c) ∧ Hid ((top ∈ anc D hgt d) ↔ (top ∈ anc D k c))) (fun v _ => hOf A D v)
  case atStart => exact ⟨d, gd, hgt, rfl, rfl, Hd, Hr, W_hid Iff.rfl⟩
  case round =>
    obtain ⟨c, gc, k, rfl, rfl, hc, hr, hin⟩ := hrel
    have hm := hOf_eq H.out hc.out hr.out
    obtain ⟨x, hx⟩ := reach_dir H.out hr.out
    obtain ⟨g', m', hA', hpa', hdb⟩ := H.out.db hx
    have hgg : g' = gc := by have := hpa'.symm.trans hc.out; cases this; rfl
    subst hgg
    have c1 := hdb.1.cell (j := 1) rfl
    have hdt := pa_isDir H.out top
    rw [Ht.out] at hdt
    have hdc := pa_isDir H.out c
    rw [hc.out] at hdc
    have hq1 := ptr_neq wr (some g') (some gt) hdc hdt
    simp only [IS.ptr] at hq1
    by_cases e : g' = gt
    · have hct : c = top := pa_inj H.out hc.out (by rw [e]; exact Ht.out)
      have hres : decide (top ∈ anc D hgt d) = true := by
        rw [decide_eq_true_eq, hin.out, ← hct]
        cases k <;> simp [anc]
      have hres := W_hid hres
      subst e
      simp only [decide_true, Bool.not_true] at hq1
      clear hm hA' hpa' hdb hdt hdc
      go_wp2_with fail
      go_ret
      exact ⟨by rw [hres.out]; rfl, rfl⟩
    · have hct : top ≠ c := fun e2 => e (by have := Ht.out; rw [e2, hc.out] at this; cases this; rfl)
      cases k with
      | zero =>
        have hc1 : c = 1 := hr.out
        obtain ⟨dr, hdr, hup⟩ := H1.out
        have hxu : x.up = c := by rw [hc1] at hx; rw [hx] at hdr; cases hdr; rw [hup, hc1]
        rw [hxu, hc.out] at c1
        simp only [IS.ptr] at c1
        have hres : decide (top ∈ anc D hgt d) = false := by
          rw [decide_eq_false_iff_not, hin.out]
          simp [anc, hct]
        have hres := W_hid hres
        have hne2 : decide (some g' = some gt) = false := by simpa using e
        rw [hne2] at hq1
        have hq2 := ptr_eql wr (some g') (some g') hdc hdc
        simp only [IS.ptr, decide_true] at hq2
        clear hm hA' hpa' hdb hdr hx hdt hdc hne2
        go_wp2_with fail
        go_ret
        exact ⟨by rw [hres.out]; rfl, rfl⟩
      | succ k =>
        have hru := reach_up hr.out hx
        have hne := reach_ne hr.out hx
        obtain ⟨y, hy⟩ := reach_dir H.out hru
        obtain ⟨gu, mu, hAu, hpu, -⟩ := H.out.db hy
        rw [hpu] at c1
        simp only [IS.ptr] at c1
        have hgu : gu ≠ g' := fun e2 => hne (pa_inj H.out hpu (by rw [e2]; exact hc.out))
        have hmu := hOf_eq H.out hpu hru
        have hin2 := W_hid (show (top ∈ anc D hgt d) ↔ (top ∈ anc D k x.up) from by
          rw [hin.out, anc_succ hx]
          simp [hct])
        have hne2 : decide (some g' = some gt) = false := by simpa using e
        rw [hne2] at hq1
        have hdu := pa_isDir H.out x.up
        rw [hpu] at hdu
        have hq2 := ptr_eql wr (some gu) (some g') hdu hdc
        have hne3 : decide (some gu = some g') = false := by simpa using hgu
        rw [hne3] at hq2
        simp only [IS.ptr] at hq2
        have HM := W_hid (And.intro hm (And.intro hmu (And.intro hpu hru)))
        clear hm hmu hA' hpa' hdb hx hy hAu hru hpu hdt hdc hdu hne2 hne3
        go_wp2_with fail
        exact ⟨⟨x.up, gu, k, rfl, trivial, W_hid HM.out.2.2.1, W_hid HM.out.2.2.2, hin2⟩, by rw [HM.out.1, HM.out.2.1]; omega⟩
end
end NT
namespace NT
open IN (Keeps)
theorem node_eq (w : World) (m n : Int) (x y : Option Nat) (hx : IsDir w x) (hy : IsDir w y) : (binOp .eql 141 (.agg #[.int .i64 m, IS.ptr x]) (.agg #[.int .i64 n, IS.ptr y])).run Tryz.prog w = .ok (.bool (decide (m = n ∧ x = y))) w := by
  have hS : Tryz.prog.underlying 141 = some (.struct (Tryz.prog.fieldsOf 141)) := by kernel_rfl
  have hp : Tryz.prog.stoodInHeld 141 = false := by kernel_rfl
  have hpe := ptr_in w 9998 x y hx hy
  rw [run_eql_struct, show (10000 : Nat) = 9999 + 1 from rfl, run_equalIn_agg w 9999 141 _ _ hS hp]
  simp only [Program.fieldsOf, Tryz.underlying141]
  generalize IS.ptr x = px at hpe ⊢
  generalize IS.ptr y = py at hpe ⊢
  go_simp
  by_cases h1 : m = n <;> by_cases h2 : x = y <;> simp [h1, h2]
theorem node_guard : Tryz.prog.eqGuardType Tryz.prog.depth 141 = false := by kernel_rfl
theorem wpList_node {w : World} {ops : Array Oper} {rest : List Oper} {o : Oper} {a : Act} {Q : Exit → Act → World → Prop} (hg : o.guard = none) (x y : Operand) (t2 : TypeId) (hop : o.op = Op.binOp BinOp.eql 141 x y t2) (xs ys : Array Value) (hx : a.eval x = .agg xs) (hy : a.eval y = .agg ys) (b : Bool)
    (hrun : (binOp .eql 141 (.agg xs) (.agg ys)).run Tryz.prog w = .ok (.bool b) w) (hK : wpList Tryz.prog ops Q rest (a.put o.dst (.bool b)) w) : wpList Tryz.prog ops Q (o :: rest) a w := by
  refine wpList_plain hg fun K hK' => ?_
  have hG := run_eqGuard_agg (P := Tryz.prog) w .eql 141 x y xs ys node_guard
  unfold Oper.wp
  simp only [execOp, hop, hx, hy, hG, hrun, Sem.run_bind, Sem.run_pure, Result.andThen, Oper.upon]
  exact hK' _ _ hK
def emptyD (D : Ds) (n : Int) : Bool := match D n with
  | none => false
  | some d => decide (d.l = [])
def movV (D : Ds) (h : Nat) (pf : Int) (kf : ByteArray) (df : Bool) (pt : Int) (kt : ByteArray) (dt : Bool) : Int :=
  if PM.name kf = false ∨ PM.name kt = false then 2 else match at_ D pf kf with
  | none => 11
  | some n => if D n = none ∧ (df = true ∨ dt = true) then 13 else match at_ D pt kt with
    | some m => if m = n then 0 else if D m ≠ none ∧ D n = none then 14 else if D m = none ∧ D n ≠ none then 13 else if D m ≠ none ∧ emptyD D m = false then 15 else if D n ≠ none ∧ n ∈ anc D h pt then 2 else 0
    | none => if D n ≠ none ∧ n ∈ anc D h pt then 2 else 0
section
variable {base : Nat} {w w' : World} {tg sg mb : Nat} {A : Int → Option (Nat × Nat)} {D : Ds}
theorem nums_dir {A : Int → Option (Nat × Nat)} {l : List (ByteArray × Int)} (h : (l.map (·.1)).Nodup) : NS.Nums (nm A l) (l.map (·.1)) := ⟨h, fun f => by
  unfold nm
  constructor
  · intro hf
    obtain ⟨x, hx, rfl⟩ := List.mem_map.1 hf
    have := look_some (k := x.1) (n := x.2) hx
    cases e : look x.1 l with
    | none => exact absurd e this
    | some j => simp
  · intro hf
    cases e : look f l with
    | none => rw [e] at hf; exact absurd rfl hf
    | some j => exact List.mem_map.2 ⟨(f, j), look_mem e, rfl⟩⟩
theorem empty_told (h : TM base w tg sg mb A D) (hnd : ∀ n d, D n = some d → (d.l.map (·.1)).Nodup) (m : Int) : ∀ g2, pa A m = some g2 → ∃ u2 pu2 m2 M2 ss2, DB w g2 u2 pu2 m2 M2 ∧ NS.Nums M2 ss2 ∧ emptyD D m = decide (ss2.length = 0) := fun g2 hg => by
  cases hD : D m with
  | none =>
    have := (h.dom m).2 hD
    unfold pa at hg
    rw [this] at hg
    cases hg
  | some d =>
    obtain ⟨g, mm, hA, hpa, hdb⟩ := h.db hD
    rw [hpa] at hg
    cases hg
    refine ⟨_, _, _, _, _, hdb, nums_dir (hnd m d hD), ?_⟩
    unfold emptyD
    rw [hD]
    simp
theorem pa_def (h : TM base w tg sg mb A D) (n : Int) : (pa A n ≠ none ↔ D n ≠ none) := by
  have := h.dom n
  unfold pa
  cases hA : A n <;> cases hD : D n <;> simp_all
theorem yR_eq (h : TM base w tg sg mb A D) (m n : Int) (es : Bool) : yR (pa A m) (pa A n) es = if D m ≠ none ∧ D n = none then 14 else if D m = none ∧ D n ≠ none then 13 else if D m ≠ none ∧ es = false then 15 else 0 := by
  have h1 := pa_def h m
  have h2 := pa_def h n
  unfold yR
  by_cases e1 : D m = none <;> by_cases e2 : D n = none <;> simp_all
theorem target_tm (p : Int) (k : ByteArray) (d : Bool) (hk : NS.Sm k) (w : World) (h : TM base w tg sg mb A D) (dp : Dr) (hdp : D p = some dp) :
    Calls Tryz.prog 92 #[.agg #[.int .i64 p, IS.ptr (pa A p), .string k, .bool d]] w fun e w' => e = .returned (.tuple #[match at_ D p k with | none => NS.nv (0, none) | some j => NS.nv (j, pa A j), .bool (at_ D p k).isSome]) ∧ Below w.heap.size w w' := by
  obtain ⟨g, m, hA, hpa, hdb⟩ := h.db hdp
  have c := target_any p g m dp.up (pa A dp.up) (nm A dp.l) k d hk w hdb
  rw [hpa]
  rw [at_nm h hdp] at c
  cases e : at_ D p k with
  | none => rw [e] at c; exact c
  | some j => rw [e] at c; exact c
set_option maxRecDepth 100000 in
set_option maxHeartbeats 16000000 in
theorem movable_any (pf pt : Int) (kf kt : ByteArray) (df dt : Bool) (hgt : Nat) (hkf : NS.Sm kf) (hkt : NS.Sm kt) (w : World) (h : TM base w tg sg mb A D) (dpf dpt : Dr) (hdf : D pf = some dpf) (hdt : D pt = some dpt)
    (hnd : ∀ n d, D n = some d → (d.l.map (·.1)).Nodup) (h1 : ∃ dr, D 1 = some dr ∧ dr.up = 1) (hr : Reach D hgt pt) :
    Calls Tryz.prog 81 #[.agg #[.int .i64 pf, IS.ptr (pa A pf), .string kf, .bool df], .agg #[.int .i64 pt, IS.ptr (pa A pt), .string kt, .bool dt]] w fun e w' => e = .returned (.int .i64 (movV D hgt pf kf df pt kt dt)) ∧ Below w.heap.size w w' := by
  have cI1 := fun w => IsName_any kf w hkf
  have cI2 := fun w => IsName_any kt w hkt
  have cT1 := fun (w' : World) (hb : Below w.heap.size w w') => target_tm pf kf df hkf w' (h.keep hb) dpf hdf
  have cT2 := fun (w' : World) (hb : Below w.heap.size w w') => target_tm pt kt dt hkt w' (h.keep hb) dpt hdt
  obtain ⟨gt, mt, hAt, hpt, -⟩ := h.db hdt
  obtain ⟨qf, hqf⟩ := ptr_form (pa A pf)
  have hqt : IS.ptr (pa A pt) = .pointer (some ⟨gt, 0, none⟩) := by rw [hpt]; rfl
  simp only [hqf, hqt] at cT1 cT2 ⊢
  have hres : ∃ R, movV D hgt pf kf df pt kt dt = R := ⟨_, rfl⟩
  obtain ⟨R, hR⟩ := hres
  rw [hR]
  unfold movV at hR
  obtain ⟨y1, hy1⟩ : ∃ y, PM.name kf = y := ⟨_, rfl⟩
  obtain ⟨y2, hy2⟩ : ∃ y, PM.name kt = y := ⟨_, rfl⟩
  rw [hy1] at cI1 hR
  rw [hy2] at cI2 hR
  replace cI1 := fun w => W_hid (cI1 w)
  replace cI2 := fun w => W_hid (cI2 w)
  have b0 := new2 w (.cells #[.int .i64 pf, .pointer qf, .string kf, .bool df] 147) (.cells #[.int .i64 pt, .pointer (some ⟨gt, 0, none⟩), .string kt, .bool dt] 147)
  have k1 : Blk ((w.alloc (.cells #[.int .i64 pf, .pointer qf, .string kf, .bool df] 147)).alloc (.cells #[.int .i64 pt, .pointer (some ⟨gt, 0, none⟩), .string kt, .bool dt] 147)) w.heap.size 147 [.int .i64 pf, .pointer qf, .string kf, .bool df] := (Blk.new _ _ _ rfl).alloc _
  have k2 : Blk ((w.alloc (.cells #[.int .i64 pf, .pointer qf, .string kf, .bool df] 147)).alloc (.cells #[.int .i64 pt, .pointer (some ⟨gt, 0, none⟩), .string kt, .bool dt] 147)) (w.heap.size + 1) 147 [.int .i64 pt, .pointer (some ⟨gt, 0, none⟩), .string kt, .bool dt] := Blk.new _ _ _ (by simp)
  have K0 := W_hid (And.intro b0 (And.intro k1 k2))
  have H := W_hid (And.intro h (And.intro hnd (And.intro h1 (And.intro hr hpt))))
  have hpd := W_hid (fun n => pa_none h n)
  have hyr := W_hid (fun m n es => yR_eq h m n es)
  have cT1h := W_hid cT1
  have cT2h := W_hid cT2
  have hR := W_hid hR
  clear h hnd h1 hr hdf hdt hAt hpt hqf hqt hy1 hy2 b0 k1 k2 cT1 cT2
  go_enter Tryz.func81, Tryz.ntmps81
  go_wp2_with fail
  refine (cI1 _).out.mono ?_
  rintro e w1 ⟨rfl, rfl⟩
  cases y1 with
  | false =>
    have hr2 := hR.out
    simp only [true_or, if_true] at hr2
    subst hr2
    go_wp2_with fail
    go_ret
    exact ⟨rfl, K0.out.1⟩
  | true =>
    go_wp2_with fail
    refine (cI2 _).out.mono ?_
    rintro e w1 ⟨rfl, rfl⟩
    cases y2 with
    | false =>
      have hr2 := hR.out
      simp only [or_true, if_true] at hr2
      subst hr2
      go_wp2_with fail
      go_ret
      exact ⟨rfl, K0.out.1⟩
    | true =>
      have hr2 := W_hid (show _ = R from by have := hR.out; simp only [Bool.true_eq_false, or_self, if_false] at this; exact this)
      have cT1a := cT1h.out _ K0.out.1
      clear hR cT1h
      obtain ⟨tn, htn⟩ : ∃ x, at_ D pf kf = x := ⟨_, rfl⟩
      rw [htn] at cT1a hr2
      cases tn with
      | none =>
        have hr3 := hr2.out
        try simp only at hr3
        subst hr3
        simp only [NS.nv, IS.ptr, Option.isSome_none] at cT1a
        replace cT1a := W_hid cT1a
        go_wp2_with fail
        refine cT1a.out.mono ?_
        rintro e w1 ⟨rfl, b1⟩
        have b2 := K0.out.1.trans (b1.mono K0.out.1.size)
        have B2 := W_hid (b2.alloc b2.size (.cells #[.int .i64 0, .pointer none] 141))
        clear b1 b2
        go_wp2_with fail
        go_ret
        exact ⟨rfl, B2.out⟩
      | some n =>
        obtain ⟨qn, hqn⟩ := ptr_form (pa A n)
        have cF := fun w => isFile_any n (pa A n) w
        rw [hpd.out n] at cF
        simp only [NS.nv, hqn, Option.isSome_some] at cT1a cF
        replace cT1a := W_hid cT1a
        replace cF := fun w => W_hid (cF w)
        have hqn := W_hid hqn
        go_wp2_with fail
        refine cT1a.out.mono ?_
        rintro e w1 ⟨rfl, b1⟩
        have b2 := K0.out.1.trans (b1.mono K0.out.1.size)
        have nb : Blk (w1.alloc (.cells #[.int .i64 n, .pointer qn] 141)) w1.heap.size 141 [.int .i64 n, .pointer qn] := Blk.new _ _ _ rfl
        have K1 := W_hid (And.intro (b2.alloc b2.size (.cells #[.int .i64 n, .pointer qn] 141)) (And.intro ((K0.out.2.1.keep b1).alloc (.cells #[.int .i64 n, .pointer qn] 141)) (And.intro ((K0.out.2.2.keep b1).alloc (.cells #[.int .i64 n, .pointer qn] 141)) nb)))
        have n0 := nb.cell (j := 0) rfl
        have n1 := nb.cell (j := 1) rfl
        clear b1 b2 nb K0 cT1a
        go_wp2_with fail
        refine (cF _).out.mono ?_
        rintro e w2 ⟨rfl, b3⟩
        have K2 := W_hid (And.intro (K1.out.1.trans (b3.mono K1.out.1.size)) (And.intro (K1.out.2.1.keep b3) (And.intro (K1.out.2.2.1.keep b3) (K1.out.2.2.2.keep b3))))
        have f3 := K2.out.2.1.cell (j := 3) rfl
        have t3 := K2.out.2.2.1.cell (j := 3) rfl
        clear b3 K1 n0 n1
        by_cases hD0 : D n = none
        · have hbn := W_hid (decide_eq_true hD0)
          have hDn := W_hid hD0
          have hr3 := hr2.out
          try simp only at hr3
          clear hr2 hD0
          cases df with
          | true =>
            rw [if_pos ⟨hDn.out, .inl rfl⟩] at hr3
            subst hr3
            simp only [hbn.out]
            go_wp2_with fail
            go_ret
            exact ⟨rfl, K2.out.1⟩
          | false =>
            cases dt with
            | true =>
              rw [if_pos ⟨hDn.out, .inr rfl⟩] at hr3
              subst hr3
              simp only [hbn.out]
              go_wp2_with fail
              go_ret
              exact ⟨rfl, K2.out.1⟩
            | false =>
              have hr4 := hr3
              rw [if_neg (by simp)] at hr4
              clear hr3
              have t0 := K2.out.2.2.1.cell (j := 0) rfl
              have t1 := K2.out.2.2.1.cell (j := 1) rfl
              have t2 := K2.out.2.2.1.cell (j := 2) rfl
              have cT2a := cT2h.out _ K2.out.1
              obtain ⟨tm, htm⟩ : ∃ x, at_ D pt kt = x := ⟨_, rfl⟩
              rw [htm] at cT2a hr4
              cases tm with
              | none =>
                simp only [NS.nv, IS.ptr, Option.isSome_none] at cT2a
                replace cT2a := W_hid cT2a
                have hr5 := hr4
                try simp only at hr5
                have hr9 := W_hid (show (0 : Int) = R from by simpa [hDn.out] using hr5)
                clear hr4 hr5
                simp only [hbn.out]
                go_wp2_with fail
                refine cT2a.out.mono ?_
                rintro e w3 ⟨rfl, b4⟩
                have b5 := K2.out.1.trans (b4.mono K2.out.1.size)
                have K3 := W_hid (And.intro (b5.alloc b5.size (.cells #[.int .i64 0, .pointer none] 141)) (And.intro ((K2.out.2.1.keep b4).alloc (.cells #[.int .i64 0, .pointer none] 141)) (And.intro ((K2.out.2.2.1.keep b4).alloc (.cells #[.int .i64 0, .pointer none] 141)) ((K2.out.2.2.2.keep b4).alloc (.cells #[.int .i64 0, .pointer none] 141)))))
                clear b4 b5 cT2a K2 f3 t3 t0 t1 t2
                have van0 := K3.out.2.2.2.cell (j := 0) rfl
                have van1 := K3.out.2.2.2.cell (j := 1) rfl
                go_wp2_with fail
                refine (cF _).out.mono ?_
                rintro e wz ⟨rfl, bz⟩
                have KZ := W_hid (K3.out.1.trans (bz.mono K3.out.1.size))
                clear bz
                simp only [hbn.out]
                go_wp2_with fail
                go_ret
                exact ⟨by rw [← hr9.out]; rfl, KZ.out⟩
              | some m =>
                obtain ⟨qm, hqm⟩ := ptr_form (pa A m)
                simp only [NS.nv, hqm, Option.isSome_some] at cT2a
                replace cT2a := W_hid cT2a
                have hqm := W_hid hqm
                have hr5 := hr4
                try simp only at hr5
                replace hr5 := W_hid hr5
                clear hr4
                simp only [hbn.out]
                go_wp2_with fail
                refine cT2a.out.mono ?_
                rintro e w3 ⟨rfl, b4⟩
                have b5 := K2.out.1.trans (b4.mono K2.out.1.size)
                have mb3 : Blk (w3.alloc (.cells #[.int .i64 m, .pointer qm] 141)) w3.heap.size 141 [.int .i64 m, .pointer qm] := Blk.new _ _ _ rfl
                have b6 := b5.alloc b5.size (.cells #[.int .i64 m, .pointer qm] 141)
                have hT3 := H.out.1.keep b6
                have hne := node_eq _ m n (pa A m) (pa A n) (pa_isDir hT3 m) (pa_isDir hT3 n)
                rw [hqm.out, hqn.out] at hne
                have K3 := W_hid (And.intro b6 (And.intro ((K2.out.2.1.keep b4).alloc (.cells #[.int .i64 m, .pointer qm] 141)) (And.intro ((K2.out.2.2.1.keep b4).alloc (.cells #[.int .i64 m, .pointer qm] 141)) (And.intro ((K2.out.2.2.2.keep b4).alloc (.cells #[.int .i64 m, .pointer qm] 141)) mb3))))
                have m0 := mb3.cell (j := 0) rfl
                have m1 := mb3.cell (j := 1) rfl
                have nn0 := K3.out.2.2.2.1.cell (j := 0) rfl
                have nn1 := K3.out.2.2.2.1.cell (j := 1) rfl
                have hT3 := W_hid hT3
                clear b4 b5 b6 mb3 cT2a K2 f3 t3 t0 t1 t2
                by_cases hmn : m = n
                · have hd : decide (m = n ∧ pa A m = pa A n) = true := decide_eq_true ⟨hmn, by rw [hmn]⟩
                  rw [hd] at hne
                  have hr6 := hr5.out
                  rw [if_pos hmn] at hr6
                  subst hr6
                  clear hmn hd
                  go_wp2_with (with_reducible show wpList _ _ _ _ _ _; refine wpList_node rfl (.tmp 43) (.tmp 44) 141 rfl _ _ rfl rfl true hne ?_)
                  go_ret
                  exact ⟨rfl, K3.out.1⟩
                · have hd : decide (m = n ∧ pa A m = pa A n) = false := decide_eq_false (fun h => hmn h.1)
                  rw [hd] at hne
                  have cY := yields_any m n (pa A m) (pa A n) (emptyD D m) _ (empty_told hT3.out H.out.2.1 m)
                  rw [hqm.out, hqn.out, hyr.out] at cY
                  have hr6 := hr5.out
                  rw [if_neg hmn] at hr6
                  obtain ⟨yv, hyv⟩ : ∃ yv : Int, (if D m ≠ none ∧ D n = none then 14 else if D m = none ∧ D n ≠ none then 13 else if D m ≠ none ∧ emptyD D m = false then 15 else 0) = yv := ⟨_, rfl⟩
                  rw [hyv] at cY
                  replace cY := W_hid cY
                  have hyy := W_hid (And.intro hyv hr6)
                  clear hmn hd hr5 hr6 hyv
                  go_wp2_with (with_reducible show wpList _ _ _ _ _ _; refine wpList_node rfl (.tmp 43) (.tmp 44) 141 rfl _ _ rfl rfl false hne ?_)
                  refine cY.out.mono ?_
                  rintro e w4 ⟨rfl, b7⟩
                  have K4 := W_hid (And.intro (K3.out.1.trans (b7.mono K3.out.1.size)) (And.intro (K3.out.2.1.keep b7) (And.intro (K3.out.2.2.1.keep b7) (K3.out.2.2.2.1.keep b7))))
                  clear b7 K3 m0 m1 nn0 nn1 hne cY hT3
                  by_cases hy0 : yv = 0
                  · subst hy0
                    have hr9 := W_hid (show (0 : Int) = R from by
                            have h1 := hyy.out.1
                            have h2 := hyy.out.2
                            have h3 := hDn.out
                            by_cases hm : D m = none
                            · simpa [hm, h3] using h2
                            · simp [hm, h3] at h1)
                    clear hyy
                    have vbn0 := K4.out.2.2.2.cell (j := 0) rfl
                    have vbn1 := K4.out.2.2.2.cell (j := 1) rfl
                    go_wp2_with fail
                    refine (cF _).out.mono ?_
                    rintro e wz ⟨rfl, bz⟩
                    have KZ := W_hid (K4.out.1.trans (bz.mono K4.out.1.size))
                    clear bz
                    simp only [hbn.out]
                    go_wp2_with fail
                    go_ret
                    exact ⟨by rw [← hr9.out]; rfl, KZ.out⟩
                  · have hye : (yv == 0) = false := by simpa using hy0
                    have hR2 : R = yv := by
                      have h1 := hyy.out.1
                      have h2 := hyy.out.2
                      rw [← h2, ← h1]
                      rw [← h1] at hy0
                      repeat' split
                      all_goals first | rfl | (exfalso; simp_all; done)
                    subst hR2
                    clear hyy hy0
                    go_wp2_with fail
                    go_ret
                    exact ⟨rfl, K4.out.1⟩
        · have hbn := W_hid (decide_eq_false hD0)
          have hDn := W_hid hD0
          have hr4 := hr2.out
          try simp only at hr4
          rw [if_neg (fun h => hD0 h.1)] at hr4
          clear hr2 hD0
          have t0 := K2.out.2.2.1.cell (j := 0) rfl
          have t1 := K2.out.2.2.1.cell (j := 1) rfl
          have t2 := K2.out.2.2.1.cell (j := 2) rfl
          have cT2a := cT2h.out _ K2.out.1
          obtain ⟨tm, htm⟩ : ∃ x, at_ D pt kt = x := ⟨_, rfl⟩
          rw [htm] at cT2a hr4
          cases tm with
          | none =>
            simp only [NS.nv, IS.ptr, Option.isSome_none] at cT2a
            replace cT2a := W_hid cT2a
            have hr5 := hr4
            try simp only at hr5
            have hr9 := W_hid (show (if D n ≠ none ∧ n ∈ anc D hgt pt then (2 : Int) else 0) = R from by simpa [hDn.out] using hr5)
            clear hr4 hr5
            simp only [hbn.out]
            go_wp2_with fail
            refine cT2a.out.mono ?_
            rintro e w3 ⟨rfl, b4⟩
            have b5 := K2.out.1.trans (b4.mono K2.out.1.size)
            have K3 := W_hid (And.intro (b5.alloc b5.size (.cells #[.int .i64 0, .pointer none] 141)) (And.intro ((K2.out.2.1.keep b4).alloc (.cells #[.int .i64 0, .pointer none] 141)) (And.intro ((K2.out.2.2.1.keep b4).alloc (.cells #[.int .i64 0, .pointer none] 141)) ((K2.out.2.2.2.keep b4).alloc (.cells #[.int .i64 0, .pointer none] 141)))))
            clear b4 b5 cT2a K2 f3 t3 t0 t1 t2
            have van0 := K3.out.2.2.2.cell (j := 0) rfl
            have van1 := K3.out.2.2.2.cell (j := 1) rfl
            go_wp2_with fail
            refine (cF _).out.mono ?_
            rintro e wz ⟨rfl, bz⟩
            have KZ := W_hid (And.intro (K3.out.1.trans (bz.mono K3.out.1.size)) (And.intro (K3.out.2.2.1.keep bz) (K3.out.2.2.2.keep bz)))
            have zz1 := KZ.out.2.1.cell (j := 1) rfl
            have zz2 := KZ.out.2.2.cell (j := 1) rfl
            have hgn : ∃ gn, pa A n = some gn := by
              have := hpd.out n
              rw [hbn.out] at this
              cases e : pa A n with
              | none => rw [e] at this; cases this
              | some g => exact ⟨g, rfl⟩
            obtain ⟨gn, hgn⟩ := hgn
            have hqn2 : qn = some ⟨gn, 0, none⟩ := by have := hqn.out; rw [hgn] at this; simpa [IS.ptr] using this.symm
            subst hqn2
            have cW := W_hid (within_any pt n gt gn hgt wz (H.out.1.keep KZ.out.1) H.out.2.2.1 H.out.2.2.2.2 hgn H.out.2.2.2.1)
            clear bz hgn
            simp only [hbn.out]
            go_wp2_with fail
            refine cW.out.mono ?_
            rintro e wy ⟨rfl, rfl⟩
            by_cases hin : n ∈ anc D hgt pt
            · have hd := decide_eq_true hin
              have hr8 := hr9.out
              rw [if_pos ⟨hDn.out, hin⟩] at hr8
              simp only [hd]
              clear hin hd
              go_wp2_with fail
              go_ret
              exact ⟨by rw [← hr8]; rfl, KZ.out.1⟩
            · have hd := decide_eq_false hin
              have hr8 := hr9.out
              rw [if_neg (fun h => hin h.2)] at hr8
              simp only [hd]
              clear hin hd
              go_wp2_with fail
              go_ret
              exact ⟨by rw [← hr8]; rfl, KZ.out.1⟩
          | some m =>
            obtain ⟨qm, hqm⟩ := ptr_form (pa A m)
            simp only [NS.nv, hqm, Option.isSome_some] at cT2a
            replace cT2a := W_hid cT2a
            have hqm := W_hid hqm
            have hr5 := hr4
            try simp only at hr5
            replace hr5 := W_hid hr5
            clear hr4
            simp only [hbn.out]
            go_wp2_with fail
            refine cT2a.out.mono ?_
            rintro e w3 ⟨rfl, b4⟩
            have b5 := K2.out.1.trans (b4.mono K2.out.1.size)
            have mb3 : Blk (w3.alloc (.cells #[.int .i64 m, .pointer qm] 141)) w3.heap.size 141 [.int .i64 m, .pointer qm] := Blk.new _ _ _ rfl
            have b6 := b5.alloc b5.size (.cells #[.int .i64 m, .pointer qm] 141)
            have hT3 := H.out.1.keep b6
            have hne := node_eq _ m n (pa A m) (pa A n) (pa_isDir hT3 m) (pa_isDir hT3 n)
            rw [hqm.out, hqn.out] at hne
            have K3 := W_hid (And.intro b6 (And.intro ((K2.out.2.1.keep b4).alloc (.cells #[.int .i64 m, .pointer qm] 141)) (And.intro ((K2.out.2.2.1.keep b4).alloc (.cells #[.int .i64 m, .pointer qm] 141)) (And.intro ((K2.out.2.2.2.keep b4).alloc (.cells #[.int .i64 m, .pointer qm] 141)) mb3))))
            have m0 := mb3.cell (j := 0) rfl
            have m1 := mb3.cell (j := 1) rfl
            have nn0 := K3.out.2.2.2.1.cell (j := 0) rfl
            have nn1 := K3.out.2.2.2.1.cell (j := 1) rfl
            have hT3 := W_hid hT3
            clear b4 b5 b6 mb3 cT2a K2 f3 t3 t0 t1 t2
            by_cases hmn : m = n
            · have hd : decide (m = n ∧ pa A m = pa A n) = true := decide_eq_true ⟨hmn, by rw [hmn]⟩
              rw [hd] at hne
              have hr6 := hr5.out
              rw [if_pos hmn] at hr6
              subst hr6
              clear hmn hd
              go_wp2_with (with_reducible show wpList _ _ _ _ _ _; refine wpList_node rfl (.tmp 43) (.tmp 44) 141 rfl _ _ rfl rfl true hne ?_)
              go_ret
              exact ⟨rfl, K3.out.1⟩
            · have hd : decide (m = n ∧ pa A m = pa A n) = false := decide_eq_false (fun h => hmn h.1)
              rw [hd] at hne
              have cY := yields_any m n (pa A m) (pa A n) (emptyD D m) _ (empty_told hT3.out H.out.2.1 m)
              rw [hqm.out, hqn.out, hyr.out] at cY
              have hr6 := hr5.out
              rw [if_neg hmn] at hr6
              obtain ⟨yv, hyv⟩ : ∃ yv : Int, (if D m ≠ none ∧ D n = none then 14 else if D m = none ∧ D n ≠ none then 13 else if D m ≠ none ∧ emptyD D m = false then 15 else 0) = yv := ⟨_, rfl⟩
              rw [hyv] at cY
              replace cY := W_hid cY
              have hyy := W_hid (And.intro hyv hr6)
              clear hmn hd hr5 hr6 hyv
              go_wp2_with (with_reducible show wpList _ _ _ _ _ _; refine wpList_node rfl (.tmp 43) (.tmp 44) 141 rfl _ _ rfl rfl false hne ?_)
              refine cY.out.mono ?_
              rintro e w4 ⟨rfl, b7⟩
              have K4 := W_hid (And.intro (K3.out.1.trans (b7.mono K3.out.1.size)) (And.intro (K3.out.2.1.keep b7) (And.intro (K3.out.2.2.1.keep b7) (K3.out.2.2.2.1.keep b7))))
              clear b7 K3 m0 m1 nn0 nn1 hne cY hT3
              by_cases hy0 : yv = 0
              · subst hy0
                have hr9 := W_hid (show (if D n ≠ none ∧ n ∈ anc D hgt pt then (2 : Int) else 0) = R from by
                        have h1 := hyy.out.1
                        have h2 := hyy.out.2
                        have h3 := hDn.out
                        by_cases hm : D m = none
                        · simp [hm, h3] at h1
                        · cases he : emptyD D m with
                          | false => simp [hm, h3, he] at h1
                          | true => simpa [hm, h3, he] using h2)
                clear hyy
                have vbn0 := K4.out.2.2.2.cell (j := 0) rfl
                have vbn1 := K4.out.2.2.2.cell (j := 1) rfl
                go_wp2_with fail
                refine (cF _).out.mono ?_
                rintro e wz ⟨rfl, bz⟩
                have KZ := W_hid (And.intro (K4.out.1.trans (bz.mono K4.out.1.size)) (And.intro (K4.out.2.2.1.keep bz) (K4.out.2.2.2.keep bz)))
                have zz1 := KZ.out.2.1.cell (j := 1) rfl
                have zz2 := KZ.out.2.2.cell (j := 1) rfl
                have hgn : ∃ gn, pa A n = some gn := by
                  have := hpd.out n
                  rw [hbn.out] at this
                  cases e : pa A n with
                  | none => rw [e] at this; cases this
                  | some g => exact ⟨g, rfl⟩
                obtain ⟨gn, hgn⟩ := hgn
                have hqn2 : qn = some ⟨gn, 0, none⟩ := by have := hqn.out; rw [hgn] at this; simpa [IS.ptr] using this.symm
                subst hqn2
                have cW := W_hid (within_any pt n gt gn hgt wz (H.out.1.keep KZ.out.1) H.out.2.2.1 H.out.2.2.2.2 hgn H.out.2.2.2.1)
                clear bz hgn
                simp only [hbn.out]
                go_wp2_with fail
                refine cW.out.mono ?_
                rintro e wy ⟨rfl, rfl⟩
                by_cases hin : n ∈ anc D hgt pt
                · have hd := decide_eq_true hin
                  have hr8 := hr9.out
                  rw [if_pos ⟨hDn.out, hin⟩] at hr8
                  simp only [hd]
                  clear hin hd
                  go_wp2_with fail
                  go_ret
                  exact ⟨by rw [← hr8]; rfl, KZ.out.1⟩
                · have hd := decide_eq_false hin
                  have hr8 := hr9.out
                  rw [if_neg (fun h => hin h.2)] at hr8
                  simp only [hd]
                  clear hin hd
                  go_wp2_with fail
                  go_ret
                  exact ⟨by rw [← hr8]; rfl, KZ.out.1⟩
              · have hye : (yv == 0) = false := by simpa using hy0
                have hR2 : R = yv := by
                  have h1 := hyy.out.1
                  have h2 := hyy.out.2
                  rw [← h2, ← h1]
                  rw [← h1] at hy0
                  repeat' split
                  all_goals first | rfl | (exfalso; simp_all; done)
                subst hR2
                clear hyy hy0
                go_wp2_with fail
                go_ret
                exact ⟨rfl, K4.out.1⟩
end
end NT
namespace NT
open IN (Keeps)
section
variable {base : Nat} {w w' : World} {tg sg mb : Nat} {A : Int → Option (Nat × Nat)} {D : Ds}
theorem TM.setUp (h : TM base w tg sg mb A D) {n : Int} {g m : Nat} {d : Dr} (hA : A n = some (g, m)) (hD : D n = some d) (p : Int) :
    TM base ((w.setCell ⟨g, 0, none⟩ (.int .i64 p)).setCell ⟨g, 1, none⟩ (IS.ptr (pa A p))) tg sg mb A (upd D n (some { d with up := p })) ∧ Keeps base (OneD g) w ((w.setCell ⟨g, 0, none⟩ (.int .i64 p)).setCell ⟨g, 1, none⟩ (IS.ptr (pa A p))) := by
  have hne := h.neq hA
  obtain ⟨p0, q0⟩ := h.dir n g m d hA hD
  have hmv : ∀ {x : Nat} {e : TypeId} {l : List Value}, x ≠ g → Blk w x e l → Blk ((w.setCell ⟨g, 0, none⟩ (.int .i64 p)).setCell ⟨g, 1, none⟩ (IS.ptr (pa A p))) x e l := fun {x e l} hx hb => (hb.far (p := ⟨g, 0, none⟩) hx _).far (p := ⟨g, 1, none⟩) hx _
  have p1 := (p0.set 0 (.int .i64 p)).set 1 (IS.ptr (pa A p))
  have q1 : ∀ {x : Nat} {M : ByteArray → Option (Int × Option Nat)}, x ≠ g → NS.MB w x M → NS.MB ((w.setCell ⟨g, 0, none⟩ (.int .i64 p)).setCell ⟨g, 1, none⟩ (IS.ptr (pa A p))) x M := fun {x M} hx hb => (hb.far (p := ⟨g, 0, none⟩) hx _).far (p := ⟨g, 1, none⟩) hx _
  refine ⟨⟨hmv hne.2.1 h.box, fun n' => ?_, ?_, fun n' g' m' d' hA' hD' => ?_, h.inj, h.ge⟩, ?_⟩
  · by_cases e : n' = n
    · subst e; rw [upd_at, hA]; simp
    · rw [upd_ne e]; exact h.dom n'
  · by_cases e : (1 : Int) = n
    · rw [e, upd_at]; simp
    · rw [upd_ne e]; exact h.root
  · by_cases e : n' = n
    · subst e
      rw [upd_at] at hD'
      cases hD'
      rw [hA] at hA'
      cases hA'
      exact ⟨p1, q1 hne.1.symm q0⟩
    · rw [upd_ne e] at hD'
      obtain ⟨p', q'⟩ := h.dir n' g' m' d' hA' hD'
      exact ⟨hmv (h.inj n' n g' m' g m hA' hA e).1 p', q1 (hne.2.2.2 n' g' m' hA').2 q'⟩
  · have hb := (h.ge.2 n g m hA).1
    have k1 := (Keeps.refl base (OneD g) w).setCell (p := ⟨g, 0, none⟩) p0 ⟨rfl, _, _, rfl⟩ hb (.int .i64 p)
    exact k1.setCell (p := ⟨g, 1, none⟩) (p0.set 0 (.int .i64 p)) ⟨rfl, _, _, rfl⟩ hb (IS.ptr (pa A p))
theorem TM.shrink (h : TM base w tg sg mb A D) {j : Int} (hj : j ≠ 1) (hf : ∀ m d, D m = some d → m ≠ j → d.up ≠ j ∧ ∀ k, look k d.l ≠ some j) : TM base w tg sg mb (updA A j none) (upd D j none) := by
  refine ⟨?_, fun n => ?_, ?_, fun n g m d hA hD => ?_, fun n n' g m g' m' hA hA' e => ?_, h.ge.1, fun n g m hA => ?_⟩
  · rw [pa_ne hj.symm]; exact h.box
  · by_cases e : n = j
    · subst e; rw [upd_at, updA_at]; exact ⟨fun _ => rfl, fun _ => rfl⟩
    · rw [upd_ne e, updA_ne e]; exact h.dom n
  · rw [upd_ne hj.symm]; exact h.root
  · by_cases e : n = j
    · subst e; rw [updA_at] at hA; cases hA
    · rw [updA_ne e] at hA
      rw [upd_ne e] at hD
      obtain ⟨p, q⟩ := h.dir n g m d hA hD
      have hfr := hf n d hD e
      refine ⟨?_, ?_⟩
      · unfold dcl
        rw [pa_ne hfr.1]
        exact p
      · rw [nm_free hfr.2]
        exact q
  · by_cases e1 : n = j
    · subst e1; rw [updA_at] at hA; cases hA
    · by_cases e2 : n' = j
      · subst e2; rw [updA_at] at hA'; cases hA'
      · rw [updA_ne e1] at hA
        rw [updA_ne e2] at hA'
        exact h.inj n n' g m g' m' hA hA' e
  · by_cases e1 : n = j
    · subst e1; rw [updA_at] at hA; cases hA
    · rw [updA_ne e1] at hA
      exact h.ge.2 n g m hA
def mov1 (D : Ds) (pf : Int) (kf : ByteArray) : Ds := fun x => if x = pf then (D pf).map (fun d => { d with l := del kf d.l }) else D x
def mov2 (D : Ds) (pf : Int) (kf : ByteArray) (pt : Int) (kt : ByteArray) (n : Int) : Ds := fun x => if x = pt then (mov1 D pf kf pt).map (fun d => { d with l := put kt n d.l }) else mov1 D pf kf x
def movD (D : Ds) (pf : Int) (kf : ByteArray) (pt : Int) (kt : ByteArray) (n : Int) : Ds := fun x => if x = n then (mov2 D pf kf pt kt n n).map (fun d => { d with up := pt }) else mov2 D pf kf pt kt n x
theorem upd_map (D : Ds) (n : Int) {d : Dr} (hD : D n = some d) (f : Dr → Dr) : upd D n (some (f d)) = fun x => if x = n then (D n).map f else D x := by
  funext x
  unfold upd
  rw [hD]
  rfl
theorem del_len (k : ByteArray) (l : List (ByteArray × Int)) : (del k l).length ≤ l.length := List.length_filter_le _ _
theorem one_cells {m k : Nat} {c : Array Value} {e : TypeId} {s : Nat × Nat} : ¬ One m k (.cells c e s) := fun h => by
  obtain ⟨_, es, c', h⟩ := h
  cases h
theorem oned_cells {m k : Nat} {c : Array Value} {e : TypeId} {s : Nat × Nat} (he : e ≠ 163) : ¬ OneD m k (.cells c e s) := fun h => by
  obtain ⟨_, c', s', h⟩ := h
  cases h
  exact he rfl
theorem ptr_none : IS.ptr none = .pointer none := rfl
set_option maxRecDepth 100000 in
set_option maxHeartbeats 16000000 in
theorem move_file_new (I L B q : Nat) (M : Int → Option Nat) (S : Int → Option IN.Nd) (pf pt n : Int) (kf kt : ByteArray) (df dt : Bool) (hkf : NS.Sm kf) (hkt : kt.size ≤ 281474976710656) (w : World) (h : TM base w tg sg mb A D) (hP : IN.PS base w sg mb M I L B q S) (hq : q < 1000000) (dpf dpt : Dr) (hdf : D pf = some dpf) (hdt : D pt = some dpt)
    (hn : at_ D pf kf = some n) (hn0 : n ≠ 0) (hfew : ∀ n d, D n = some d → d.l.length < 65535) (hdn : D n = none) (hm : at_ D pt kt = none) :
    Calls Tryz.prog 82 #[.pointer (some ⟨tg, 0, none⟩), .agg #[.int .i64 pf, IS.ptr (pa A pf), .string kf, .bool df], .agg #[.int .i64 pt, IS.ptr (pa A pt), .string kt, .bool dt]] w fun e w' => e = .returned (.tuple #[]) ∧ (∃ M', IN.PS base w' sg mb M' I L B q S) ∧ TM base w' tg sg mb A (movD D pf kf pt kt n) ∧ Keeps base (FT A mb) w w' := by
  have hkt2 : NS.Sm kt := by unfold NS.Sm maxLen; omega
  have cT1 := fun (w' : World) (hb : Below w.heap.size w w') => target_tm pf kf df hkf w' (h.keep hb) dpf hdf
  have cT2 := fun (w' : World) (hb : Below w.heap.size w w') => target_tm pt kt dt hkt2 w' (h.keep hb) dpt hdt
  obtain ⟨gf, mf, hAf, hpf, hdbf⟩ := h.db hdf
  obtain ⟨gt, mt, hAt, hpt, hdbt⟩ := h.db hdt
  have hqf : IS.ptr (pa A pf) = .pointer (some ⟨gf, 0, none⟩) := by rw [hpf]; rfl
  have hqt : IS.ptr (pa A pt) = .pointer (some ⟨gt, 0, none⟩) := by rw [hpt]; rfl
  simp only [hqf, hqt] at cT1 cT2 ⊢
  rw [hn] at cT1
  rw [hm] at cT2
  obtain ⟨qn, hqn⟩ := ptr_form (pa A n)
  have cF := fun w => isFile_any n (pa A n) w
  rw [pa_none h n, decide_eq_true hdn] at cF
  simp only [NS.nv, hqn, Option.isSome_some, Option.isSome_none, ptr_none] at cT1 cT2 cF
  have hm1 : D pf = some dpf := hdf
  obtain ⟨d1, hd1, hd1l⟩ : ∃ d1, mov1 D pf kf pt = some d1 ∧ d1.l.length < 65536 := by
    unfold mov1
    by_cases e : pt = pf
    · rw [if_pos e, hdf]
      exact ⟨_, rfl, by have := del_len kf dpf.l; have := hfew pf dpf hdf; show (del kf dpf.l).length < 65536; omega⟩
    · rw [if_neg e]
      exact ⟨dpt, hdt, by have := hfew pt dpt hdt; omega⟩
  have e1 : upd D pf (some { dpf with l := del kf dpf.l }) = mov1 D pf kf := upd_map D pf hdf (fun d => { d with l := del kf d.l })
  have e2 : upd (mov1 D pf kf) pt (some { d1 with l := put kt n d1.l }) = mov2 D pf kf pt kt n := upd_map (mov1 D pf kf) pt hd1 (fun d => { d with l := put kt n d.l })
  have hlow := h.low
  have cR := W_hid (fun (w' : World) (hb : Below w.heap.size w w') => remove_any base gf mf dpf.up (pa A dpf.up) (nm A dpf.l) kf hkf w' (hdbf.keep hb) (h.ge.2 pf gf mf hAf).2.1)
  have cU := W_hid (fun (w' : World) (hT : TM base w' tg sg mb A (mov1 D pf kf)) => by
    obtain ⟨q1, q2⟩ := hT.dir pt gt mt d1 hAt hd1
    have := put_any base gt mt d1.up (pa A d1.up) (nm A d1.l) kt hkt n (pa A n) w' ⟨q1, q2⟩ (h.ge.2 pt gt mt hAt).2.1 (made_few rfl hd1l)
    unfold NS.nv at this
    rw [hqn] at this
    exact this)
  have hgef := h.ge.2 pf gf mf hAf
  have hget := h.ge.2 pt gt mt hAt
  have tR := W_hid (fun (w' w'' : World) (hb : Below w.heap.size w w') (hM : NS.MB w'' mf (NS.upd (nm A dpf.l) kf none)) (hK : Keeps base (One mf) w' w'') => show TM base w'' tg sg mb A (mov1 D pf kf) from by
    rw [← e1]
    exact (h.keep hb).turn hAf hdf (by rw [nm_del]; exact hM) hK)
  have tU := W_hid (fun (w' w'' : World) (hT : TM base w' tg sg mb A (mov1 D pf kf)) (hM : NS.MB w'' mt (NS.upd (nm A d1.l) kt (some (n, pa A n)))) (hK : Keeps base (One mt) w' w'') => show TM base w'' tg sg mb A (mov2 D pf kf pt kt n) from by
    rw [← e2]
    exact hT.turn hAt hd1 (by rw [nm_put]; exact hM) hK)
  have E3 := W_hid (show mov2 D pf kf pt kt n n = none from by
    unfold mov2 mov1
    have h1 : n ≠ pt := fun e => by rw [e, hdt] at hdn; cases hdn
    have h2 : n ≠ pf := fun e => by rw [e, hdf] at hdn; cases hdn
    rw [if_neg h1, if_neg h2, hdn])
  have HA := W_hid (And.intro hAf (And.intro hAt (And.intro hgef (And.intro hget (And.intro hlow (And.intro hP h))))))
  have hqn := W_hid hqn
  have cT1a := W_hid cT1
  have cT2a := W_hid cT2
  replace cF := fun w => W_hid (cF w)
  have b0 := new2 w (.cells #[.int .i64 pf, .pointer (some ⟨gf, 0, none⟩), .string kf, .bool df] 147) (.cells #[.int .i64 pt, .pointer (some ⟨gt, 0, none⟩), .string kt, .bool dt] 147)
  have k1 : Blk ((w.alloc (.cells #[.int .i64 pf, .pointer (some ⟨gf, 0, none⟩), .string kf, .bool df] 147)).alloc (.cells #[.int .i64 pt, .pointer (some ⟨gt, 0, none⟩), .string kt, .bool dt] 147)) w.heap.size 147 [.int .i64 pf, .pointer (some ⟨gf, 0, none⟩), .string kf, .bool df] := (Blk.new _ _ _ rfl).alloc _
  have k2 : Blk ((w.alloc (.cells #[.int .i64 pf, .pointer (some ⟨gf, 0, none⟩), .string kf, .bool df] 147)).alloc (.cells #[.int .i64 pt, .pointer (some ⟨gt, 0, none⟩), .string kt, .bool dt] 147)) (w.heap.size + 1) 147 [.int .i64 pt, .pointer (some ⟨gt, 0, none⟩), .string kt, .bool dt] := Blk.new _ _ _ (by simp)
  have K0 := W_hid (And.intro b0 (And.intro k1 k2))
  clear h hP hdf hdt hn hdbf hdbt hpf hpt hqf hqt hd1 hd1l e1 e2 hgef hget hlow hAf hAt b0 k1 k2 cT1 cT2 hm1 hfew hdn
  go_enter Tryz.func82, Tryz.ntmps82
  go_wp2_with fail
  refine (cT1a.out _ K0.out.1).mono ?_
  rintro e w1 ⟨rfl, b1⟩
  have b2 := K0.out.1.trans (b1.mono K0.out.1.size)
  have nb : Blk (w1.alloc (.cells #[.int .i64 n, .pointer qn] 141)) w1.heap.size 141 [.int .i64 n, .pointer qn] := Blk.new _ _ _ rfl
  have K1 := W_hid (And.intro (b2.alloc b2.size (.cells #[.int .i64 n, .pointer qn] 141)) (And.intro ((K0.out.2.1.keep b1).alloc (.cells #[.int .i64 n, .pointer qn] 141)) (And.intro ((K0.out.2.2.keep b1).alloc (.cells #[.int .i64 n, .pointer qn] 141)) nb)))
  have t0 := K1.out.2.2.1.cell (j := 0) rfl
  have t1 := K1.out.2.2.1.cell (j := 1) rfl
  have t2 := K1.out.2.2.1.cell (j := 2) rfl
  have t3 := K1.out.2.2.1.cell (j := 3) rfl
  clear b1 b2 nb K0 cT1a
  go_wp2_with fail
  refine (cT2a.out _ K1.out.1).mono ?_
  rintro e w2 ⟨rfl, b3⟩
  have b4 := K1.out.1.trans (b3.mono K1.out.1.size)
  have b5 := b4.alloc b4.size (.cells #[.int .i64 0, .pointer none] 141)
  have mb3 : Blk (w2.alloc (.cells #[.int .i64 0, .pointer none] 141)) w2.heap.size 141 [.int .i64 0, .pointer none] := Blk.new _ _ _ rfl
  have hT2 := HA.out.2.2.2.2.2.2.keep b5
  have hne := node_eq (w2.alloc (.cells #[.int .i64 0, .pointer none] 141)) 0 n none (pa A n) (fun g hg => by cases hg) (pa_isDir hT2 n)
  rw [hqn.out, decide_eq_false (fun h => hn0 h.1.symm)] at hne
  simp only [IS.ptr] at hne
  have K2 := W_hid (And.intro b5 (And.intro ((K1.out.2.1.keep b3).alloc (.cells #[.int .i64 0, .pointer none] 141)) (And.intro ((K1.out.2.2.1.keep b3).alloc (.cells #[.int .i64 0, .pointer none] 141)) (And.intro ((K1.out.2.2.2.keep b3).alloc (.cells #[.int .i64 0, .pointer none] 141)) mb3))))
  have m0 := mb3.cell (j := 0) rfl
  have m1 := mb3.cell (j := 1) rfl
  have n0 := K2.out.2.2.2.1.cell (j := 0) rfl
  have n1 := K2.out.2.2.2.1.cell (j := 1) rfl
  have f1 := K2.out.2.1.cell (j := 1) rfl
  have f2 := K2.out.2.1.cell (j := 2) rfl
  have cR1 := W_hid (cR.out _ K2.out.1)
  have hT2 := W_hid hT2
  clear b3 b4 b5 mb3 K1 t0 t1 t2 t3 cT2a cR
  go_wp2_with (with_reducible show wpList _ _ _ _ _ _; refine wpList_node rfl (.tmp 20) (.tmp 21) 141 rfl _ _ rfl rfl false hne ?_)
  refine cR1.out.mono ?_
  rintro e w3 ⟨rfl, hM3, hK3⟩
  have hT3 := tR.out _ w3 K2.out.1 hM3 hK3
  have hKK3 : Keeps base (FT A mb) w w3 := (Keeps.new K2.out.1 HA.out.2.2.2.2.1).trans (keeps_one HA.out.1 hK3)
  have hP3 : IN.PS base w3 sg mb M I L B q S := (HA.out.2.2.2.2.2.1.keep K2.out.1).keeps hK3 (by simp [One]) (by simp [One]) (by simp [One, HA.out.2.2.1.2.2.symm]) (by simp [One])
  have k3a : Blk w3 (w.heap.size + 1) 147 [.int .i64 pt, .pointer (some ⟨gt, 0, none⟩), .string kt, .bool dt] := hK3.block _ _ K2.out.2.2.1 one_cells
  have k3b : Blk w3 w1.heap.size 141 [.int .i64 n, .pointer qn] := hK3.block _ _ K2.out.2.2.2.1 one_cells
  have k3c : Blk w3 w2.heap.size 141 [.int .i64 0, .pointer none] := hK3.block _ _ K2.out.2.2.2.2 one_cells
  have K3 := W_hid (And.intro hKK3 (And.intro hP3 (And.intro k3a (And.intro k3b (And.intro k3c hT3)))))
  have t1 := k3a.cell (j := 1) rfl
  have t2 := k3a.cell (j := 2) rfl
  have n2 := k3b.cell (j := 0) rfl
  have n3 := k3b.cell (j := 1) rfl
  have cU1 := W_hid (cU.out w3 hT3)
  clear hM3 hK3 hKK3 hP3 k3a k3b k3c hT3 K2 cR1 m0 m1 n0 n1 f1 f2 hne hT2 tR cU
  go_wp2_with fail
  refine cU1.out.mono ?_
  rintro e w4 ⟨rfl, hM4, hK4⟩
  have hT4 := tU.out _ w4 K3.out.2.2.2.2.2 hM4 hK4
  have hKK4 : Keeps base (FT A mb) w w4 := K3.out.1.trans (keeps_one HA.out.2.1 hK4)
  have hP4 : IN.PS base w4 sg mb M I L B q S := K3.out.2.1.keeps hK4 (by simp [One]) (by simp [One]) (by simp [One, HA.out.2.2.2.1.2.2.symm]) (by simp [One])
  have k4a : Blk w4 (w.heap.size + 1) 147 [.int .i64 pt, .pointer (some ⟨gt, 0, none⟩), .string kt, .bool dt] := hK4.block _ _ K3.out.2.2.1 one_cells
  have k4b : Blk w4 w1.heap.size 141 [.int .i64 n, .pointer qn] := hK4.block _ _ K3.out.2.2.2.1 one_cells
  have k4c : Blk w4 w2.heap.size 141 [.int .i64 0, .pointer none] := hK4.block _ _ K3.out.2.2.2.2.1 one_cells
  have K4 := W_hid (And.intro hKK4 (And.intro hP4 (And.intro k4a (And.intro k4b (And.intro k4c hT4)))))
  have n4 := k4b.cell (j := 0) rfl
  have n5 := k4b.cell (j := 1) rfl
  clear hM4 hK4 hKK4 hP4 k4a k4b k4c hT4 K3 cU1 t1 t2 n2 n3 tU
  go_wp2_with fail
  refine (cF _).out.mono ?_
  rintro e w5 ⟨rfl, b6⟩
  have hKK5 : Keeps base (FT A mb) w w5 := K4.out.1.trans (Keeps.new b6 K4.out.2.2.2.2.2.low)
  have hT5 := K4.out.2.2.2.2.2.keep b6
  have hP5 := K4.out.2.1.keep b6
  have k5a := K4.out.2.2.1.keep b6
  have k5b := K4.out.2.2.2.1.keep b6
  have k5c := K4.out.2.2.2.2.1.keep b6
  have e3 : movD D pf kf pt kt n = mov2 D pf kf pt kt n := by
    funext x
    unfold movD
    by_cases e : x = n
    · rw [if_pos e, e]
      rw [E3.out]
      rfl
    · rw [if_neg e]
  have hT6 : TM base w5 tg sg mb A (movD D pf kf pt kt n) := by rw [e3]; exact hT5
  have K6 := W_hid (And.intro hKK5 (And.intro hP5 (And.intro hT6 k5c)))
  clear hKK5 hT5 hP5 k5a k5b k5c b6 K4 n4 n5 hT6 e3
  go_wp2_with fail
  go_end0
  exact ⟨rfl, ⟨M, K6.out.2.1⟩, K6.out.2.2.1, K6.out.1⟩
set_option maxRecDepth 100000 in
set_option maxHeartbeats 16000000 in
theorem move_file_over (I L B q : Nat) (M : Int → Option Nat) (S : Int → Option IN.Nd) (pf pt n : Int) (kf kt : ByteArray) (df dt : Bool) (hkf : NS.Sm kf) (hkt : kt.size ≤ 281474976710656) (w : World) (h : TM base w tg sg mb A D) (hP : IN.PS base w sg mb M I L B q S) (hq : q < 1000000) (dpf dpt : Dr) (hdf : D pf = some dpf) (hdt : D pt = some dpt)
    (hn : at_ D pf kf = some n) (hn0 : n ≠ 0) (hfew : ∀ n d, D n = some d → d.l.length < 65535) (hdn : D n = none) (m : Int) (hm : at_ D pt kt = some m) (hmn : m ≠ n) (hm64 : IS.I64 m) :
    Calls Tryz.prog 82 #[.pointer (some ⟨tg, 0, none⟩), .agg #[.int .i64 pf, IS.ptr (pa A pf), .string kf, .bool df], .agg #[.int .i64 pt, IS.ptr (pa A pt), .string kt, .bool dt]] w fun e w' => e = .returned (.tuple #[]) ∧ (∃ M', IN.PS base w' sg mb M' I L B q (IN.ulS S m)) ∧ TM base w' tg sg mb A (movD D pf kf pt kt n) ∧ Keeps base (FT A mb) w w' := by
  have hkt2 : NS.Sm kt := by unfold NS.Sm maxLen; omega
  have cT1 := fun (w' : World) (hb : Below w.heap.size w w') => target_tm pf kf df hkf w' (h.keep hb) dpf hdf
  have cT2 := fun (w' : World) (hb : Below w.heap.size w w') => target_tm pt kt dt hkt2 w' (h.keep hb) dpt hdt
  obtain ⟨gf, mf, hAf, hpf, hdbf⟩ := h.db hdf
  obtain ⟨gt, mt, hAt, hpt, hdbt⟩ := h.db hdt
  have hqf : IS.ptr (pa A pf) = .pointer (some ⟨gf, 0, none⟩) := by rw [hpf]; rfl
  have hqt : IS.ptr (pa A pt) = .pointer (some ⟨gt, 0, none⟩) := by rw [hpt]; rfl
  simp only [hqf, hqt] at cT1 cT2 ⊢
  rw [hn] at cT1
  rw [hm] at cT2
  obtain ⟨qn, hqn⟩ := ptr_form (pa A n)
  obtain ⟨qm, hqm⟩ := ptr_form (pa A m)
  have cF := fun w => isFile_any n (pa A n) w
  rw [pa_none h n, decide_eq_true hdn] at cF
  simp only [NS.nv, hqn, Option.isSome_some, Option.isSome_none, hqm] at cT1 cT2 cF
  have hm1 : D pf = some dpf := hdf
  obtain ⟨d1, hd1, hd1l⟩ : ∃ d1, mov1 D pf kf pt = some d1 ∧ d1.l.length < 65536 := by
    unfold mov1
    by_cases e : pt = pf
    · rw [if_pos e, hdf]
      exact ⟨_, rfl, by have := del_len kf dpf.l; have := hfew pf dpf hdf; show (del kf dpf.l).length < 65536; omega⟩
    · rw [if_neg e]
      exact ⟨dpt, hdt, by have := hfew pt dpt hdt; omega⟩
  have e1 : upd D pf (some { dpf with l := del kf dpf.l }) = mov1 D pf kf := upd_map D pf hdf (fun d => { d with l := del kf d.l })
  have e2 : upd (mov1 D pf kf) pt (some { d1 with l := put kt n d1.l }) = mov2 D pf kf pt kt n := upd_map (mov1 D pf kf) pt hd1 (fun d => { d with l := put kt n d.l })
  have hlow := h.low
  have cR := W_hid (fun (w' : World) (hb : Below w.heap.size w w') => remove_any base gf mf dpf.up (pa A dpf.up) (nm A dpf.l) kf hkf w' (hdbf.keep hb) (h.ge.2 pf gf mf hAf).2.1)
  have cU := W_hid (fun (w' : World) (hT : TM base w' tg sg mb A (mov1 D pf kf)) => by
    obtain ⟨q1, q2⟩ := hT.dir pt gt mt d1 hAt hd1
    have := put_any base gt mt d1.up (pa A d1.up) (nm A d1.l) kt hkt n (pa A n) w' ⟨q1, q2⟩ (h.ge.2 pt gt mt hAt).2.1 (made_few rfl hd1l)
    unfold NS.nv at this
    rw [hqn] at this
    exact this)
  have hgef := h.ge.2 pf gf mf hAf
  have hget := h.ge.2 pt gt mt hAt
  have tR := W_hid (fun (w' w'' : World) (hb : Below w.heap.size w w') (hM : NS.MB w'' mf (NS.upd (nm A dpf.l) kf none)) (hK : Keeps base (One mf) w' w'') => show TM base w'' tg sg mb A (mov1 D pf kf) from by
    rw [← e1]
    exact (h.keep hb).turn hAf hdf (by rw [nm_del]; exact hM) hK)
  have tU := W_hid (fun (w' w'' : World) (hT : TM base w' tg sg mb A (mov1 D pf kf)) (hM : NS.MB w'' mt (NS.upd (nm A d1.l) kt (some (n, pa A n)))) (hK : Keeps base (One mt) w' w'') => show TM base w'' tg sg mb A (mov2 D pf kf pt kt n) from by
    rw [← e2]
    exact hT.turn hAt hd1 (by rw [nm_put]; exact hM) hK)
  have E3 := W_hid (show mov2 D pf kf pt kt n n = none from by
    unfold mov2 mov1
    have h1 : n ≠ pt := fun e => by rw [e, hdt] at hdn; cases hdn
    have h2 : n ≠ pf := fun e => by rw [e, hdf] at hdn; cases hdn
    rw [if_neg h1, if_neg h2, hdn])
  have HA := W_hid (And.intro hAf (And.intro hAt (And.intro hgef (And.intro hget (And.intro hlow (And.intro hP h))))))
  have hqn := W_hid hqn
  have hqm := W_hid hqm
  have cT1a := W_hid cT1
  have cT2a := W_hid cT2
  replace cF := fun w => W_hid (cF w)
  have b0 := new2 w (.cells #[.int .i64 pf, .pointer (some ⟨gf, 0, none⟩), .string kf, .bool df] 147) (.cells #[.int .i64 pt, .pointer (some ⟨gt, 0, none⟩), .string kt, .bool dt] 147)
  have k1 : Blk ((w.alloc (.cells #[.int .i64 pf, .pointer (some ⟨gf, 0, none⟩), .string kf, .bool df] 147)).alloc (.cells #[.int .i64 pt, .pointer (some ⟨gt, 0, none⟩), .string kt, .bool dt] 147)) w.heap.size 147 [.int .i64 pf, .pointer (some ⟨gf, 0, none⟩), .string kf, .bool df] := (Blk.new _ _ _ rfl).alloc _
  have k2 : Blk ((w.alloc (.cells #[.int .i64 pf, .pointer (some ⟨gf, 0, none⟩), .string kf, .bool df] 147)).alloc (.cells #[.int .i64 pt, .pointer (some ⟨gt, 0, none⟩), .string kt, .bool dt] 147)) (w.heap.size + 1) 147 [.int .i64 pt, .pointer (some ⟨gt, 0, none⟩), .string kt, .bool dt] := Blk.new _ _ _ (by simp)
  have K0 := W_hid (And.intro b0 (And.intro k1 k2))
  clear h hP hdf hdt hn hdbf hdbt hpf hpt hqf hqt hd1 hd1l e1 e2 hgef hget hlow hAf hAt b0 k1 k2 cT1 cT2 hm1 hfew hdn
  go_enter Tryz.func82, Tryz.ntmps82
  go_wp2_with fail
  refine (cT1a.out _ K0.out.1).mono ?_
  rintro e w1 ⟨rfl, b1⟩
  have b2 := K0.out.1.trans (b1.mono K0.out.1.size)
  have nb : Blk (w1.alloc (.cells #[.int .i64 n, .pointer qn] 141)) w1.heap.size 141 [.int .i64 n, .pointer qn] := Blk.new _ _ _ rfl
  have K1 := W_hid (And.intro (b2.alloc b2.size (.cells #[.int .i64 n, .pointer qn] 141)) (And.intro ((K0.out.2.1.keep b1).alloc (.cells #[.int .i64 n, .pointer qn] 141)) (And.intro ((K0.out.2.2.keep b1).alloc (.cells #[.int .i64 n, .pointer qn] 141)) nb)))
  have t0 := K1.out.2.2.1.cell (j := 0) rfl
  have t1 := K1.out.2.2.1.cell (j := 1) rfl
  have t2 := K1.out.2.2.1.cell (j := 2) rfl
  have t3 := K1.out.2.2.1.cell (j := 3) rfl
  clear b1 b2 nb K0 cT1a
  go_wp2_with fail
  refine (cT2a.out _ K1.out.1).mono ?_
  rintro e w2 ⟨rfl, b3⟩
  have b4 := K1.out.1.trans (b3.mono K1.out.1.size)
  have b5 := b4.alloc b4.size (.cells #[.int .i64 m, .pointer qm] 141)
  have mb3 : Blk (w2.alloc (.cells #[.int .i64 m, .pointer qm] 141)) w2.heap.size 141 [.int .i64 m, .pointer qm] := Blk.new _ _ _ rfl
  have hT2 := HA.out.2.2.2.2.2.2.keep b5
  have hne := node_eq _ m n (pa A m) (pa A n) (pa_isDir hT2 m) (pa_isDir hT2 n)
  rw [show IS.ptr (pa A m) = .pointer qm from hqm.out, hqn.out, decide_eq_false (fun h => hmn h.1)] at hne
  have K2 := W_hid (And.intro b5 (And.intro ((K1.out.2.1.keep b3).alloc (.cells #[.int .i64 m, .pointer qm] 141)) (And.intro ((K1.out.2.2.1.keep b3).alloc (.cells #[.int .i64 m, .pointer qm] 141)) (And.intro ((K1.out.2.2.2.keep b3).alloc (.cells #[.int .i64 m, .pointer qm] 141)) mb3))))
  have m0 := mb3.cell (j := 0) rfl
  have m1 := mb3.cell (j := 1) rfl
  have n0 := K2.out.2.2.2.1.cell (j := 0) rfl
  have n1 := K2.out.2.2.2.1.cell (j := 1) rfl
  have f1 := K2.out.2.1.cell (j := 1) rfl
  have f2 := K2.out.2.1.cell (j := 2) rfl
  have cR1 := W_hid (cR.out _ K2.out.1)
  have hT2 := W_hid hT2
  clear b3 b4 b5 mb3 K1 t0 t1 t2 t3 cT2a cR
  go_wp2_with (with_reducible show wpList _ _ _ _ _ _; refine wpList_node rfl (.tmp 20) (.tmp 21) 141 rfl _ _ rfl rfl false hne ?_)
  refine cR1.out.mono ?_
  rintro e w3 ⟨rfl, hM3, hK3⟩
  have hT3 := tR.out _ w3 K2.out.1 hM3 hK3
  have hKK3 : Keeps base (FT A mb) w w3 := (Keeps.new K2.out.1 HA.out.2.2.2.2.1).trans (keeps_one HA.out.1 hK3)
  have hP3 : IN.PS base w3 sg mb M I L B q S := (HA.out.2.2.2.2.2.1.keep K2.out.1).keeps hK3 (by simp [One]) (by simp [One]) (by simp [One, HA.out.2.2.1.2.2.symm]) (by simp [One])
  have k3a : Blk w3 (w.heap.size + 1) 147 [.int .i64 pt, .pointer (some ⟨gt, 0, none⟩), .string kt, .bool dt] := hK3.block _ _ K2.out.2.2.1 one_cells
  have k3b : Blk w3 w1.heap.size 141 [.int .i64 n, .pointer qn] := hK3.block _ _ K2.out.2.2.2.1 one_cells
  have k3c : Blk w3 w2.heap.size 141 [.int .i64 m, .pointer qm] := hK3.block _ _ K2.out.2.2.2.2 one_cells
  have K3 := W_hid (And.intro hKK3 (And.intro hP3 (And.intro k3a (And.intro k3b (And.intro k3c hT3)))))
  have t1 := k3a.cell (j := 1) rfl
  have t2 := k3a.cell (j := 2) rfl
  have n2 := k3b.cell (j := 0) rfl
  have n3 := k3b.cell (j := 1) rfl
  have cU1 := W_hid (cU.out w3 hT3)
  clear hM3 hK3 hKK3 hP3 k3a k3b k3c hT3 K2 cR1 m0 m1 n0 n1 f1 f2 hne hT2 tR cU
  go_wp2_with fail
  refine cU1.out.mono ?_
  rintro e w4 ⟨rfl, hM4, hK4⟩
  have hT4 := tU.out _ w4 K3.out.2.2.2.2.2 hM4 hK4
  have hKK4 : Keeps base (FT A mb) w w4 := K3.out.1.trans (keeps_one HA.out.2.1 hK4)
  have hP4 : IN.PS base w4 sg mb M I L B q S := K3.out.2.1.keeps hK4 (by simp [One]) (by simp [One]) (by simp [One, HA.out.2.2.2.1.2.2.symm]) (by simp [One])
  have k4a : Blk w4 (w.heap.size + 1) 147 [.int .i64 pt, .pointer (some ⟨gt, 0, none⟩), .string kt, .bool dt] := hK4.block _ _ K3.out.2.2.1 one_cells
  have k4b : Blk w4 w1.heap.size 141 [.int .i64 n, .pointer qn] := hK4.block _ _ K3.out.2.2.2.1 one_cells
  have k4c : Blk w4 w2.heap.size 141 [.int .i64 m, .pointer qm] := hK4.block _ _ K3.out.2.2.2.2.1 one_cells
  have K4 := W_hid (And.intro hKK4 (And.intro hP4 (And.intro k4a (And.intro k4b (And.intro k4c hT4)))))
  have n4 := k4b.cell (j := 0) rfl
  have n5 := k4b.cell (j := 1) rfl
  clear hM4 hK4 hKK4 hP4 k4a k4b k4c hT4 K3 cU1 t1 t2 n2 n3 tU
  go_wp2_with fail
  refine (cF _).out.mono ?_
  rintro e w5 ⟨rfl, b6⟩
  have hKK5 : Keeps base (FT A mb) w w5 := K4.out.1.trans (Keeps.new b6 K4.out.2.2.2.2.2.low)
  have hT5 := K4.out.2.2.2.2.2.keep b6
  have hP5 := K4.out.2.1.keep b6
  have k5a := K4.out.2.2.1.keep b6
  have k5b := K4.out.2.2.2.1.keep b6
  have k5c := K4.out.2.2.2.2.1.keep b6
  have e3 : movD D pf kf pt kt n = mov2 D pf kf pt kt n := by
    funext x
    unfold movD
    by_cases e : x = n
    · rw [if_pos e, e]
      rw [E3.out]
      rfl
    · rw [if_neg e]
  have hT6 : TM base w5 tg sg mb A (movD D pf kf pt kt n) := by rw [e3]; exact hT5
  have K6 := W_hid (And.intro hKK5 (And.intro hP5 (And.intro hT6 k5c)))
  have cL := W_hid (IN.Unlink_any m _ (show IN.PS base (w5).drew sg mb M I L B q S from ⟨K6.out.2.1.pm.drew1, K6.out.2.1.fn, K6.out.2.1.lim⟩) hm64 hq)
  have x0 := K6.out.2.2.1.box.cell (j := 0) rfl
  have x1 := K6.out.2.2.2.cell (j := 0) rfl
  clear hKK5 hT5 hP5 k5a k5b k5c b6 K4 n4 n5 hT6 e3
  go_wp2_with fail
  go_region_held3 (fun w' => w'.cell? ⟨tg, 0, none⟩ = some (.pointer (some ⟨sg, 0, none⟩)) ∧ w'.cell? ⟨w2.heap.size, 0, none⟩ = some (.int .i64 m)) (first | assumption | go_keep)
    (first
      | (go_at_call 148; refine cL.out.mono ?_; rintro e w8 ⟨rfl, hP8, hK8⟩; have hT8 := K6.out.2.2.1.store (w' := w8) hK8.undrew; have S8 : w8.cell? ⟨tg, 0, none⟩ = some (.pointer (some ⟨sg, 0, none⟩)) ∧ w8.cell? ⟨w2.heap.size, 0, none⟩ = some (.int .i64 m) := ⟨hT8.box.cell (j := 0) rfl, (show Blk w8 w2.heap.size 141 [.int .i64 m, .pointer qm] from hK8.undrew.block _ _ K6.out.2.2.2 (by simp [IN.PT])).cell (j := 0) rfl⟩))
  all_goals
    have hfin := W_hid (show (∃ M', IN.PS base w8 sg mb M' I L B q (IN.ulS S m)) ∧ TM base w8 tg sg mb A (movD D pf kf pt kt n) ∧ Keeps base (FT A mb) w w8 from ⟨hP8, hT8, K6.out.1.trans (keeps_store hK8.undrew)⟩)
    clear hT8 S8 hP8 hK8
    go_wp2_with fail
    go_end0
    exact ⟨rfl, hfin.out⟩
set_option maxRecDepth 100000 in
set_option maxHeartbeats 16000000 in
theorem move_dir_new (I L B q : Nat) (M : Int → Option Nat) (S : Int → Option IN.Nd) (pf pt n : Int) (kf kt : ByteArray) (df dt : Bool) (hkf : NS.Sm kf) (hkt : kt.size ≤ 281474976710656) (w : World) (h : TM base w tg sg mb A D) (hP : IN.PS base w sg mb M I L B q S) (hq : q < 1000000) (dpf dpt : Dr) (hdf : D pf = some dpf) (hdt : D pt = some dpt)
    (hn : at_ D pf kf = some n) (hn0 : n ≠ 0) (hfew : ∀ n d, D n = some d → d.l.length < 65535) (hdn : D n ≠ none) (hm : at_ D pt kt = none) :
    Calls Tryz.prog 82 #[.pointer (some ⟨tg, 0, none⟩), .agg #[.int .i64 pf, IS.ptr (pa A pf), .string kf, .bool df], .agg #[.int .i64 pt, IS.ptr (pa A pt), .string kt, .bool dt]] w fun e w' => e = .returned (.tuple #[]) ∧ (∃ M', IN.PS base w' sg mb M' I L B q S) ∧ TM base w' tg sg mb A (movD D pf kf pt kt n) ∧ Keeps base (FT A mb) w w' := by
  have hkt2 : NS.Sm kt := by unfold NS.Sm maxLen; omega
  have cT1 := fun (w' : World) (hb : Below w.heap.size w w') => target_tm pf kf df hkf w' (h.keep hb) dpf hdf
  have cT2 := fun (w' : World) (hb : Below w.heap.size w w') => target_tm pt kt dt hkt2 w' (h.keep hb) dpt hdt
  obtain ⟨gf, mf, hAf, hpf, hdbf⟩ := h.db hdf
  obtain ⟨gt, mt, hAt, hpt, hdbt⟩ := h.db hdt
  have hqf : IS.ptr (pa A pf) = .pointer (some ⟨gf, 0, none⟩) := by rw [hpf]; rfl
  have hqt : IS.ptr (pa A pt) = .pointer (some ⟨gt, 0, none⟩) := by rw [hpt]; rfl
  simp only [hqf, hqt] at cT1 cT2 ⊢
  rw [hn] at cT1
  rw [hm] at cT2
  obtain ⟨qn, hqn⟩ := ptr_form (pa A n)
  have cF := fun w => isFile_any n (pa A n) w
  rw [pa_none h n, decide_eq_false hdn] at cF
  simp only [NS.nv, hqn, Option.isSome_some, Option.isSome_none, ptr_none] at cT1 cT2 cF
  have hm1 : D pf = some dpf := hdf
  obtain ⟨d1, hd1, hd1l⟩ : ∃ d1, mov1 D pf kf pt = some d1 ∧ d1.l.length < 65536 := by
    unfold mov1
    by_cases e : pt = pf
    · rw [if_pos e, hdf]
      exact ⟨_, rfl, by have := del_len kf dpf.l; have := hfew pf dpf hdf; show (del kf dpf.l).length < 65536; omega⟩
    · rw [if_neg e]
      exact ⟨dpt, hdt, by have := hfew pt dpt hdt; omega⟩
  have e1 : upd D pf (some { dpf with l := del kf dpf.l }) = mov1 D pf kf := upd_map D pf hdf (fun d => { d with l := del kf d.l })
  have e2 : upd (mov1 D pf kf) pt (some { d1 with l := put kt n d1.l }) = mov2 D pf kf pt kt n := upd_map (mov1 D pf kf) pt hd1 (fun d => { d with l := put kt n d.l })
  have hlow := h.low
  have cR := W_hid (fun (w' : World) (hb : Below w.heap.size w w') => remove_any base gf mf dpf.up (pa A dpf.up) (nm A dpf.l) kf hkf w' (hdbf.keep hb) (h.ge.2 pf gf mf hAf).2.1)
  have cU := W_hid (fun (w' : World) (hT : TM base w' tg sg mb A (mov1 D pf kf)) => by
    obtain ⟨q1, q2⟩ := hT.dir pt gt mt d1 hAt hd1
    have := put_any base gt mt d1.up (pa A d1.up) (nm A d1.l) kt hkt n (pa A n) w' ⟨q1, q2⟩ (h.ge.2 pt gt mt hAt).2.1 (made_few rfl hd1l)
    unfold NS.nv at this
    rw [hqn] at this
    exact this)
  have hgef := h.ge.2 pf gf mf hAf
  have hget := h.ge.2 pt gt mt hAt
  have tR := W_hid (fun (w' w'' : World) (hb : Below w.heap.size w w') (hM : NS.MB w'' mf (NS.upd (nm A dpf.l) kf none)) (hK : Keeps base (One mf) w' w'') => show TM base w'' tg sg mb A (mov1 D pf kf) from by
    rw [← e1]
    exact (h.keep hb).turn hAf hdf (by rw [nm_del]; exact hM) hK)
  have tU := W_hid (fun (w' w'' : World) (hT : TM base w' tg sg mb A (mov1 D pf kf)) (hM : NS.MB w'' mt (NS.upd (nm A d1.l) kt (some (n, pa A n)))) (hK : Keeps base (One mt) w' w'') => show TM base w'' tg sg mb A (mov2 D pf kf pt kt n) from by
    rw [← e2]
    exact hT.turn hAt hd1 (by rw [nm_put]; exact hM) hK)
  obtain ⟨dn2, hdn2⟩ : ∃ d, mov2 D pf kf pt kt n n = some d := by
    unfold mov2 mov1
    cases hx : D n with
    | none => exact absurd hx hdn
    | some d =>
      by_cases h1 : n = pt
      · rw [if_pos h1]
        by_cases h2 : pt = pf
        · rw [if_pos h2, hdf]; exact ⟨_, rfl⟩
        · rw [if_neg h2, hdt]; exact ⟨_, rfl⟩
      · rw [if_neg h1]
        by_cases h2 : n = pf
        · rw [if_pos h2, hdf]; exact ⟨_, rfl⟩
        · rw [if_neg h2]; exact ⟨_, rfl⟩
  obtain ⟨gn, mn, hAn⟩ : ∃ g m, A n = some (g, m) := by
    cases hx : D n with
    | none => exact absurd hx hdn
    | some d => obtain ⟨g, m, hA, _⟩ := h.has hx; exact ⟨g, m, hA⟩
  have e3 := upd_map (mov2 D pf kf pt kt n) n hdn2 (fun d => { d with up := pt })
  have E3 := W_hid (And.intro hdn2 (And.intro hAn (And.intro e3 hqt)))
  have HA := W_hid (And.intro hAf (And.intro hAt (And.intro hgef (And.intro hget (And.intro hlow (And.intro hP h))))))
  have hqn := W_hid hqn
  have cT1a := W_hid cT1
  have cT2a := W_hid cT2
  replace cF := fun w => W_hid (cF w)
  have b0 := new2 w (.cells #[.int .i64 pf, .pointer (some ⟨gf, 0, none⟩), .string kf, .bool df] 147) (.cells #[.int .i64 pt, .pointer (some ⟨gt, 0, none⟩), .string kt, .bool dt] 147)
  have k1 : Blk ((w.alloc (.cells #[.int .i64 pf, .pointer (some ⟨gf, 0, none⟩), .string kf, .bool df] 147)).alloc (.cells #[.int .i64 pt, .pointer (some ⟨gt, 0, none⟩), .string kt, .bool dt] 147)) w.heap.size 147 [.int .i64 pf, .pointer (some ⟨gf, 0, none⟩), .string kf, .bool df] := (Blk.new _ _ _ rfl).alloc _
  have k2 : Blk ((w.alloc (.cells #[.int .i64 pf, .pointer (some ⟨gf, 0, none⟩), .string kf, .bool df] 147)).alloc (.cells #[.int .i64 pt, .pointer (some ⟨gt, 0, none⟩), .string kt, .bool dt] 147)) (w.heap.size + 1) 147 [.int .i64 pt, .pointer (some ⟨gt, 0, none⟩), .string kt, .bool dt] := Blk.new _ _ _ (by simp)
  have K0 := W_hid (And.intro b0 (And.intro k1 k2))
  clear h hP hdf hdt hn hdbf hdbt hpf hpt hqf hqt hd1 hd1l e1 e2 hgef hget hlow hAf hAt b0 k1 k2 cT1 cT2 hm1 hfew hdn hdn2 hAn e3
  go_enter Tryz.func82, Tryz.ntmps82
  go_wp2_with fail
  refine (cT1a.out _ K0.out.1).mono ?_
  rintro e w1 ⟨rfl, b1⟩
  have b2 := K0.out.1.trans (b1.mono K0.out.1.size)
  have nb : Blk (w1.alloc (.cells #[.int .i64 n, .pointer qn] 141)) w1.heap.size 141 [.int .i64 n, .pointer qn] := Blk.new _ _ _ rfl
  have K1 := W_hid (And.intro (b2.alloc b2.size (.cells #[.int .i64 n, .pointer qn] 141)) (And.intro ((K0.out.2.1.keep b1).alloc (.cells #[.int .i64 n, .pointer qn] 141)) (And.intro ((K0.out.2.2.keep b1).alloc (.cells #[.int .i64 n, .pointer qn] 141)) nb)))
  have t0 := K1.out.2.2.1.cell (j := 0) rfl
  have t1 := K1.out.2.2.1.cell (j := 1) rfl
  have t2 := K1.out.2.2.1.cell (j := 2) rfl
  have t3 := K1.out.2.2.1.cell (j := 3) rfl
  clear b1 b2 nb K0 cT1a
  go_wp2_with fail
  refine (cT2a.out _ K1.out.1).mono ?_
  rintro e w2 ⟨rfl, b3⟩
  have b4 := K1.out.1.trans (b3.mono K1.out.1.size)
  have b5 := b4.alloc b4.size (.cells #[.int .i64 0, .pointer none] 141)
  have mb3 : Blk (w2.alloc (.cells #[.int .i64 0, .pointer none] 141)) w2.heap.size 141 [.int .i64 0, .pointer none] := Blk.new _ _ _ rfl
  have hT2 := HA.out.2.2.2.2.2.2.keep b5
  have hne := node_eq (w2.alloc (.cells #[.int .i64 0, .pointer none] 141)) 0 n none (pa A n) (fun g hg => by cases hg) (pa_isDir hT2 n)
  rw [hqn.out, decide_eq_false (fun h => hn0 h.1.symm)] at hne
  simp only [IS.ptr] at hne
  have K2 := W_hid (And.intro b5 (And.intro ((K1.out.2.1.keep b3).alloc (.cells #[.int .i64 0, .pointer none] 141)) (And.intro ((K1.out.2.2.1.keep b3).alloc (.cells #[.int .i64 0, .pointer none] 141)) (And.intro ((K1.out.2.2.2.keep b3).alloc (.cells #[.int .i64 0, .pointer none] 141)) mb3))))
  have m0 := mb3.cell (j := 0) rfl
  have m1 := mb3.cell (j := 1) rfl
  have n0 := K2.out.2.2.2.1.cell (j := 0) rfl
  have n1 := K2.out.2.2.2.1.cell (j := 1) rfl
  have f1 := K2.out.2.1.cell (j := 1) rfl
  have f2 := K2.out.2.1.cell (j := 2) rfl
  have cR1 := W_hid (cR.out _ K2.out.1)
  have hT2 := W_hid hT2
  clear b3 b4 b5 mb3 K1 t0 t1 t2 t3 cT2a cR
  go_wp2_with (with_reducible show wpList _ _ _ _ _ _; refine wpList_node rfl (.tmp 20) (.tmp 21) 141 rfl _ _ rfl rfl false hne ?_)
  refine cR1.out.mono ?_
  rintro e w3 ⟨rfl, hM3, hK3⟩
  have hT3 := tR.out _ w3 K2.out.1 hM3 hK3
  have hKK3 : Keeps base (FT A mb) w w3 := (Keeps.new K2.out.1 HA.out.2.2.2.2.1).trans (keeps_one HA.out.1 hK3)
  have hP3 : IN.PS base w3 sg mb M I L B q S := (HA.out.2.2.2.2.2.1.keep K2.out.1).keeps hK3 (by simp [One]) (by simp [One]) (by simp [One, HA.out.2.2.1.2.2.symm]) (by simp [One])
  have k3a : Blk w3 (w.heap.size + 1) 147 [.int .i64 pt, .pointer (some ⟨gt, 0, none⟩), .string kt, .bool dt] := hK3.block _ _ K2.out.2.2.1 one_cells
  have k3b : Blk w3 w1.heap.size 141 [.int .i64 n, .pointer qn] := hK3.block _ _ K2.out.2.2.2.1 one_cells
  have k3c : Blk w3 w2.heap.size 141 [.int .i64 0, .pointer none] := hK3.block _ _ K2.out.2.2.2.2 one_cells
  have K3 := W_hid (And.intro hKK3 (And.intro hP3 (And.intro k3a (And.intro k3b (And.intro k3c hT3)))))
  have t1 := k3a.cell (j := 1) rfl
  have t2 := k3a.cell (j := 2) rfl
  have n2 := k3b.cell (j := 0) rfl
  have n3 := k3b.cell (j := 1) rfl
  have cU1 := W_hid (cU.out w3 hT3)
  clear hM3 hK3 hKK3 hP3 k3a k3b k3c hT3 K2 cR1 m0 m1 n0 n1 f1 f2 hne hT2 tR cU
  go_wp2_with fail
  refine cU1.out.mono ?_
  rintro e w4 ⟨rfl, hM4, hK4⟩
  have hT4 := tU.out _ w4 K3.out.2.2.2.2.2 hM4 hK4
  have hKK4 : Keeps base (FT A mb) w w4 := K3.out.1.trans (keeps_one HA.out.2.1 hK4)
  have hP4 : IN.PS base w4 sg mb M I L B q S := K3.out.2.1.keeps hK4 (by simp [One]) (by simp [One]) (by simp [One, HA.out.2.2.2.1.2.2.symm]) (by simp [One])
  have k4a : Blk w4 (w.heap.size + 1) 147 [.int .i64 pt, .pointer (some ⟨gt, 0, none⟩), .string kt, .bool dt] := hK4.block _ _ K3.out.2.2.1 one_cells
  have k4b : Blk w4 w1.heap.size 141 [.int .i64 n, .pointer qn] := hK4.block _ _ K3.out.2.2.2.1 one_cells
  have k4c : Blk w4 w2.heap.size 141 [.int .i64 0, .pointer none] := hK4.block _ _ K3.out.2.2.2.2.1 one_cells
  have K4 := W_hid (And.intro hKK4 (And.intro hP4 (And.intro k4a (And.intro k4b (And.intro k4c hT4)))))
  have n4 := k4b.cell (j := 0) rfl
  have n5 := k4b.cell (j := 1) rfl
  clear hM4 hK4 hKK4 hP4 k4a k4b k4c hT4 K3 cU1 t1 t2 n2 n3 tU
  go_wp2_with fail
  refine (cF _).out.mono ?_
  rintro e w5 ⟨rfl, b6⟩
  have hKK5 : Keeps base (FT A mb) w w5 := K4.out.1.trans (Keeps.new b6 K4.out.2.2.2.2.2.low)
  have hT5 := K4.out.2.2.2.2.2.keep b6
  have hP5 := K4.out.2.1.keep b6
  have k5a := K4.out.2.2.1.keep b6
  have k5b := K4.out.2.2.2.1.keep b6
  have k5c := K4.out.2.2.2.2.1.keep b6
  have hqn2 : qn = some ⟨gn, 0, none⟩ := by have := hqn.out; unfold pa at this; rw [E3.out.2.1] at this; simpa [IS.ptr] using this.symm
  subst hqn2
  have hset := hT5.setUp E3.out.2.1 E3.out.1 pt
  rw [E3.out.2.2.2] at hset
  have gb : ∃ l0 l1 l2, Blk w5 gn 163 [l0, l1, l2] := ⟨_, _, _, (hT5.dir n gn mn dn2 E3.out.2.1 E3.out.1).1⟩
  obtain ⟨l0, l1, l2, gb⟩ := gb
  have g0 := gb.cell (j := 0) rfl
  have g1 := gb.cell (j := 1) rfl
  have g2 := gb.fz
  have z1 := k5b.cell (j := 1) rfl
  have z2 := k5a.cell (j := 0) rfl
  have z3 := k5a.cell (j := 1) rfl
  have hT6 : TM base ((w5.setCell ⟨gn, 0, none⟩ (.int .i64 pt)).setCell ⟨gn, 1, none⟩ (.pointer (some ⟨gt, 0, none⟩))) tg sg mb A (movD D pf kf pt kt n) := by
    have := hset.1
    rw [E3.out.2.2.1] at this
    exact this
  have hP6 := hP5.keeps hset.2 (fun _ _ _ => oned_cells (by decide)) (fun _ _ _ => oned_cells (by decide)) (fun es c h => by obtain ⟨_, _, _, h⟩ := h; cases h) (fun _ _ => oned_cells (by decide))
  have k6c : Blk ((w5.setCell ⟨gn, 0, none⟩ (.int .i64 pt)).setCell ⟨gn, 1, none⟩ (.pointer (some ⟨gt, 0, none⟩))) w2.heap.size 141 [.int .i64 0, .pointer none] := hset.2.block _ _ k5c (oned_cells (by decide))
  have K6 := W_hid (And.intro (hKK5.trans (keeps_dir E3.out.2.1 hset.2)) (And.intro hP6 (And.intro hT6 k6c)))
  clear hKK5 hT5 hP5 k5a k5b k5c b6 K4 n4 n5 hset gb hT6 hP6 k6c
  go_wp2_with fail
  go_end0
  exact ⟨rfl, ⟨M, K6.out.2.1⟩, K6.out.2.2.1, K6.out.1⟩
set_option maxRecDepth 100000 in
set_option maxHeartbeats 16000000 in
theorem move_dir_over (I L B q : Nat) (M : Int → Option Nat) (S : Int → Option IN.Nd) (pf pt n : Int) (kf kt : ByteArray) (df dt : Bool) (hkf : NS.Sm kf) (hkt : kt.size ≤ 281474976710656) (w : World) (h : TM base w tg sg mb A D) (hP : IN.PS base w sg mb M I L B q S) (hq : q < 1000000) (dpf dpt : Dr) (hdf : D pf = some dpf) (hdt : D pt = some dpt)
    (hn : at_ D pf kf = some n) (hn0 : n ≠ 0) (hfew : ∀ n d, D n = some d → d.l.length < 65535) (hdn : D n ≠ none) (m : Int) (hm : at_ D pt kt = some m) (hmn : m ≠ n) (hm64 : IS.I64 m) :
    Calls Tryz.prog 82 #[.pointer (some ⟨tg, 0, none⟩), .agg #[.int .i64 pf, IS.ptr (pa A pf), .string kf, .bool df], .agg #[.int .i64 pt, IS.ptr (pa A pt), .string kt, .bool dt]] w fun e w' => e = .returned (.tuple #[]) ∧ (∃ M', IN.PS base w' sg mb M' I L B q (IN.ulS S m)) ∧ TM base w' tg sg mb A (movD D pf kf pt kt n) ∧ Keeps base (FT A mb) w w' := by
  have hkt2 : NS.Sm kt := by unfold NS.Sm maxLen; omega
  have cT1 := fun (w' : World) (hb : Below w.heap.size w w') => target_tm pf kf df hkf w' (h.keep hb) dpf hdf
  have cT2 := fun (w' : World) (hb : Below w.heap.size w w') => target_tm pt kt dt hkt2 w' (h.keep hb) dpt hdt
  obtain ⟨gf, mf, hAf, hpf, hdbf⟩ := h.db hdf
  obtain ⟨gt, mt, hAt, hpt, hdbt⟩ := h.db hdt
  have hqf : IS.ptr (pa A pf) = .pointer (some ⟨gf, 0, none⟩) := by rw [hpf]; rfl
  have hqt : IS.ptr (pa A pt) = .pointer (some ⟨gt, 0, none⟩) := by rw [hpt]; rfl
  simp only [hqf, hqt] at cT1 cT2 ⊢
  rw [hn] at cT1
  rw [hm] at cT2
  obtain ⟨qn, hqn⟩ := ptr_form (pa A n)
  obtain ⟨qm, hqm⟩ := ptr_form (pa A m)
  have cF := fun w => isFile_any n (pa A n) w
  rw [pa_none h n, decide_eq_false hdn] at cF
  simp only [NS.nv, hqn, Option.isSome_some, Option.isSome_none, hqm] at cT1 cT2 cF
  have hm1 : D pf = some dpf := hdf
  obtain ⟨d1, hd1, hd1l⟩ : ∃ d1, mov1 D pf kf pt = some d1 ∧ d1.l.length < 65536 := by
    unfold mov1
    by_cases e : pt = pf
    · rw [if_pos e, hdf]
      exact ⟨_, rfl, by have := del_len kf dpf.l; have := hfew pf dpf hdf; show (del kf dpf.l).length < 65536; omega⟩
    · rw [if_neg e]
      exact ⟨dpt, hdt, by have := hfew pt dpt hdt; omega⟩
  have e1 : upd D pf (some { dpf with l := del kf dpf.l }) = mov1 D pf kf := upd_map D pf hdf (fun d => { d with l := del kf d.l })
  have e2 : upd (mov1 D pf kf) pt (some { d1 with l := put kt n d1.l }) = mov2 D pf kf pt kt n := upd_map (mov1 D pf kf) pt hd1 (fun d => { d with l := put kt n d.l })
  have hlow := h.low
  have cR := W_hid (fun (w' : World) (hb : Below w.heap.size w w') => remove_any base gf mf dpf.up (pa A dpf.up) (nm A dpf.l) kf hkf w' (hdbf.keep hb) (h.ge.2 pf gf mf hAf).2.1)
  have cU := W_hid (fun (w' : World) (hT : TM base w' tg sg mb A (mov1 D pf kf)) => by
    obtain ⟨q1, q2⟩ := hT.dir pt gt mt d1 hAt hd1
    have := put_any base gt mt d1.up (pa A d1.up) (nm A d1.l) kt hkt n (pa A n) w' ⟨q1, q2⟩ (h.ge.2 pt gt mt hAt).2.1 (made_few rfl hd1l)
    unfold NS.nv at this
    rw [hqn] at this
    exact this)
  have hgef := h.ge.2 pf gf mf hAf
  have hget := h.ge.2 pt gt mt hAt
  have tR := W_hid (fun (w' w'' : World) (hb : Below w.heap.size w w') (hM : NS.MB w'' mf (NS.upd (nm A dpf.l) kf none)) (hK : Keeps base (One mf) w' w'') => show TM base w'' tg sg mb A (mov1 D pf kf) from by
    rw [← e1]
    exact (h.keep hb).turn hAf hdf (by rw [nm_del]; exact hM) hK)
  have tU := W_hid (fun (w' w'' : World) (hT : TM base w' tg sg mb A (mov1 D pf kf)) (hM : NS.MB w'' mt (NS.upd (nm A d1.l) kt (some (n, pa A n)))) (hK : Keeps base (One mt) w' w'') => show TM base w'' tg sg mb A (mov2 D pf kf pt kt n) from by
    rw [← e2]
    exact hT.turn hAt hd1 (by rw [nm_put]; exact hM) hK)
  obtain ⟨dn2, hdn2⟩ : ∃ d, mov2 D pf kf pt kt n n = some d := by
    unfold mov2 mov1
    cases hx : D n with
    | none => exact absurd hx hdn
    | some d =>
      by_cases h1 : n = pt
      · rw [if_pos h1]
        by_cases h2 : pt = pf
        · rw [if_pos h2, hdf]; exact ⟨_, rfl⟩
        · rw [if_neg h2, hdt]; exact ⟨_, rfl⟩
      · rw [if_neg h1]
        by_cases h2 : n = pf
        · rw [if_pos h2, hdf]; exact ⟨_, rfl⟩
        · rw [if_neg h2]; exact ⟨_, rfl⟩
  obtain ⟨gn, mn, hAn⟩ : ∃ g m, A n = some (g, m) := by
    cases hx : D n with
    | none => exact absurd hx hdn
    | some d => obtain ⟨g, m, hA, _⟩ := h.has hx; exact ⟨g, m, hA⟩
  have e3 := upd_map (mov2 D pf kf pt kt n) n hdn2 (fun d => { d with up := pt })
  have E3 := W_hid (And.intro hdn2 (And.intro hAn (And.intro e3 hqt)))
  have HA := W_hid (And.intro hAf (And.intro hAt (And.intro hgef (And.intro hget (And.intro hlow (And.intro hP h))))))
  have hqn := W_hid hqn
  have hqm := W_hid hqm
  have cT1a := W_hid cT1
  have cT2a := W_hid cT2
  replace cF := fun w => W_hid (cF w)
  have b0 := new2 w (.cells #[.int .i64 pf, .pointer (some ⟨gf, 0, none⟩), .string kf, .bool df] 147) (.cells #[.int .i64 pt, .pointer (some ⟨gt, 0, none⟩), .string kt, .bool dt] 147)
  have k1 : Blk ((w.alloc (.cells #[.int .i64 pf, .pointer (some ⟨gf, 0, none⟩), .string kf, .bool df] 147)).alloc (.cells #[.int .i64 pt, .pointer (some ⟨gt, 0, none⟩), .string kt, .bool dt] 147)) w.heap.size 147 [.int .i64 pf, .pointer (some ⟨gf, 0, none⟩), .string kf, .bool df] := (Blk.new _ _ _ rfl).alloc _
  have k2 : Blk ((w.alloc (.cells #[.int .i64 pf, .pointer (some ⟨gf, 0, none⟩), .string kf, .bool df] 147)).alloc (.cells #[.int .i64 pt, .pointer (some ⟨gt, 0, none⟩), .string kt, .bool dt] 147)) (w.heap.size + 1) 147 [.int .i64 pt, .pointer (some ⟨gt, 0, none⟩), .string kt, .bool dt] := Blk.new _ _ _ (by simp)
  have K0 := W_hid (And.intro b0 (And.intro k1 k2))
  clear h hP hdf hdt hn hdbf hdbt hpf hpt hqf hqt hd1 hd1l e1 e2 hgef hget hlow hAf hAt b0 k1 k2 cT1 cT2 hm1 hfew hdn hdn2 hAn e3
  go_enter Tryz.func82, Tryz.ntmps82
  go_wp2_with fail
  refine (cT1a.out _ K0.out.1).mono ?_
  rintro e w1 ⟨rfl, b1⟩
  have b2 := K0.out.1.trans (b1.mono K0.out.1.size)
  have nb : Blk (w1.alloc (.cells #[.int .i64 n, .pointer qn] 141)) w1.heap.size 141 [.int .i64 n, .pointer qn] := Blk.new _ _ _ rfl
  have K1 := W_hid (And.intro (b2.alloc b2.size (.cells #[.int .i64 n, .pointer qn] 141)) (And.intro ((K0.out.2.1.keep b1).alloc (.cells #[.int .i64 n, .pointer qn] 141)) (And.intro ((K0.out.2.2.keep b1).alloc (.cells #[.int .i64 n, .pointer qn] 141)) nb)))
  have t0 := K1.out.2.2.1.cell (j := 0) rfl
  have t1 := K1.out.2.2.1.cell (j := 1) rfl
  have t2 := K1.out.2.2.1.cell (j := 2) rfl
  have t3 := K1.out.2.2.1.cell (j := 3) rfl
  clear b1 b2 nb K0 cT1a
  go_wp2_with fail
  refine (cT2a.out _ K1.out.1).mono ?_
  rintro e w2 ⟨rfl, b3⟩
  have b4 := K1.out.1.trans (b3.mono K1.out.1.size)
  have b5 := b4.alloc b4.size (.cells #[.int .i64 m, .pointer qm] 141)
  have mb3 : Blk (w2.alloc (.cells #[.int .i64 m, .pointer qm] 141)) w2.heap.size 141 [.int .i64 m, .pointer qm] := Blk.new _ _ _ rfl
  have hT2 := HA.out.2.2.2.2.2.2.keep b5
  have hne := node_eq _ m n (pa A m) (pa A n) (pa_isDir hT2 m) (pa_isDir hT2 n)
  rw [show IS.ptr (pa A m) = .pointer qm from hqm.out, hqn.out, decide_eq_false (fun h => hmn h.1)] at hne
  have K2 := W_hid (And.intro b5 (And.intro ((K1.out.2.1.keep b3).alloc (.cells #[.int .i64 m, .pointer qm] 141)) (And.intro ((K1.out.2.2.1.keep b3).alloc (.cells #[.int .i64 m, .pointer qm] 141)) (And.intro ((K1.out.2.2.2.keep b3).alloc (.cells #[.int .i64 m, .pointer qm] 141)) mb3))))
  have m0 := mb3.cell (j := 0) rfl
  have m1 := mb3.cell (j := 1) rfl
  have n0 := K2.out.2.2.2.1.cell (j := 0) rfl
  have n1 := K2.out.2.2.2.1.cell (j := 1) rfl
  have f1 := K2.out.2.1.cell (j := 1) rfl
  have f2 := K2.out.2.1.cell (j := 2) rfl
  have cR1 := W_hid (cR.out _ K2.out.1)
  have hT2 := W_hid hT2
  clear b3 b4 b5 mb3 K1 t0 t1 t2 t3 cT2a cR
  go_wp2_with (with_reducible show wpList _ _ _ _ _ _; refine wpList_node rfl (.tmp 20) (.tmp 21) 141 rfl _ _ rfl rfl false hne ?_)
  refine cR1.out.mono ?_
  rintro e w3 ⟨rfl, hM3, hK3⟩
  have hT3 := tR.out _ w3 K2.out.1 hM3 hK3
  have hKK3 : Keeps base (FT A mb) w w3 := (Keeps.new K2.out.1 HA.out.2.2.2.2.1).trans (keeps_one HA.out.1 hK3)
  have hP3 : IN.PS base w3 sg mb M I L B q S := (HA.out.2.2.2.2.2.1.keep K2.out.1).keeps hK3 (by simp [One]) (by simp [One]) (by simp [One, HA.out.2.2.1.2.2.symm]) (by simp [One])
  have k3a : Blk w3 (w.heap.size + 1) 147 [.int .i64 pt, .pointer (some ⟨gt, 0, none⟩), .string kt, .bool dt] := hK3.block _ _ K2.out.2.2.1 one_cells
  have k3b : Blk w3 w1.heap.size 141 [.int .i64 n, .pointer qn] := hK3.block _ _ K2.out.2.2.2.1 one_cells
  have k3c : Blk w3 w2.heap.size 141 [.int .i64 m, .pointer qm] := hK3.block _ _ K2.out.2.2.2.2 one_cells
  have K3 := W_hid (And.intro hKK3 (And.intro hP3 (And.intro k3a (And.intro k3b (And.intro k3c hT3)))))
  have t1 := k3a.cell (j := 1) rfl
  have t2 := k3a.cell (j := 2) rfl
  have n2 := k3b.cell (j := 0) rfl
  have n3 := k3b.cell (j := 1) rfl
  have cU1 := W_hid (cU.out w3 hT3)
  clear hM3 hK3 hKK3 hP3 k3a k3b k3c hT3 K2 cR1 m0 m1 n0 n1 f1 f2 hne hT2 tR cU
  go_wp2_with fail
  refine cU1.out.mono ?_
  rintro e w4 ⟨rfl, hM4, hK4⟩
  have hT4 := tU.out _ w4 K3.out.2.2.2.2.2 hM4 hK4
  have hKK4 : Keeps base (FT A mb) w w4 := K3.out.1.trans (keeps_one HA.out.2.1 hK4)
  have hP4 : IN.PS base w4 sg mb M I L B q S := K3.out.2.1.keeps hK4 (by simp [One]) (by simp [One]) (by simp [One, HA.out.2.2.2.1.2.2.symm]) (by simp [One])
  have k4a : Blk w4 (w.heap.size + 1) 147 [.int .i64 pt, .pointer (some ⟨gt, 0, none⟩), .string kt, .bool dt] := hK4.block _ _ K3.out.2.2.1 one_cells
  have k4b : Blk w4 w1.heap.size 141 [.int .i64 n, .pointer qn] := hK4.block _ _ K3.out.2.2.2.1 one_cells
  have k4c : Blk w4 w2.heap.size 141 [.int .i64 m, .pointer qm] := hK4.block _ _ K3.out.2.2.2.2.1 one_cells
  have K4 := W_hid (And.intro hKK4 (And.intro hP4 (And.intro k4a (And.intro k4b (And.intro k4c hT4)))))
  have n4 := k4b.cell (j := 0) rfl
  have n5 := k4b.cell (j := 1) rfl
  clear hM4 hK4 hKK4 hP4 k4a k4b k4c hT4 K3 cU1 t1 t2 n2 n3 tU
  go_wp2_with fail
  refine (cF _).out.mono ?_
  rintro e w5 ⟨rfl, b6⟩
  have hKK5 : Keeps base (FT A mb) w w5 := K4.out.1.trans (Keeps.new b6 K4.out.2.2.2.2.2.low)
  have hT5 := K4.out.2.2.2.2.2.keep b6
  have hP5 := K4.out.2.1.keep b6
  have k5a := K4.out.2.2.1.keep b6
  have k5b := K4.out.2.2.2.1.keep b6
  have k5c := K4.out.2.2.2.2.1.keep b6
  have hqn2 : qn = some ⟨gn, 0, none⟩ := by have := hqn.out; unfold pa at this; rw [E3.out.2.1] at this; simpa [IS.ptr] using this.symm
  subst hqn2
  have hset := hT5.setUp E3.out.2.1 E3.out.1 pt
  rw [E3.out.2.2.2] at hset
  have gb : ∃ l0 l1 l2, Blk w5 gn 163 [l0, l1, l2] := ⟨_, _, _, (hT5.dir n gn mn dn2 E3.out.2.1 E3.out.1).1⟩
  obtain ⟨l0, l1, l2, gb⟩ := gb
  have g0 := gb.cell (j := 0) rfl
  have g1 := gb.cell (j := 1) rfl
  have g2 := gb.fz
  have z1 := k5b.cell (j := 1) rfl
  have z2 := k5a.cell (j := 0) rfl
  have z3 := k5a.cell (j := 1) rfl
  have hT6 : TM base ((w5.setCell ⟨gn, 0, none⟩ (.int .i64 pt)).setCell ⟨gn, 1, none⟩ (.pointer (some ⟨gt, 0, none⟩))) tg sg mb A (movD D pf kf pt kt n) := by
    have := hset.1
    rw [E3.out.2.2.1] at this
    exact this
  have hP6 := hP5.keeps hset.2 (fun _ _ _ => oned_cells (by decide)) (fun _ _ _ => oned_cells (by decide)) (fun es c h => by obtain ⟨_, _, _, h⟩ := h; cases h) (fun _ _ => oned_cells (by decide))
  have k6c : Blk ((w5.setCell ⟨gn, 0, none⟩ (.int .i64 pt)).setCell ⟨gn, 1, none⟩ (.pointer (some ⟨gt, 0, none⟩))) w2.heap.size 141 [.int .i64 m, .pointer qm] := hset.2.block _ _ k5c (oned_cells (by decide))
  have K6 := W_hid (And.intro (hKK5.trans (keeps_dir E3.out.2.1 hset.2)) (And.intro hP6 (And.intro hT6 k6c)))
  obtain ⟨W, hW⟩ : ∃ W, (w5.setCell ⟨gn, 0, none⟩ (.int .i64 pt)).setCell ⟨gn, 1, none⟩ (.pointer (some ⟨gt, 0, none⟩)) = W := ⟨_, rfl⟩
  have K7 := W_hid (show Keeps base (FT A mb) w W ∧ IN.PS base W sg mb M I L B q S ∧ TM base W tg sg mb A (movD D pf kf pt kt n) ∧ Blk W w2.heap.size 141 [.int .i64 m, .pointer qm] from by rw [← hW]; exact K6.out)
  clear hKK5 hT5 hP5 k5a k5b k5c b6 K4 n4 n5 hset gb hT6 hP6 k6c
  go_wp2_with fail
  try rw [hW]
  have cL := W_hid (IN.Unlink_any m _ (show IN.PS base W.drew sg mb M I L B q S from ⟨K7.out.2.1.pm.drew1, K7.out.2.1.fn, K7.out.2.1.lim⟩) hm64 hq)
  have x0 := K7.out.2.2.1.box.cell (j := 0) rfl
  have x1 := K7.out.2.2.2.cell (j := 0) rfl
  go_region_held3 (fun w' => w'.cell? ⟨tg, 0, none⟩ = some (.pointer (some ⟨sg, 0, none⟩)) ∧ w'.cell? ⟨w2.heap.size, 0, none⟩ = some (.int .i64 m)) (first | assumption | go_keep)
    (first
      | (go_at_call 148; refine cL.out.mono ?_; rintro e w8 ⟨rfl, hP8, hK8⟩; have hT8 := K7.out.2.2.1.store (w' := w8) hK8.undrew; have S8 : w8.cell? ⟨tg, 0, none⟩ = some (.pointer (some ⟨sg, 0, none⟩)) ∧ w8.cell? ⟨w2.heap.size, 0, none⟩ = some (.int .i64 m) := ⟨hT8.box.cell (j := 0) rfl, (show Blk w8 w2.heap.size 141 [.int .i64 m, .pointer qm] from hK8.undrew.block _ _ K7.out.2.2.2 (by simp [IN.PT])).cell (j := 0) rfl⟩))
  all_goals
    have hfin := W_hid (show (∃ M', IN.PS base w8 sg mb M' I L B q (IN.ulS S m)) ∧ TM base w8 tg sg mb A (movD D pf kf pt kt n) ∧ Keeps base (FT A mb) w w8 from ⟨hP8, hT8, K7.out.1.trans (keeps_store hK8.undrew)⟩)
    clear hT8 S8 hP8 hK8
    go_wp2_with fail
    go_end0
    exact ⟨rfl, hfin.out⟩
end
end NT
namespace NT
open IN (Keeps)
theorem blt_irr (a : ByteArray) : blt a a = false := by
  cases h : blt a a with
  | false => rfl
  | true => exact absurd ((NS.blt_iff a a).1 h) (List.lt_irrefl _)
theorem blt_asy {a b : ByteArray} (h : blt a b = true) : blt b a = false := by
  cases h2 : blt b a with
  | false => rfl
  | true => exact absurd ((NS.blt_iff b a).1 h2) (List.lt_asymm ((NS.blt_iff a b).1 h))
theorem blt_tr {a b c : ByteArray} (h : blt a b = true) (k : blt b c = true) : blt a c = true := (NS.blt_iff a c).2 (List.lt_trans ((NS.blt_iff a b).1 h) ((NS.blt_iff b c).1 k))
theorem blt_tot {a b : ByteArray} (h : blt a b = false) (hne : a ≠ b) : blt b a = true := by
  rw [NS.blt_iff]
  have h1 : ¬ a.data.toList < b.data.toList := fun e => by rw [(NS.blt_iff a b).2 e] at h; cases h
  have h2 : b.data.toList ≤ a.data.toList := List.not_lt.1 h1
  rcases List.le_iff_lt_or_eq.1 h2 with h3 | h3
  · exact h3
  · exact absurd (ByteArray.ext (Array.toList_inj.1 h3)).symm hne
def Asc (l : List (ByteArray × Int)) : Prop := l.Pairwise fun a b => blt a.1 b.1 = true
theorem asc_eq : ∀ (a b : List ByteArray), a.Pairwise (fun x y => blt x y = true) → b.Pairwise (fun x y => blt x y = true) → (∀ x, x ∈ a ↔ x ∈ b) → a = b
  | [], b, _, _, h => by
    cases b with
    | nil => rfl
    | cons y b => exact absurd ((h y).2 (List.mem_cons_self)) (by simp)
  | x :: a, [], _, _, h => absurd ((h x).1 (List.mem_cons_self)) (by simp)
  | x :: a, y :: b, ha, hb, h => by
    obtain ⟨a1, a2⟩ := List.pairwise_cons.1 ha
    obtain ⟨b1, b2⟩ := List.pairwise_cons.1 hb
    have e : x = y := by
      rcases List.mem_cons.1 ((h x).1 List.mem_cons_self) with e | e
      · exact e
      · rcases List.mem_cons.1 ((h y).2 List.mem_cons_self) with e2 | e2
        · exact e2.symm
        · have h1 := b1 x e
          have h2 := blt_asy (a1 y e2)
          rw [h1] at h2; cases h2
    subst e
    have hx : ∀ {c : List ByteArray}, (∀ z ∈ c, blt x z = true) → x ∉ c := fun hc hm => by
      have := hc x hm
      rw [blt_irr] at this; cases this
    rw [asc_eq a b a2 b2 fun z => by
      have h3 := h z
      simp only [List.mem_cons] at h3
      constructor
      · intro hz
        rcases h3.1 (.inr hz) with e | e
        · subst e; exact absurd hz (hx a1)
        · exact e
      · intro hz
        rcases h3.2 (.inr hz) with e | e
        · subst e; exact absurd hz (hx b1)
        · exact e]
theorem look_asc : ∀ {l : List (ByteArray × Int)}, Asc l → ∀ x ∈ l, look x.1 l = some x.2
  | [], _, x, hx => by cases hx
  | y :: l, h, x, hx => by
    obtain ⟨h1, h2⟩ := List.pairwise_cons.1 h
    unfold look
    rcases List.mem_cons.1 hx with rfl | hm
    · rw [if_pos rfl]
    · have hb := h1 x hm
      rw [if_neg (fun e => by rw [e, blt_irr] at hb; cases hb)]
      exact look_asc h2 x hm
theorem nm_mem (A : Int → Option (Nat × Nat)) (l : List (ByteArray × Int)) (k : ByteArray) : nm A l k ≠ none ↔ k ∈ l.map (·.1) := by
  unfold nm
  constructor
  · intro h
    cases e : look k l with
    | none => rw [e] at h; exact absurd rfl h
    | some n => exact List.mem_map.2 ⟨(k, n), look_mem e, rfl⟩
  · intro h
    obtain ⟨x, hx, rfl⟩ := List.mem_map.1 h
    have := look_some (k := x.1) (n := x.2) hx
    cases e : look x.1 l with
    | none => exact absurd e this
    | some n => simp
def lcl (D : Ds) (l : List (ByteArray × Int)) : List Value := l.flatMap fun x => [.string x.1, .int .i64 x.2, .int .i64 (if D x.2 = none then 1 else 2)]
theorem ncl_lcl {A : Int → Option (Nat × Nat)} {D : Ds} (hdom : ∀ n, A n = none ↔ D n = none) {L : List (ByteArray × Int)} (hL : ∀ x ∈ L, look x.1 L = some x.2) : ∀ l : List (ByteArray × Int), (∀ x ∈ l, x ∈ L) → ncl (nm A L) (l.map (·.1)) = lcl D l
  | [], _ => rfl
  | x :: l, h => by
    have ih := ncl_lcl hdom hL l fun y hy => h y (List.mem_cons_of_mem _ hy)
    have h1 := hL x (h x List.mem_cons_self)
    unfold ncl lcl at ih ⊢
    rw [List.map_cons, List.flatMap_cons, List.flatMap_cons, ih]
    unfold ncl1 nm pa
    rw [h1]
    have h2 := hdom x.2
    simp only [Option.map_some, Option.getD_some, Option.map_eq_none_iff]
    by_cases e : A x.2 = none
    · rw [if_pos e, if_pos (h2.1 e)]
    · rw [if_neg e, if_neg (fun e2 => e (h2.2 e2))]
def listR (D : Ds) (s : ByteArray) : Except Int (List (ByteArray × Int)) := match findR D s with
  | .error e => .error e
  | .ok n => match D n with
    | none => .error 13
    | some d => .ok d.l
def li : Except Int (List (ByteArray × Int)) → List (ByteArray × Int)
  | .ok l => l
  | .error _ => []
section
variable {base : Nat} {w w' : World} {tg sg mb : Nat} {A : Int → Option (Nat × Nat)} {D : Ds}
theorem list_tm (w : World) (h : TM base w tg sg mb A D) {n : Int} {d : Dr} (hD : D n = some d) (ha : Asc d.l) (hf : d.l.length < 65536) :
    ∃ g, pa A n = some g ∧ Calls Tryz.prog 84 #[.pointer (some ⟨g, 0, none⟩)] w fun e w' => ∃ v, e = .returned v ∧ w'.ownsRow w.heap.size 133 3 v d.l.length (lcl D d.l) ∧ Below w.heap.size w w' := by
  obtain ⟨g, m, hA, hB, hM⟩ := h.has hD
  have hn : (d.l.map (·.1)).Pairwise (fun a b => blt a b = true) := List.pairwise_map.2 ha
  have hnd : NS.Nums (nm A d.l) (d.l.map (·.1)) := ⟨hn.imp (fun {a b} hab e => by subst e; rw [blt_irr] at hab; cases hab), fun k => (nm_mem A d.l k).symm⟩
  refine ⟨g, by unfold pa; rw [hA]; rfl, ?_⟩
  refine (list_any g m d.up (pa A d.up) (nm A d.l) w ⟨hB, hM⟩ (fun ss hs => by rw [hs.len_eq hnd, List.length_map]; exact hf)).mono ?_
  rintro e w' ⟨v, l, rfl, hN, hp, hown, hb⟩
  have e : l = d.l.map (·.1) := asc_eq l _ hp hn fun x => by rw [hN.2 x, hnd.2 x]
  subst e
  rw [ncl_lcl h.dom (look_asc ha) d.l (fun x hx => hx), List.length_map] at hown
  exact ⟨v, rfl, hown, hb⟩
set_option maxRecDepth 100000 in
set_option maxHeartbeats 4000000 in
theorem List_any (s : ByteArray) (hs : s.size ≤ maxLen) (w : World) (h : TM base w tg sg mb A D) (ha : ∀ n d, D n = some d → Asc d.l ∧ d.l.length < 65536) :
    Calls Tryz.prog 28 #[.pointer (some ⟨tg, 0, none⟩), .string s] w fun e w' => ∃ v, e = .returned (.tuple #[v, .int .i64 (er (listR D s))]) ∧ w'.ownsRow w.heap.size 133 3 v (li (listR D s)).length (lcl D (li (listR D s))) ∧ Below w.heap.size w w' := by
  have cN := W_hid (none_some w h)
  have cP := fun w => W_hid (parsed (w := w) hs)
  have cF := fun (ao : Option Addr) (n cap : Nat) (w' : World) (hb : Below w.heap.size w w') (hl : SS w' ao n cap (PM.pN s)) => find_any (PM.pA s) (PM.pD s) (PM.pN s) ao n cap w' (h.keep hb) hl (pN_sm s)
  obtain ⟨pe, hpe⟩ : ∃ pe, PM.perr s = pe := ⟨_, rfl⟩
  have hf : findR D s = if pe = 0 then find D (PM.pN s) (PM.pD s) else .error pe := by unfold findR; rw [hpe]
  rw [hpe] at cP
  have hr : ∀ R, findR D s = R → listR D s = match R with
      | .error e => .error e
      | .ok n => match D n with
        | none => .error 13
        | some d => .ok d.l := fun R hR => by unfold listR; rw [hR]
  generalize PM.pN s = l at cP hf cF
  generalize PM.pD s = d at cP hf cF
  generalize PM.pA s = a at cP cF
  by_cases h0 : pe = 0
  · subst h0
    rw [if_pos rfl] at hf
    have hr := hr _ hf
    have cI := W_hid (fun n x w => isFile_any n x w)
    have her : ∀ e, find D l d = .error e → e ≠ 0 := fun e => find_er
    generalize find D l d = R at cF hr her
    cases R with
    | error e0 =>
      have hne : (e0 == 0) = false := by simpa using her e0 rfl
      simp only at hr
      rw [hr]
      simp only [rv, er, NS.nv, IS.ptr] at cF ⊢
      replace cF := W_hid cF
      clear h ha hr her hf hpe
      go_enter Tryz.func28, Tryz.ntmps28
      go_wp2_with fail
      refine cN.out.mono ?_
      rintro e w1 ⟨rfl, b1⟩
      have B1 := W_hid b1
      clear b1 cN
      go_wp2_with fail
      refine (cP _).out.mono ?_
      rintro e w2 ⟨ao, n, cap, rfl, hS, b2⟩
      have b2' : Below w.heap.size w w2 := B1.out.trans (b2.mono B1.out.size)
      have b3 := b2'.alloc b2'.size (.cells #[.bool a, .slice ao n cap, .bool d] 136)
      have p2 : Blk (w2.alloc (.cells #[.bool a, .slice ao n cap, .bool d] 136)) w2.heap.size 136 [.bool a, .slice ao n cap, .bool d] := Blk.new _ _ _ rfl
      have cF1 := W_hid (cF.out ao n cap _ b3 (hS.alloc _))
      have c0 := p2.cell (j := 0) rfl
      have c1 := p2.cell (j := 1) rfl
      have c2 := p2.cell (j := 2) rfl
      have B3 := W_hid b3
      clear b2 b3 b2' p2 hS cF
      go_wp2_with fail
      refine cF1.out.mono ?_
      rintro e w3 ⟨rfl, b4⟩
      have b5 : Below w.heap.size w w3 := B3.out.trans (b4.mono B3.out.size)
      clear b4 B3
      go_wp2_with fail
      go_ret2
      exact ⟨_, rfl, World.ownsRow_nil _ _ _ _, b5.alloc b5.size _⟩
    | ok m =>
      cases hD : D m with
      | none =>
        simp only [hD] at hr
        rw [hr]
        have hpa : pa A m = none := by unfold pa; rw [(h.dom m).2 hD]; rfl
        simp only [rv, er, NS.nv, hpa, IS.ptr] at cF ⊢
        replace cF := W_hid cF
        have cI1 := W_hid (fun w => cI.out m none w)
        simp only [IS.ptr, Option.isNone_none] at cI1
        clear h ha hr her hf hpe hpa hD cI
        go_enter Tryz.func28, Tryz.ntmps28
        go_wp2_with fail
        refine cN.out.mono ?_
        rintro e w1 ⟨rfl, b1⟩
        have B1 := W_hid b1
        clear b1 cN
        go_wp2_with fail
        refine (cP _).out.mono ?_
        rintro e w2 ⟨ao, n, cap, rfl, hS, b2⟩
        have b2' : Below w.heap.size w w2 := B1.out.trans (b2.mono B1.out.size)
        have b3 := b2'.alloc b2'.size (.cells #[.bool a, .slice ao n cap, .bool d] 136)
        have p2 : Blk (w2.alloc (.cells #[.bool a, .slice ao n cap, .bool d] 136)) w2.heap.size 136 [.bool a, .slice ao n cap, .bool d] := Blk.new _ _ _ rfl
        have cF1 := W_hid (cF.out ao n cap _ b3 (hS.alloc _))
        have c0 := p2.cell (j := 0) rfl
        have c1 := p2.cell (j := 1) rfl
        have c2 := p2.cell (j := 2) rfl
        have B3 := W_hid b3
        clear b2 b3 b2' p2 hS cF
        go_wp2_with fail
        refine cF1.out.mono ?_
        rintro e w3 ⟨rfl, b4⟩
        have b5 : Below w.heap.size w w3 := B3.out.trans (b4.mono B3.out.size)
        clear b4 B3
        have n2 : Blk (w3.alloc (.cells #[.int .i64 m, .pointer none] 141)) w3.heap.size 141 [.int .i64 m, .pointer none] := Blk.new _ _ _ rfl
        have n0 := n2.cell (j := 0) rfl
        have n1 := n2.cell (j := 1) rfl
        have b6 := W_hid (b5.alloc b5.size (.cells #[.int .i64 m, .pointer none] 141))
        clear b5 n2
        go_wp2_with fail
        refine (cI1.out _).mono ?_
        rintro e w4 ⟨rfl, b7⟩
        go_wp2_with fail
        go_ret2
        exact ⟨_, rfl, World.ownsRow_nil _ _ _ _, b6.out.trans (b7.mono b6.out.size)⟩
      | some dd =>
        simp only [hD] at hr
        rw [hr]
        obtain ⟨g, hpa, -⟩ := list_tm w h hD (ha m dd hD).1 (ha m dd hD).2
        have cL : ∀ w1, Below w.heap.size w w1 → Calls Tryz.prog 84 #[.pointer (some ⟨g, 0, none⟩)] w1 fun e w' => ∃ v, e = .returned v ∧ w'.ownsRow w1.heap.size 133 3 v dd.l.length (lcl D dd.l) ∧ Below w1.heap.size w1 w' := fun w1 hb => by
          obtain ⟨g1, e1, h1⟩ := list_tm w1 (h.keep hb) hD (ha m dd hD).1 (ha m dd hD).2
          rw [hpa] at e1
          cases e1
          exact h1
        replace cL := W_hid cL
        simp only [rv, er, NS.nv, hpa, IS.ptr] at cF ⊢
        replace cF := W_hid cF
        have cI1 := W_hid (fun w => cI.out m (some g) w)
        simp only [IS.ptr, Option.isNone_some] at cI1
        clear h ha hr her hf hpe hpa hD cI
        go_enter Tryz.func28, Tryz.ntmps28
        go_wp2_with fail
        refine cN.out.mono ?_
        rintro e w1 ⟨rfl, b1⟩
        have B1 := W_hid b1
        clear b1 cN
        go_wp2_with fail
        refine (cP _).out.mono ?_
        rintro e w2 ⟨ao, n, cap, rfl, hS, b2⟩
        have b2' : Below w.heap.size w w2 := B1.out.trans (b2.mono B1.out.size)
        have b3 := b2'.alloc b2'.size (.cells #[.bool a, .slice ao n cap, .bool d] 136)
        have p2 : Blk (w2.alloc (.cells #[.bool a, .slice ao n cap, .bool d] 136)) w2.heap.size 136 [.bool a, .slice ao n cap, .bool d] := Blk.new _ _ _ rfl
        have cF1 := W_hid (cF.out ao n cap _ b3 (hS.alloc _))
        have c0 := p2.cell (j := 0) rfl
        have c1 := p2.cell (j := 1) rfl
        have c2 := p2.cell (j := 2) rfl
        have B3 := W_hid b3
        clear b2 b3 b2' p2 hS cF
        go_wp2_with fail
        refine cF1.out.mono ?_
        rintro e w3 ⟨rfl, b4⟩
        have b5 : Below w.heap.size w w3 := B3.out.trans (b4.mono B3.out.size)
        clear b4 B3
        have n2 : Blk (w3.alloc (.cells #[.int .i64 m, .pointer (some ⟨g, 0, none⟩)] 141)) w3.heap.size 141 [.int .i64 m, .pointer (some ⟨g, 0, none⟩)] := Blk.new _ _ _ rfl
        have n0 := n2.cell (j := 0) rfl
        have n1 := n2.cell (j := 1) rfl
        have b6 := W_hid (b5.alloc b5.size (.cells #[.int .i64 m, .pointer (some ⟨g, 0, none⟩)] 141))
        clear b5
        replace n2 := W_hid n2
        go_wp2_with fail
        refine (cI1.out _).mono ?_
        rintro e w4 ⟨rfl, b7⟩
        have n3 := (n2.out.keep b7).cell (j := 1) rfl
        have b8 := W_hid (b6.out.trans (b7.mono b6.out.size))
        have cL2 := W_hid (cL.out w4 b8.out)
        clear n0 n1 b7 cL
        go_wp2_with fail
        refine cL2.out.mono ?_
        rintro e w5 ⟨v, rfl, hown, b9⟩
        have hfin := W_hid (Own.low b8.out.size hown)
        clear hown
        go_wp2_with fail
        go_ret2
        exact ⟨_, rfl, hfin.out, b8.out.trans (b9.mono b8.out.size)⟩
  · rw [if_neg h0] at hf
    have hr := hr _ hf
    simp only at hr
    rw [hr]
    have hne : (pe == 0) = false := by simpa using h0
    simp only [er, li]
    clear hf hr h ha hpe cF
    go_enter Tryz.func28, Tryz.ntmps28
    go_wp2_with fail
    refine cN.out.mono ?_
    rintro e w1 ⟨rfl, b1⟩
    have B1 := W_hid b1
    clear b1 cN
    go_wp2_with fail
    refine (cP _).out.mono ?_
    rintro e w2 ⟨ao, n, cap, rfl, hS, b2⟩
    have b2' : Below w.heap.size w w2 := B1.out.trans (b2.mono B1.out.size)
    have b3 := b2'.alloc b2'.size (.cells #[.bool a, .slice ao n cap, .bool d] 136)
    have B3 := W_hid b3
    clear b2 b3 b2' hS
    go_wp2_with fail
    go_ret2
    exact ⟨_, rfl, World.ownsRow_nil _ _ _ _, B3.out⟩
end
end NT
namespace NT
open IN (Keeps)
def ulc (D : Ds) (k : ByteArray) (d : Bool) (m : Int) : Int := if PM.name k = false then 14 else match at_ D m k with
  | none => 11
  | some x => if D x ≠ none then 14 else if d = true then 13 else 0
def rmc (D : Ds) (k : ByteArray) (m : Int) : Int := if k = PM.dot then 2 else if k = PM.dots then 15 else match at_ D m k with
  | none => 11
  | some x => match D x with
    | none => 13
    | some dx => if dx.l ≠ [] then 15 else 0
def cutR (D : Ds) (s : ByteArray) (r : Int) (c : Int → Int) : Except Int Int := if PM.perr s = 0 then placeC D (PM.pN s) r c else .error (PM.perr s)
def unlR (D : Ds) (s : ByteArray) : Except Int Int := cutR D s 14 (ulc D (last (PM.pN s)) (PM.pD s))
def rmdR (D : Ds) (s : ByteArray) : Except Int Int := cutR D s 2 (rmc D (last (PM.pN s)))
def cutD (D : Ds) (p : Int) (k : ByteArray) : Ds := fun x => if x = p then (D p).map (fun d => { d with l := del k d.l }) else D x
theorem place_er2 {D : Ds} {l : List ByteArray} {r e : Int} (hr : r ≠ 0) (h : place D l r = .error e) : e ≠ 0 := by
  unfold place at h
  split at h
  · cases h; exact hr
  · split at h
    · rename_i e' he
      cases h
      exact goes_er he
    · split at h <;> cases h
      decide
theorem place_dir2 {D : Ds} {l : List ByteArray} {r m : Int} (h : place D l r = .ok m) : ∃ d, D m = some d := by
  unfold place at h
  split at h
  · cases h
  · split at h
    · cases h
    · split at h
      · cases h
      · rename_i hne
        cases h
        exact Option.ne_none_iff_exists'.1 hne
theorem placeC_er {D : Ds} {l : List ByteArray} {r e : Int} {c : Int → Int} (hr : r ≠ 0) (h : placeC D l r c = .error e) : e ≠ 0 := by
  unfold placeC at h
  split at h
  · rename_i e' he
    cases h
    exact place_er2 hr he
  · split at h
    · cases h
    · rename_i hne
      cases h
      exact hne
theorem placeC_ok {D : Ds} {l : List ByteArray} {r m : Int} {c : Int → Int} (h : placeC D l r c = .ok m) : place D l r = .ok m ∧ c m = 0 := by
  unfold placeC at h
  split at h
  · cases h
  · split at h
    · rename_i he hc
      cases h
      exact ⟨he, hc⟩
    · cases h
section
variable {base : Nat} {w w' : World} {tg sg mb : Nat} {A : Int → Option (Nat × Nat)} {D : Ds}
theorem enters_unl1 : ∀ args w, (callFunc 91 args).run Tryz.prog w = .ok (.enter 91 args) w := fun args w => by kernel_rfl
theorem enters_rmd1 : ∀ args w, (callFunc 94 args).run Tryz.prog w = .ok (.enter 94 args) w := fun args w => by kernel_rfl
theorem ulc_nm (h : TM base w tg sg mb A D) {m : Int} {d : Dr} (hD : D m = some d) (k : ByteArray) (b : Bool) : ulC (nm A d.l) k b = ulc D k b m := by
  unfold ulC ulc at_ nm
  rw [hD]
  cases e : look k d.l with
  | none => simp [e]
  | some x =>
    have := h.dom x
    have h2 : pa A x = none ↔ D x = none := by unfold pa; rw [Option.map_eq_none_iff]; exact this
    simp [e, h2]
theorem unl_chk (w : World) (h : TM base w tg sg mb A D) (s : ByteArray) : Chk w A D (PM.pN s) (PM.pD s) 14 91 #[] (ulc D (last (PM.pN s)) (PM.pD s)) :=
  ⟨enters_unl1, fun m hp W hb => by
    obtain ⟨d, hD⟩ := place_dir2 hp
    obtain ⟨g, mm, hA, hpa, hdb⟩ := (h.keep hb).db hD
    have := unlink1_any m g mm d.up (pa A d.up) (nm A d.l) (last (PM.pN s)) (PM.pD s) (last_sm (pN_sm s)) W hdb
    rw [ulc_nm h hD] at this
    unfold plv
    rw [hpa]
    exact this⟩
theorem rmc_nm (h : TM base w tg sg mb A D) {m : Int} {d : Dr} (hD : D m = some d) (k : ByteArray) (es : Bool) (hes : ∀ x dx, look k d.l = some x → D x = some dx → es = decide (dx.l = [])) : rmC (nm A d.l) k es = rmc D k m := by
  unfold rmC rmc at_ nm
  rw [hD]
  cases e : look k d.l with
  | none => simp [e]
  | some x =>
    have := h.dom x
    have h2 : pa A x = none ↔ D x = none := by unfold pa; rw [Option.map_eq_none_iff]; exact this
    cases hx : D x with
    | none => simp [e, h2, hx]
    | some dx =>
      have h3 := hes x dx e hx
      subst h3
      by_cases h4 : dx.l = [] <;> simp [e, h2, hx, h4]
theorem nums_nil {A : Int → Option (Nat × Nat)} {l : List (ByteArray × Int)} {ss : List ByteArray} (h : NS.Nums (nm A l) ss) : ss.length = 0 ↔ l = [] := by
  constructor
  · intro h0
    have h1 := List.eq_nil_of_length_eq_zero h0
    cases l with
    | nil => rfl
    | cons x l =>
      have := (h.2 x.1).2 ((nm_mem A _ x.1).2 (by simp))
      rw [h1] at this; cases this
  · intro h0
    subst h0
    cases ss with
    | nil => rfl
    | cons x ss => exact absurd ((h.2 x).1 List.mem_cons_self) (by simp [nm, look])
theorem rmd_chk (w : World) (h : TM base w tg sg mb A D) (s : ByteArray) : Chk w A D (PM.pN s) (PM.pD s) 2 94 #[] (rmc D (last (PM.pN s))) :=
  ⟨enters_rmd1, fun m hp W hb => by
    obtain ⟨d, hD⟩ := place_dir2 hp
    have hW := h.keep hb
    obtain ⟨g, mm, hA, hpa, hdb⟩ := hW.db hD
    have hk := last_sm (pN_sm s)
    generalize last (PM.pN s) = k at hk ⊢
    obtain ⟨es, hes⟩ : ∃ es : Bool, ∀ x dx, look k d.l = some x → D x = some dx → es = decide (dx.l = []) := by
      cases e : look k d.l with
      | none => exact ⟨true, fun x dx h => by cases h⟩
      | some x =>
        cases hx : D x with
        | none => exact ⟨true, fun y dx h1 h2 => by cases h1; rw [hx] at h2; cases h2⟩
        | some dx => exact ⟨decide (dx.l = []), fun y dy h1 h2 => by cases h1; rw [hx] at h2; cases h2; rfl⟩
    have := rmdir1_any m g mm d.up (pa A d.up) (nm A d.l) k (PM.pD s) es hk W hdb fun x g2 hx => by
      unfold nm at hx
      cases e : look k d.l with
      | none => rw [e] at hx; cases hx
      | some y =>
        rw [e] at hx
        simp only [Option.map_some, Option.some.injEq, Prod.mk.injEq] at hx
        obtain ⟨rfl, hx⟩ := hx
        have hy : D y ≠ none := fun e2 => by
          unfold pa at hx
          rw [(h.dom y).2 e2] at hx; cases hx
        obtain ⟨dy, hDy⟩ := Option.ne_none_iff_exists'.1 hy
        obtain ⟨g3, m3, hA3, hpa3, hdb3⟩ := hW.db hDy
        rw [hpa3] at hx
        cases hx
        obtain ⟨ss, hss⟩ := hdb3.2.nums
        refine ⟨_, _, _, _, ss, hdb3, hss, ?_⟩
        rw [hes y dy e hDy]
        rw [decide_eq_decide]
        exact (nums_nil hss).symm
    rw [rmc_nm h hD k es hes] at this
    unfold plv
    rw [hpa]
    exact this⟩
end
end NT
namespace NT
open IN (Keeps)
section
variable {base : Nat} {w w' : World} {tg sg mb I L B q : Nat} {A : Int → Option (Nat × Nat)} {D : Ds} {M : Int → Option Nat} {S : Int → Option IN.Nd}
def Num64 (D : Ds) : Prop := ∀ m d, D m = some d → ∀ k j, look k d.l = some j → IS.I64 j
theorem cutD_upd {D : Ds} {p : Int} {d : Dr} (h : D p = some d) (k : ByteArray) : upd D p (some { d with l := del k d.l }) = cutD D p k := upd_map D p h fun d => { d with l := del k d.l }
theorem ulc_ok {D : Ds} {k : ByteArray} {d : Bool} {m : Int} (h : ulc D k d m = 0) : ∃ j, at_ D m k = some j ∧ D j = none := by
  unfold ulc at h
  split at h
  · cases h
  · split at h
    · cases h
    · rename_i x hx
      split at h
      · cases h
      · rename_i hD
        exact ⟨x, hx, Decidable.not_not.1 hD⟩
theorem rmc_ok {D : Ds} {k : ByteArray} {m : Int} (h : rmc D k m = 0) : ∃ j dj, at_ D m k = some j ∧ D j = some dj ∧ dj.l = [] := by
  unfold rmc at h
  split at h
  · cases h
  · split at h
    · cases h
    · split at h
      · cases h
      · rename_i x hx
        split at h
        · cases h
        · rename_i dx hD
          split at h
          · cases h
          · rename_i hl
            exact ⟨x, dx, hx, hD, Decidable.not_not.1 hl⟩
theorem at_look {D : Ds} {p j : Int} {k : ByteArray} (h : at_ D p k = some j) : ∃ d, D p = some d ∧ look k d.l = some j := by
  unfold at_ at h
  split at h
  · cases h
  · rename_i d hd
    exact ⟨d, hd, h⟩
theorem cut_all (w : World) (h : TM base w tg sg mb A D) (hP : IN.PS base w sg mb M I L B q S) (hq : q < 1000000) (h64 : Num64 D) (s : ByteArray) (hs : s.size ≤ maxLen) (r : Int) (hr : r ≠ 0) (f : Nat) (c : Int → Int) (hC : Chk w A D (PM.pN s) (PM.pD s) r f #[] c) (hc : ∀ m, c m = 0 → ∃ j, at_ D m (last (PM.pN s)) = some j) :
    Calls Tryz.prog 90 #[.pointer (some ⟨tg, 0, none⟩), .string s, .int .i64 r, .func (.func f) #[] #[]] w fun e w' => match cutR D s r c with
      | .error e0 => e = .returned (.int .i64 e0) ∧ Below w.heap.size w w'
      | .ok p => ∃ j, at_ D p (last (PM.pN s)) = some j ∧ c p = 0 ∧ e = .returned (.int .i64 0) ∧ (∃ M', IN.PS base w' sg mb M' I L B q (IN.ulS S j)) ∧ TM base w' tg sg mb A (cutD D p (last (PM.pN s))) ∧ Keeps base (FT A mb) w w' := by
  unfold cutR
  by_cases h0 : PM.perr s = 0
  · rw [if_pos h0]
    cases hv : placeC D (PM.pN s) r c with
    | error e0 => exact cut_no s hs r f #[] c w h h0 hC e0 hv (placeC_er hr hv)
    | ok p =>
      obtain ⟨hp, hc0⟩ := placeC_ok hv
      obtain ⟨j, hj⟩ := hc p hc0
      obtain ⟨d, hD, hl⟩ := at_look hj
      refine (cut_yes I L B q M S s hs r f #[] c w h hP hq h0 hC p hv d hD j hl (h64 p d hD _ j hl)).mono ?_
      rintro e w' ⟨rfl, h1, h2, h3⟩
      rw [cutD_upd hD] at h2
      exact ⟨j, hj, hc0, rfl, h1, h2, h3⟩
  · rw [if_neg h0]
    exact cut_parse s hs r (.func f) #[] #[] w h h0
set_option maxRecDepth 100000 in
set_option maxHeartbeats 2000000 in
theorem Unlink_any (w : World) (h : TM base w tg sg mb A D) (hP : IN.PS base w sg mb M I L B q S) (hq : q < 1000000) (h64 : Num64 D) (s : ByteArray) (hs : s.size ≤ maxLen) :
    Calls Tryz.prog 31 #[.pointer (some ⟨tg, 0, none⟩), .string s] w fun e w' => match unlR D s with
      | .error e0 => Did base tg sg mb I L B q A w e0 S D e w'
      | .ok p => ∃ j, at_ D p (last (PM.pN s)) = some j ∧ D j = none ∧ Did base tg sg mb I L B q A w 0 (IN.ulS S j) (cutD D p (last (PM.pN s))) e w' := by
  have c := cut_all w h hP hq h64 s hs 14 (by decide) 91 _ (unl_chk w h s) (fun m hm => by obtain ⟨j, hj, -⟩ := ulc_ok hm; exact ⟨j, hj⟩)
  have c2 : Hid (Calls Tryz.prog 90 #[.pointer (some ⟨tg, 0, none⟩), .string s, .int .i64 14, .func (.func 91) #[] #[]] w fun e w' => (∃ r, e = .returned (.int .i64 r)) ∧ (match unlR D s with
      | .error e0 => Did base tg sg mb I L B q A w e0 S D e w'
      | .ok p => ∃ j, at_ D p (last (PM.pN s)) = some j ∧ D j = none ∧ Did base tg sg mb I L B q A w 0 (IN.ulS S j) (cutD D p (last (PM.pN s))) e w')) := W_hid (c.mono fun e w' hh => by
    show _ ∧ (match cutR D s 14 (ulc D (last (PM.pN s)) (PM.pD s)) with | .error e0 => _ | .ok p => _)
    cases hv : cutR D s 14 (ulc D (last (PM.pN s)) (PM.pD s)) with
    | error e0 =>
      rw [hv] at hh
      obtain ⟨rfl, hb⟩ := hh
      exact ⟨⟨_, rfl⟩, did_same h hP hb e0⟩
    | ok p =>
      rw [hv] at hh
      obtain ⟨j, hj, hc0, rfl, h1, h2, h3⟩ := hh
      obtain ⟨j2, hj2, hn⟩ := ulc_ok hc0
      rw [hj] at hj2
      cases hj2
      exact ⟨⟨_, rfl⟩, j, hj, hn, rfl, h1, ⟨A, h2⟩, h3⟩)
  obtain ⟨X, hX⟩ : ∃ X : Ending → World → Prop, (fun e w' => match unlR D s with
      | .error e0 => Did base tg sg mb I L B q A w e0 S D e w'
      | .ok p => ∃ j, at_ D p (last (PM.pN s)) = some j ∧ D j = none ∧ Did base tg sg mb I L B q A w 0 (IN.ulS S j) (cutD D p (last (PM.pN s))) e w') = X := ⟨_, rfl⟩
  rw [hX]
  have c3 : Hid (Calls Tryz.prog 90 #[.pointer (some ⟨tg, 0, none⟩), .string s, .int .i64 14, .func (.func 91) #[] #[]] w fun e w' => (∃ r, e = .returned (.int .i64 r)) ∧ X e w') := W_hid (by rw [← hX]; exact c2.out)
  clear c c2 h hP hX
  go_enter Tryz.func31, Tryz.ntmps31
  go_wp2_with fail
  refine c3.out.mono ?_
  rintro e w1 ⟨⟨r, rfl⟩, hx⟩
  go_wp2_with fail
  exact hx
set_option maxRecDepth 100000 in
set_option maxHeartbeats 2000000 in
theorem Rmdir_any (w : World) (h : TM base w tg sg mb A D) (hP : IN.PS base w sg mb M I L B q S) (hq : q < 1000000) (h64 : Num64 D) (s : ByteArray) (hs : s.size ≤ maxLen)
    (hsh : ∀ p j, at_ D p (last (PM.pN s)) = some j → (∃ dj, D j = some dj ∧ dj.l = []) → j ≠ 1 ∧ ∀ m d, cutD D p (last (PM.pN s)) m = some d → m ≠ j → d.up ≠ j ∧ ∀ k, look k d.l ≠ some j) :
    Calls Tryz.prog 32 #[.pointer (some ⟨tg, 0, none⟩), .string s] w fun e w' => match rmdR D s with
      | .error e0 => Did base tg sg mb I L B q A w e0 S D e w'
      | .ok p => ∃ j, at_ D p (last (PM.pN s)) = some j ∧ (∃ dj, D j = some dj ∧ dj.l = []) ∧ Did base tg sg mb I L B q A w 0 (IN.ulS S j) (upd (cutD D p (last (PM.pN s))) j none) e w' := by
  have c := cut_all w h hP hq h64 s hs 2 (by decide) 94 _ (rmd_chk w h s) (fun m hm => by obtain ⟨j, dj, hj, -⟩ := rmc_ok hm; exact ⟨j, hj⟩)
  have c2 : Hid (Calls Tryz.prog 90 #[.pointer (some ⟨tg, 0, none⟩), .string s, .int .i64 2, .func (.func 94) #[] #[]] w fun e w' => (∃ r, e = .returned (.int .i64 r)) ∧ (match rmdR D s with
      | .error e0 => Did base tg sg mb I L B q A w e0 S D e w'
      | .ok p => ∃ j, at_ D p (last (PM.pN s)) = some j ∧ (∃ dj, D j = some dj ∧ dj.l = []) ∧ Did base tg sg mb I L B q A w 0 (IN.ulS S j) (upd (cutD D p (last (PM.pN s))) j none) e w')) := W_hid (c.mono fun e w' hh => by
    show _ ∧ (match cutR D s 2 (rmc D (last (PM.pN s))) with | .error e0 => _ | .ok p => _)
    cases hv : cutR D s 2 (rmc D (last (PM.pN s))) with
    | error e0 =>
      rw [hv] at hh
      obtain ⟨rfl, hb⟩ := hh
      exact ⟨⟨_, rfl⟩, did_same h hP hb e0⟩
    | ok p =>
      rw [hv] at hh
      obtain ⟨j, hj, hc0, rfl, h1, h2, h3⟩ := hh
      obtain ⟨j2, dj, hj2, hn, hl⟩ := rmc_ok hc0
      rw [hj] at hj2
      cases hj2
      have hs2 := hsh p j hj ⟨dj, hn, hl⟩
      exact ⟨⟨_, rfl⟩, j, hj, ⟨dj, hn, hl⟩, rfl, h1, ⟨_, h2.shrink hs2.1 hs2.2⟩, h3⟩)
  obtain ⟨X, hX⟩ : ∃ X : Ending → World → Prop, (fun e w' => match rmdR D s with
      | .error e0 => Did base tg sg mb I L B q A w e0 S D e w'
      | .ok p => ∃ j, at_ D p (last (PM.pN s)) = some j ∧ (∃ dj, D j = some dj ∧ dj.l = []) ∧ Did base tg sg mb I L B q A w 0 (IN.ulS S j) (upd (cutD D p (last (PM.pN s))) j none) e w') = X := ⟨_, rfl⟩
  rw [hX]
  have c3 : Hid (Calls Tryz.prog 90 #[.pointer (some ⟨tg, 0, none⟩), .string s, .int .i64 2, .func (.func 94) #[] #[]] w fun e w' => (∃ r, e = .returned (.int .i64 r)) ∧ X e w') := W_hid (by rw [← hX]; exact c2.out)
  clear c c2 h hP hX hsh
  go_enter Tryz.func32, Tryz.ntmps32
  go_wp2_with fail
  refine c3.out.mono ?_
  rintro e w1 ⟨⟨r, rfl⟩, hx⟩
  go_wp2_with fail
  exact hx
end
end NT
namespace NT
open IN (Keeps)
section
variable {base : Nat} {w w' : World} {tg sg mb : Nat} {A : Int → Option (Nat × Nat)} {D : Ds}
set_option maxRecDepth 100000 in
set_option maxHeartbeats 16000000 in
theorem move_same (pf pt n : Int) (kf kt : ByteArray) (df dt : Bool) (hkf : NS.Sm kf) (hkt : kt.size ≤ 281474976710656) (w : World) (h : TM base w tg sg mb A D) (dpf dpt : Dr) (hdf : D pf = some dpf) (hdt : D pt = some dpt)
    (hn : at_ D pf kf = some n) (hm : at_ D pt kt = some n) :
    Calls Tryz.prog 82 #[.pointer (some ⟨tg, 0, none⟩), .agg #[.int .i64 pf, IS.ptr (pa A pf), .string kf, .bool df], .agg #[.int .i64 pt, IS.ptr (pa A pt), .string kt, .bool dt]] w fun e w' => e = .returned (.tuple #[]) ∧ Below w.heap.size w w' := by
  have hkt2 : NS.Sm kt := by unfold NS.Sm maxLen; omega
  have cT1 := fun (w' : World) (hb : Below w.heap.size w w') => target_tm pf kf df hkf w' (h.keep hb) dpf hdf
  have cT2 := fun (w' : World) (hb : Below w.heap.size w w') => target_tm pt kt dt hkt2 w' (h.keep hb) dpt hdt
  obtain ⟨gf, mf, hAf, hpf, hdbf⟩ := h.db hdf
  obtain ⟨gt, mt, hAt, hpt, hdbt⟩ := h.db hdt
  have hqf : IS.ptr (pa A pf) = .pointer (some ⟨gf, 0, none⟩) := by rw [hpf]; rfl
  have hqt : IS.ptr (pa A pt) = .pointer (some ⟨gt, 0, none⟩) := by rw [hpt]; rfl
  simp only [hqf, hqt] at cT1 cT2 ⊢
  rw [hn] at cT1
  rw [hm] at cT2
  obtain ⟨qn, hqn⟩ := ptr_form (pa A n)
  simp only [NS.nv, hqn, Option.isSome_some, Option.isSome_none, ptr_none] at cT1 cT2
  have HA := W_hid h
  have hqn := W_hid hqn
  have cT1a := W_hid cT1
  have cT2a := W_hid cT2
  have b0 := new2 w (.cells #[.int .i64 pf, .pointer (some ⟨gf, 0, none⟩), .string kf, .bool df] 147) (.cells #[.int .i64 pt, .pointer (some ⟨gt, 0, none⟩), .string kt, .bool dt] 147)
  have k1 : Blk ((w.alloc (.cells #[.int .i64 pf, .pointer (some ⟨gf, 0, none⟩), .string kf, .bool df] 147)).alloc (.cells #[.int .i64 pt, .pointer (some ⟨gt, 0, none⟩), .string kt, .bool dt] 147)) w.heap.size 147 [.int .i64 pf, .pointer (some ⟨gf, 0, none⟩), .string kf, .bool df] := (Blk.new _ _ _ rfl).alloc _
  have k2 : Blk ((w.alloc (.cells #[.int .i64 pf, .pointer (some ⟨gf, 0, none⟩), .string kf, .bool df] 147)).alloc (.cells #[.int .i64 pt, .pointer (some ⟨gt, 0, none⟩), .string kt, .bool dt] 147)) (w.heap.size + 1) 147 [.int .i64 pt, .pointer (some ⟨gt, 0, none⟩), .string kt, .bool dt] := Blk.new _ _ _ (by simp)
  have K0 := W_hid (And.intro b0 (And.intro k1 k2))
  clear h hdf hdt hn hm hdbf hdbt hpf hpt hqf hqt hAf hAt b0 k1 k2 cT1 cT2
  go_enter Tryz.func82, Tryz.ntmps82
  go_wp2_with fail
  refine (cT1a.out _ K0.out.1).mono ?_
  rintro e w1 ⟨rfl, b1⟩
  have b2 := K0.out.1.trans (b1.mono K0.out.1.size)
  have nb : Blk (w1.alloc (.cells #[.int .i64 n, .pointer qn] 141)) w1.heap.size 141 [.int .i64 n, .pointer qn] := Blk.new _ _ _ rfl
  have K1 := W_hid (And.intro (b2.alloc b2.size (.cells #[.int .i64 n, .pointer qn] 141)) (And.intro ((K0.out.2.1.keep b1).alloc (.cells #[.int .i64 n, .pointer qn] 141)) (And.intro ((K0.out.2.2.keep b1).alloc (.cells #[.int .i64 n, .pointer qn] 141)) nb)))
  have t0 := K1.out.2.2.1.cell (j := 0) rfl
  have t1 := K1.out.2.2.1.cell (j := 1) rfl
  have t2 := K1.out.2.2.1.cell (j := 2) rfl
  have t3 := K1.out.2.2.1.cell (j := 3) rfl
  clear b1 b2 nb K0 cT1a
  go_wp2_with fail
  refine (cT2a.out _ K1.out.1).mono ?_
  rintro e w2 ⟨rfl, b3⟩
  have b4 := K1.out.1.trans (b3.mono K1.out.1.size)
  have b5 := b4.alloc b4.size (.cells #[.int .i64 n, .pointer qn] 141)
  have mb3 : Blk (w2.alloc (.cells #[.int .i64 n, .pointer qn] 141)) w2.heap.size 141 [.int .i64 n, .pointer qn] := Blk.new _ _ _ rfl
  have hT2 := HA.out.keep b5
  have hne := node_eq (w2.alloc (.cells #[.int .i64 n, .pointer qn] 141)) n n (pa A n) (pa A n) (pa_isDir hT2 n) (pa_isDir hT2 n)
  have hdd : decide (n = n ∧ pa A n = pa A n) = true := by simp
  rw [hqn.out, hdd] at hne
  have K2 := W_hid b5
  have m0 := mb3.cell (j := 0) rfl
  have m1 := mb3.cell (j := 1) rfl
  have n3 := (K1.out.2.2.2.keep b3).alloc (.cells #[.int .i64 n, .pointer qn] 141)
  have n0 := n3.cell (j := 0) rfl
  have n1 := n3.cell (j := 1) rfl
  clear b3 b4 b5 mb3 K1 t0 t1 t2 t3 cT2a hT2 n3
  go_wp2_with (with_reducible show wpList _ _ _ _ _ _; refine wpList_node rfl (.tmp 20) (.tmp 21) 141 rfl _ _ rfl rfl true hne ?_)
  refine bodyPost_ret (results_none rfl _ _ _) rfl ?_
  exact ⟨rfl, K2.out⟩
end
end NT
namespace NT
open IN (Keeps)
section
variable {base : Nat} {w w' : World} {tg sg mb : Nat} {A : Int → Option (Nat × Nat)} {D : Ds}
set_option maxRecDepth 100000 in
set_option maxHeartbeats 2000000 in
theorem ren1_any (v1 : Int) (v2 : Option Addr) (v3 : ByteArray) (v4 : Bool) (w : World) : Calls Tryz.prog 79 #[.agg #[.int .i64 v1, .pointer v2, .string v3, .bool v4]] w fun e w' => e = .returned (.int .i64 0) ∧ Below w.heap.size w w' := by
  have b0 : Below w.heap.size w (w.alloc (.cells #[.int .i64 v1, .pointer v2, .string v3, .bool v4] 147)) := (Below.refl _ w).alloc (Nat.le_refl _) _
  go_enter Tryz.func79, Tryz.ntmps79
  go_wp2_with fail
  go_ret
  exact ⟨rfl, b0⟩
set_option maxRecDepth 100000 in
set_option maxHeartbeats 4000000 in
theorem ren2_any (fb : Nat) (pf pt : Int) (kf kt : ByteArray) (df dt : Bool) (hgt : Nat) (hkf : NS.Sm kf) (hkt : NS.Sm kt) (w : World) (h : TM base w tg sg mb A D) (dpf dpt : Dr) (hdf : D pf = some dpf) (hdt : D pt = some dpt)
    (hnd : ∀ n d, D n = some d → (d.l.map (·.1)).Nodup) (h1 : ∃ dr, D 1 = some dr ∧ dr.up = 1) (hr : Reach D hgt pt) (hfb : Blk w fb 147 [.int .i64 pf, IS.ptr (pa A pf), .string kf, .bool df]) :
    Calls Tryz.prog 80 #[.agg #[.int .i64 pt, IS.ptr (pa A pt), .string kt, .bool dt], .pointer (some ⟨fb, 0, none⟩)] w fun e w' => e = .returned (.int .i64 (movV D hgt pf kf df pt kt dt)) ∧ Below w.heap.size w w' := by
  have b0 : Below w.heap.size w (w.alloc (.cells #[.int .i64 pt, IS.ptr (pa A pt), .string kt, .bool dt] 147)) := (Below.refl _ w).alloc (Nat.le_refl _) _
  have cM := movable_any pf pt kf kt df dt hgt hkf hkt _ (h.keep b0) dpf dpt hdf hdt hnd h1 hr
  have f1 := hfb.alloc (.cells #[.int .i64 pt, IS.ptr (pa A pt), .string kt, .bool dt] 147)
  obtain ⟨qf, hqf⟩ := ptr_form (pa A pf)
  obtain ⟨qt, hqt⟩ := ptr_form (pa A pt)
  rw [hqf, hqt] at cM
  rw [hqf, hqt] at f1
  rw [hqt] at b0 ⊢
  generalize movV D hgt pf kf df pt kt dt = R at cM ⊢
  have c0 := f1.cell (j := 0) rfl
  have c1 := f1.cell (j := 1) rfl
  have c2 := f1.cell (j := 2) rfl
  have c3 := f1.cell (j := 3) rfl
  replace cM := W_hid cM
  have B0 := W_hid b0
  clear h hdf hdt hnd h1 hr hfb f1 hqf hqt b0
  go_enter Tryz.func80, Tryz.ntmps80
  go_wp2_with fail
  refine cM.out.mono ?_
  rintro e w1 ⟨rfl, b1⟩
  have B1 := W_hid (B0.out.trans (b1.mono B0.out.size))
  clear b1 B0
  go_wp2_with fail
  go_ret
  exact ⟨rfl, B1.out⟩
open Classical in
noncomputable def far (D : Ds) (n : Int) : Nat := if h : ∃ k, Reach D k n then Classical.choose h else 0
theorem far_reach {D : Ds} {n : Int} {k : Nat} (h : Reach D k n) : far D n = k := by
  have he : ∃ k, Reach D k n := ⟨k, h⟩
  unfold far
  rw [dif_pos he]
  exact reach_one (Classical.choose_spec he) h
def src (D : Ds) (s : ByteArray) : Except Int Int := place D (PM.pN s) 2
noncomputable def dst (D : Ds) (s t : ByteArray) (pf : Int) : Except Int Int := placeC D (PM.pN t) 2 (fun p => movV D (far D p) pf (last (PM.pN s)) (PM.pD s) p (last (PM.pN t)) (PM.pD t))
theorem src_placeC (D : Ds) (s : ByteArray) : placeC D (PM.pN s) 2 (fun _ => 0) = src D s := by
  unfold placeC src
  cases place D (PM.pN s) 2 <;> simp
theorem dst_er {D : Ds} {s t : ByteArray} {pf e : Int} (h : dst D s t pf = .error e) : e ≠ 0 := by
  unfold dst placeC at h
  split at h
  · rename_i e' he
    cases h
    rcases place_er he with h | h
    · rw [h]; decide
    · exact h
  · split at h
    · cases h
    · rename_i hne
      cases h
      exact hne
theorem src_er {D : Ds} {s : ByteArray} {e : Int} (h : src D s = .error e) : e ≠ 0 := by
  rcases place_er h with h | h
  · rw [h]; decide
  · exact h
theorem dst_place {D : Ds} {s t : ByteArray} {pf p : Int} (h : dst D s t pf = .ok p) : place D (PM.pN t) 2 = .ok p ∧ movV D (far D p) pf (last (PM.pN s)) (PM.pD s) p (last (PM.pN t)) (PM.pD t) = 0 := by
  unfold dst placeC at h
  cases e : place D (PM.pN t) 2 with
  | error e1 => rw [e] at h; cases h
  | ok m =>
    rw [e] at h
    simp only at h
    split at h
    · cases h; exact ⟨rfl, by assumption⟩
    · cases h
set_option maxRecDepth 100000 in
set_option maxHeartbeats 4000000 in
theorem Ren_parse (s t : ByteArray) (hs : s.size ≤ maxLen) (ht : t.size ≤ maxLen) (w : World) (h : TM base w tg sg mb A D) (pe : Int) (hpe : pe ≠ 0) (he : (PM.perr s = pe) ∨ (PM.perr s = 0 ∧ PM.perr t = pe)) :
    Calls Tryz.prog 27 #[.pointer (some ⟨tg, 0, none⟩), .string s, .string t] w fun e w' => e = .returned (.int .i64 pe) ∧ Below w.heap.size w w' := by
  have cN := W_hid (none_some w h)
  have cP : Hid (∀ w, Calls Tryz.prog 77 #[.string s, .string t] w fun e w' => e = .returned (.tuple #[.agg #[.bool false, .slice none 0 0, .bool false], .agg #[.bool false, .slice none 0 0, .bool false], .int .i64 pe]) ∧ Below w.heap.size w w') := W_hid (fun w => by
    rcases he with e1 | ⟨e1, e2⟩
    · have := parse2_first s t hs w (by rw [e1]; exact hpe)
      rwa [e1] at this
    · have := parse2_second s t hs ht w e1 (by rw [e2]; exact hpe)
      rwa [e2] at this)
  have hne : (pe == 0) = false := by simpa using hpe
  clear h he hpe
  go_enter Tryz.func27, Tryz.ntmps27
  go_wp2_with fail
  refine cN.out.mono ?_
  rintro e w1 ⟨rfl, b1⟩
  have B1 := W_hid b1
  clear b1 cN
  go_wp2_with fail
  refine (cP.out _).mono ?_
  rintro e w2 ⟨rfl, b2⟩
  have b2' : Below w.heap.size w w2 := B1.out.trans (b2.mono B1.out.size)
  have B3 := W_hid ((b2'.alloc b2'.size (.cells #[.bool false, .slice none 0 0, .bool false] 136)).alloc (Nat.le_trans b2'.size (by simp)) (.cells #[.bool false, .slice none 0 0, .bool false] 136))
  clear b2 b2' B1
  go_wp2_with fail
  go_ret
  exact ⟨rfl, B3.out⟩
theorem enters_ren1 : ∀ args w, (callFunc 79 args).run Tryz.prog w = .ok (.enter 79 args) w := fun args w => by kernel_rfl
theorem enters_ren2 : ∀ args w, (callFunc 80 args).run Tryz.prog w = .ok (.enter 80 args) w := fun args w => by kernel_rfl
set_option maxRecDepth 100000 in
set_option maxHeartbeats 8000000 in
theorem Ren_none (s t : ByteArray) (hs : s.size ≤ maxLen) (ht : t.size ≤ maxLen) (w : World) (h : TM base w tg sg mb A D) (h0 : PM.perr s = 0) (h1' : PM.perr t = 0) (hl : PM.pN t = []) :
    Calls Tryz.prog 27 #[.pointer (some ⟨tg, 0, none⟩), .string s, .string t] w fun e w' => e = .returned (.int .i64 2) ∧ Below w.heap.size w w' := by
  have cN := W_hid (none_some w h)
  have cP := fun w => W_hid (parse2_yes s t hs ht w h0 h1')
  clear h h0 h1' hs ht
  generalize PM.pN s = l at *
  generalize PM.pD s = d at *
  generalize PM.pA s = a at *
  generalize PM.pN t = l2 at *
  generalize PM.pD t = d2 at *
  generalize PM.pA t = a2 at *
  go_enter Tryz.func27, Tryz.ntmps27
  go_wp2_with fail
  refine cN.out.mono ?_
  rintro e w1 ⟨rfl, b1⟩
  have B1 := W_hid b1
  clear b1 cN
  go_wp2_with fail
  refine (cP _).out.mono ?_
  rintro e w2 ⟨ao, n, cap, ao2, n2, cap2, rfl, hS1, hS2, b2⟩
  have b2' : Below w.heap.size w w2 := B1.out.trans (b2.mono B1.out.size)
  have b3 := (b2'.alloc b2'.size (.cells #[.bool a, .slice ao n cap, .bool d] 136)).alloc (Nat.le_trans b2'.size (by simp)) (.cells #[.bool a2, .slice ao2 n2 cap2, .bool d2] 136)
  have p1 : Blk ((w2.alloc (.cells #[.bool a, .slice ao n cap, .bool d] 136)).alloc (.cells #[.bool a2, .slice ao2 n2 cap2, .bool d2] 136)) w2.heap.size 136 [.bool a, .slice ao n cap, .bool d] := (Blk.new _ _ _ rfl).alloc _
  have p2 : Blk ((w2.alloc (.cells #[.bool a, .slice ao n cap, .bool d] 136)).alloc (.cells #[.bool a2, .slice ao2 n2 cap2, .bool d2] 136)) (w2.heap.size + 1) 136 [.bool a2, .slice ao2 n2 cap2, .bool d2] := Blk.new _ _ _ (by simp)
  have hn2 : l2.length = n2 := hS2.1
  have c0 := p1.cell (j := 0) rfl
  have c1 := p1.cell (j := 1) rfl
  have c2 := p1.cell (j := 2) rfl
  have d1 := p2.cell (j := 1) rfl
  have B3 := W_hid b3
  subst hl
  have hz : n2 = 0 := hn2.symm
  subst hz
  clear b2 b2' b3 B1 p1 p2 hS1 hS2 hn2
  go_wp2_with fail
  go_ret
  exact ⟨rfl, B3.out⟩
set_option maxRecDepth 100000 in
set_option maxHeartbeats 8000000 in
theorem Ren_src (s t : ByteArray) (hs : s.size ≤ maxLen) (ht : t.size ≤ maxLen) (w : World) (h : TM base w tg sg mb A D) (h0 : PM.perr s = 0) (h1' : PM.perr t = 0) (hl : PM.pN t ≠ []) (e0 : Int) (hsr : src D s = .error e0) :
    Calls Tryz.prog 27 #[.pointer (some ⟨tg, 0, none⟩), .string s, .string t] w fun e w' => e = .returned (.int .i64 e0) ∧ Below w.heap.size w w' := by
  have cN := W_hid (none_some w h)
  have cP := fun w => W_hid (parse2_yes s t hs ht w h0 h1')
  have cA := fun (ao : Option Addr) (n cap : Nat) (w' : World) (hb : Below w.heap.size w w') (hl : SS w' ao n cap (PM.pN s)) => place_all (PM.pA s) (PM.pD s) 2 (PM.pN s) ao n cap 79 #[] w' (h.keep hb) hl (pN_sm s) enters_ren1 (fun _ => 0) (fun m hp W hW => by
    obtain ⟨q, hq⟩ := ptr_form (pa A m)
    unfold plv
    rw [hq]
    exact ren1_any m q (last (PM.pN s)) (PM.pD s) W)
  rw [src_placeC] at cA
  rw [hsr] at cA
  simp only [pv, er] at cA
  have hne : (e0 == 0) = false := by simpa using src_er hsr
  replace cA := W_hid cA
  clear h h0 h1' hs ht hsr
  generalize PM.pN s = l at *
  generalize PM.pD s = d at *
  generalize PM.pA s = a at *
  generalize PM.pN t = l2 at *
  generalize PM.pD t = d2 at *
  generalize PM.pA t = a2 at *
  go_enter Tryz.func27, Tryz.ntmps27
  go_wp2_with fail
  refine cN.out.mono ?_
  rintro e w1 ⟨rfl, b1⟩
  have B1 := W_hid b1
  clear b1 cN
  go_wp2_with fail
  refine (cP _).out.mono ?_
  rintro e w2 ⟨ao, n, cap, ao2, n2, cap2, rfl, hS1, hS2, b2⟩
  have b2' : Below w.heap.size w w2 := B1.out.trans (b2.mono B1.out.size)
  have b3 := (b2'.alloc b2'.size (.cells #[.bool a, .slice ao n cap, .bool d] 136)).alloc (Nat.le_trans b2'.size (by simp)) (.cells #[.bool a2, .slice ao2 n2 cap2, .bool d2] 136)
  have p1 : Blk ((w2.alloc (.cells #[.bool a, .slice ao n cap, .bool d] 136)).alloc (.cells #[.bool a2, .slice ao2 n2 cap2, .bool d2] 136)) w2.heap.size 136 [.bool a, .slice ao n cap, .bool d] := (Blk.new _ _ _ rfl).alloc _
  have p2 : Blk ((w2.alloc (.cells #[.bool a, .slice ao n cap, .bool d] 136)).alloc (.cells #[.bool a2, .slice ao2 n2 cap2, .bool d2] 136)) (w2.heap.size + 1) 136 [.bool a2, .slice ao2 n2 cap2, .bool d2] := Blk.new _ _ _ (by simp)
  have hn2 : l2.length = n2 := hS2.1
  have c0 := p1.cell (j := 0) rfl
  have c1 := p1.cell (j := 1) rfl
  have c2 := p1.cell (j := 2) rfl
  have d1 := p2.cell (j := 1) rfl
  have hlim2 : n2 ≤ 9223372036854775807 := by have := hS2.2.1; have := hS2.2.2.1; unfold maxLen at *; omega
  have hpos : 0 < n2 := by rw [← hn2]; exact List.length_pos_iff.2 hl
  have hzb : ((n2 : Int) == 0) = false := beq_eq_false_iff_ne.2 (by omega)
  have hzd : ¬ (n2 : Int) = 0 := by omega
  have cA1 := W_hid (cA.out ao n cap _ b3 ((hS1.alloc _).alloc _))
  have P2 := W_hid (And.intro b3 (And.intro p2 ((hS2.alloc (.cells #[.bool a, .slice ao n cap, .bool d] 136)).alloc (.cells #[.bool a2, .slice ao2 n2 cap2, .bool d2] 136))))
  clear b2 b2' b3 B1 p1 p2 hS1 hS2 hn2 cA
  go_wp2_with fail
  refine cA1.out.mono ?_
  rintro e w3 ⟨rfl, b4⟩
  have b5 := P2.out.1.trans (b4.mono P2.out.1.size)
  have B5 := W_hid (b5.alloc b5.size (.cells #[.int .i64 0, .pointer none, .string ⟨#[]⟩, .bool false] 147))
  clear b4 b5 P2 cA1
  go_wp2_with fail
  go_ret
  exact ⟨rfl, B5.out⟩
set_option maxRecDepth 100000 in
set_option maxHeartbeats 8000000 in
theorem Ren_dst (s t : ByteArray) (hs : s.size ≤ maxLen) (ht : t.size ≤ maxLen) (w : World) (h : TM base w tg sg mb A D) (h0 : PM.perr s = 0) (h1' : PM.perr t = 0) (hl : PM.pN t ≠ []) (pf : Int) (hsr : src D s = .ok pf) (hnd : ∀ n d, D n = some d → (d.l.map (·.1)).Nodup) (h1 : ∃ dr, D 1 = some dr ∧ dr.up = 1) (hr : ∀ n d, D n = some d → Reach D (far D n) n) (e0 : Int) (hds : dst D s t pf = .error e0) :
    Calls Tryz.prog 27 #[.pointer (some ⟨tg, 0, none⟩), .string s, .string t] w fun e w' => e = .returned (.int .i64 e0) ∧ Below w.heap.size w w' := by
  have cN := W_hid (none_some w h)
  have cP := fun w => W_hid (parse2_yes s t hs ht w h0 h1')
  have cA := fun (ao : Option Addr) (n cap : Nat) (w' : World) (hb : Below w.heap.size w w') (hl : SS w' ao n cap (PM.pN s)) => place_all (PM.pA s) (PM.pD s) 2 (PM.pN s) ao n cap 79 #[] w' (h.keep hb) hl (pN_sm s) enters_ren1 (fun _ => 0) (fun m hp W hW => by
    obtain ⟨q, hq⟩ := ptr_form (pa A m)
    unfold plv
    rw [hq]
    exact ren1_any m q (last (PM.pN s)) (PM.pD s) W)
  rw [src_placeC] at cA
  obtain ⟨dpf, hdpf⟩ : ∃ d, D pf = some d := by
    have := place_dir (show place D (PM.pN s) 2 = .ok pf from hsr)
    cases e : D pf with
    | none => exact absurd e this
    | some d => exact ⟨d, rfl⟩
  have cB := fun (fb : Nat) (ao : Option Addr) (n cap : Nat) (w' : World) (hb : Below w.heap.size w w') (hfb : Blk w' fb 147 [.int .i64 pf, IS.ptr (pa A pf), .string (last (PM.pN s)), .bool (PM.pD s)]) (hl : SS w' ao n cap (PM.pN t)) => place_all (PM.pA t) (PM.pD t) 2 (PM.pN t) ao n cap 80 #[.pointer (some ⟨fb, 0, none⟩)] w' (h.keep hb) hl (pN_sm t) enters_ren2 (fun p => movV D (far D p) pf (last (PM.pN s)) (PM.pD s) p (last (PM.pN t)) (PM.pD t)) (fun m hp W hW => by
    have hDm := place_dir hp
    cases hdm : D m with
    | none => exact absurd hdm hDm
    | some dm => exact ren2_any fb pf m (last (PM.pN s)) (last (PM.pN t)) (PM.pD s) (PM.pD t) (far D m) (last_sm (pN_sm s)) (last_sm (pN_sm t)) W ((h.keep hb).keep hW) dpf dm hdpf hdm hnd h1 (hr m dm hdm) (hfb.keep hW))
  change ∀ (fb : Nat) (ao : Option Addr) (n cap : Nat) (w' : World), Below w.heap.size w w' → _ → _ → Calls Tryz.prog 78 _ w' fun e' w'' => e' = .returned (.tuple #[pv A (PM.pN t) (PM.pD t) (dst D s t pf), .int .i64 (er (dst D s t pf))]) ∧ Below w'.heap.size w' w'' at cB
  obtain ⟨qf, hqf⟩ := ptr_form (pa A pf)
  rw [hsr] at cA
  simp only [pv, er, plv, hqf] at cA cB
  rw [hds] at cB
  simp only [pv, er] at cB
  have hne : (e0 == 0) = false := by simpa using dst_er hds
  replace cA := W_hid cA
  replace cB := W_hid cB
  clear h h0 h1' hs ht hsr hds hdpf hqf hnd h1 hr
  generalize hz1 : last (PM.pN s) = z1 at *
  generalize PM.pN s = l at *
  generalize PM.pD s = d at *
  generalize PM.pA s = a at *
  generalize PM.pN t = l2 at *
  generalize PM.pD t = d2 at *
  generalize PM.pA t = a2 at *
  clear hz1
  go_enter Tryz.func27, Tryz.ntmps27
  go_wp2_with fail
  refine cN.out.mono ?_
  rintro e w1 ⟨rfl, b1⟩
  have B1 := W_hid b1
  clear b1 cN
  go_wp2_with fail
  refine (cP _).out.mono ?_
  rintro e w2 ⟨ao, n, cap, ao2, n2, cap2, rfl, hS1, hS2, b2⟩
  have b2' : Below w.heap.size w w2 := B1.out.trans (b2.mono B1.out.size)
  have b3 := (b2'.alloc b2'.size (.cells #[.bool a, .slice ao n cap, .bool d] 136)).alloc (Nat.le_trans b2'.size (by simp)) (.cells #[.bool a2, .slice ao2 n2 cap2, .bool d2] 136)
  have p1 : Blk ((w2.alloc (.cells #[.bool a, .slice ao n cap, .bool d] 136)).alloc (.cells #[.bool a2, .slice ao2 n2 cap2, .bool d2] 136)) w2.heap.size 136 [.bool a, .slice ao n cap, .bool d] := (Blk.new _ _ _ rfl).alloc _
  have p2 : Blk ((w2.alloc (.cells #[.bool a, .slice ao n cap, .bool d] 136)).alloc (.cells #[.bool a2, .slice ao2 n2 cap2, .bool d2] 136)) (w2.heap.size + 1) 136 [.bool a2, .slice ao2 n2 cap2, .bool d2] := Blk.new _ _ _ (by simp)
  have hn2 : l2.length = n2 := hS2.1
  have c0 := p1.cell (j := 0) rfl
  have c1 := p1.cell (j := 1) rfl
  have c2 := p1.cell (j := 2) rfl
  have d1 := p2.cell (j := 1) rfl
  have hlim2 : n2 ≤ 9223372036854775807 := by have := hS2.2.1; have := hS2.2.2.1; unfold maxLen at *; omega
  have hpos : 0 < n2 := by rw [← hn2]; exact List.length_pos_iff.2 hl
  have hzb : ((n2 : Int) == 0) = false := beq_eq_false_iff_ne.2 (by omega)
  have hzd : ¬ (n2 : Int) = 0 := by omega
  have cA1 := W_hid (cA.out ao n cap _ b3 ((hS1.alloc _).alloc _))
  have P2 := W_hid (And.intro b3 (And.intro p2 ((hS2.alloc (.cells #[.bool a, .slice ao n cap, .bool d] 136)).alloc (.cells #[.bool a2, .slice ao2 n2 cap2, .bool d2] 136))))
  clear b2 b2' b3 B1 p1 p2 hS1 hS2 hn2 cA
  go_wp2_with fail
  refine cA1.out.mono ?_
  rintro e w3 ⟨rfl, b4⟩
  have b5 := P2.out.1.trans (b4.mono P2.out.1.size)
  have b6 := b5.alloc b5.size (.cells #[.int .i64 pf, .pointer qf, .string z1, .bool d] 147)
  have q3 : Blk (w3.alloc (.cells #[.int .i64 pf, .pointer qf, .string z1, .bool d] 147)) w3.heap.size 147 [.int .i64 pf, .pointer qf, .string z1, .bool d] := Blk.new _ _ _ rfl
  have p3 := (P2.out.2.1.keep b4).alloc (.cells #[.int .i64 pf, .pointer qf, .string z1, .bool d] 147)
  have s3 := (P2.out.2.2.below b4 (Nat.le_refl _)).alloc (.cells #[.int .i64 pf, .pointer qf, .string z1, .bool d] 147)
  have cB1 := W_hid (cB.out w3.heap.size ao2 n2 cap2 _ b6 q3 s3)
  have e0' := p3.cell (j := 0) rfl
  have e1' := p3.cell (j := 1) rfl
  have e2' := p3.cell (j := 2) rfl
  have P3 := W_hid (And.intro b6 q3)
  clear b4 b5 b6 q3 p3 s3 P2 cA1 cB
  go_wp2_with fail
  refine cB1.out.mono ?_
  rintro e w4 ⟨rfl, b7⟩
  have b8 := P3.out.1.trans (b7.mono P3.out.1.size)
  have B5 := W_hid (b8.alloc b8.size (.cells #[.int .i64 0, .pointer none, .string ⟨#[]⟩, .bool false] 147))
  clear b7 b8 P3 cB1
  go_wp2_with fail
  go_ret
  exact ⟨rfl, B5.out⟩
set_option maxRecDepth 100000 in
set_option maxHeartbeats 8000000 in
theorem Ren_move (s t : ByteArray) (hs : s.size ≤ maxLen) (ht : t.size ≤ maxLen) (w : World) (h : TM base w tg sg mb A D) (h0 : PM.perr s = 0) (h1' : PM.perr t = 0) (hl : PM.pN t ≠ []) (pf : Int) (hsr : src D s = .ok pf) (hnd : ∀ n d, D n = some d → (d.l.map (·.1)).Nodup) (h1 : ∃ dr, D 1 = some dr ∧ dr.up = 1) (hr : ∀ n d, D n = some d → Reach D (far D n) n) (pt : Int) (hds : dst D s t pf = .ok pt) (X : World → Prop) (hX : ∀ W, Below w.heap.size w W → Calls Tryz.prog 82 #[.pointer (some ⟨tg, 0, none⟩), .agg #[.int .i64 pf, IS.ptr (pa A pf), .string (last (PM.pN s)), .bool (PM.pD s)], .agg #[.int .i64 pt, IS.ptr (pa A pt), .string (last (PM.pN t)), .bool (PM.pD t)]] W fun e w' => e = .returned (.tuple #[]) ∧ X w') :
    Calls Tryz.prog 27 #[.pointer (some ⟨tg, 0, none⟩), .string s, .string t] w fun e w' => e = .returned (.int .i64 0) ∧ X w' := by
  have cN := W_hid (none_some w h)
  have cP := fun w => W_hid (parse2_yes s t hs ht w h0 h1')
  have cA := fun (ao : Option Addr) (n cap : Nat) (w' : World) (hb : Below w.heap.size w w') (hl : SS w' ao n cap (PM.pN s)) => place_all (PM.pA s) (PM.pD s) 2 (PM.pN s) ao n cap 79 #[] w' (h.keep hb) hl (pN_sm s) enters_ren1 (fun _ => 0) (fun m hp W hW => by
    obtain ⟨q, hq⟩ := ptr_form (pa A m)
    unfold plv
    rw [hq]
    exact ren1_any m q (last (PM.pN s)) (PM.pD s) W)
  rw [src_placeC] at cA
  obtain ⟨dpf, hdpf⟩ : ∃ d, D pf = some d := by
    have := place_dir (show place D (PM.pN s) 2 = .ok pf from hsr)
    cases e : D pf with
    | none => exact absurd e this
    | some d => exact ⟨d, rfl⟩
  have cB := fun (fb : Nat) (ao : Option Addr) (n cap : Nat) (w' : World) (hb : Below w.heap.size w w') (hfb : Blk w' fb 147 [.int .i64 pf, IS.ptr (pa A pf), .string (last (PM.pN s)), .bool (PM.pD s)]) (hl : SS w' ao n cap (PM.pN t)) => place_all (PM.pA t) (PM.pD t) 2 (PM.pN t) ao n cap 80 #[.pointer (some ⟨fb, 0, none⟩)] w' (h.keep hb) hl (pN_sm t) enters_ren2 (fun p => movV D (far D p) pf (last (PM.pN s)) (PM.pD s) p (last (PM.pN t)) (PM.pD t)) (fun m hp W hW => by
    have hDm := place_dir hp
    cases hdm : D m with
    | none => exact absurd hdm hDm
    | some dm => exact ren2_any fb pf m (last (PM.pN s)) (last (PM.pN t)) (PM.pD s) (PM.pD t) (far D m) (last_sm (pN_sm s)) (last_sm (pN_sm t)) W ((h.keep hb).keep hW) dpf dm hdpf hdm hnd h1 (hr m dm hdm) (hfb.keep hW))
  change ∀ (fb : Nat) (ao : Option Addr) (n cap : Nat) (w' : World), Below w.heap.size w w' → _ → _ → Calls Tryz.prog 78 _ w' fun e' w'' => e' = .returned (.tuple #[pv A (PM.pN t) (PM.pD t) (dst D s t pf), .int .i64 (er (dst D s t pf))]) ∧ Below w'.heap.size w' w'' at cB
  obtain ⟨qf, hqf⟩ := ptr_form (pa A pf)
  rw [hsr] at cA
  simp only [pv, er, plv, hqf] at cA cB
  rw [hds] at cB
  obtain ⟨qt, hqt⟩ := ptr_form (pa A pt)
  simp only [pv, er, plv, hqt] at cB
  rw [hqf, hqt] at hX
  replace cA := W_hid cA
  replace cB := W_hid cB
  replace hX := W_hid hX
  clear h h0 h1' hs ht hsr hds hdpf hqf hqt hnd h1 hr
  generalize hz1 : last (PM.pN s) = z1 at *
  generalize PM.pN s = l at *
  generalize PM.pD s = d at *
  generalize PM.pA s = a at *
  generalize hz2 : last (PM.pN t) = z2 at *
  generalize PM.pN t = l2 at *
  generalize PM.pD t = d2 at *
  generalize PM.pA t = a2 at *
  clear hz1 hz2
  go_enter Tryz.func27, Tryz.ntmps27
  go_wp2_with fail
  refine cN.out.mono ?_
  rintro e w1 ⟨rfl, b1⟩
  have B1 := W_hid b1
  clear b1 cN
  go_wp2_with fail
  refine (cP _).out.mono ?_
  rintro e w2 ⟨ao, n, cap, ao2, n2, cap2, rfl, hS1, hS2, b2⟩
  have b2' : Below w.heap.size w w2 := B1.out.trans (b2.mono B1.out.size)
  have b3 := (b2'.alloc b2'.size (.cells #[.bool a, .slice ao n cap, .bool d] 136)).alloc (Nat.le_trans b2'.size (by simp)) (.cells #[.bool a2, .slice ao2 n2 cap2, .bool d2] 136)
  have p1 : Blk ((w2.alloc (.cells #[.bool a, .slice ao n cap, .bool d] 136)).alloc (.cells #[.bool a2, .slice ao2 n2 cap2, .bool d2] 136)) w2.heap.size 136 [.bool a, .slice ao n cap, .bool d] := (Blk.new _ _ _ rfl).alloc _
  have p2 : Blk ((w2.alloc (.cells #[.bool a, .slice ao n cap, .bool d] 136)).alloc (.cells #[.bool a2, .slice ao2 n2 cap2, .bool d2] 136)) (w2.heap.size + 1) 136 [.bool a2, .slice ao2 n2 cap2, .bool d2] := Blk.new _ _ _ (by simp)
  have hn2 : l2.length = n2 := hS2.1
  have c0 := p1.cell (j := 0) rfl
  have c1 := p1.cell (j := 1) rfl
  have c2 := p1.cell (j := 2) rfl
  have d1 := p2.cell (j := 1) rfl
  have hlim2 : n2 ≤ 9223372036854775807 := by have := hS2.2.1; have := hS2.2.2.1; unfold maxLen at *; omega
  have hpos : 0 < n2 := by rw [← hn2]; exact List.length_pos_iff.2 hl
  have hzb : ((n2 : Int) == 0) = false := beq_eq_false_iff_ne.2 (by omega)
  have hzd : ¬ (n2 : Int) = 0 := by omega
  have cA1 := W_hid (cA.out ao n cap _ b3 ((hS1.alloc _).alloc _))
  have P2 := W_hid (And.intro b3 (And.intro p2 ((hS2.alloc (.cells #[.bool a, .slice ao n cap, .bool d] 136)).alloc (.cells #[.bool a2, .slice ao2 n2 cap2, .bool d2] 136))))
  clear b2 b2' b3 B1 p1 p2 hS1 hS2 hn2 cA
  go_wp2_with fail
  refine cA1.out.mono ?_
  rintro e w3 ⟨rfl, b4⟩
  have b5 := P2.out.1.trans (b4.mono P2.out.1.size)
  have b6 := b5.alloc b5.size (.cells #[.int .i64 pf, .pointer qf, .string z1, .bool d] 147)
  have q3 : Blk (w3.alloc (.cells #[.int .i64 pf, .pointer qf, .string z1, .bool d] 147)) w3.heap.size 147 [.int .i64 pf, .pointer qf, .string z1, .bool d] := Blk.new _ _ _ rfl
  have p3 := (P2.out.2.1.keep b4).alloc (.cells #[.int .i64 pf, .pointer qf, .string z1, .bool d] 147)
  have s3 := (P2.out.2.2.below b4 (Nat.le_refl _)).alloc (.cells #[.int .i64 pf, .pointer qf, .string z1, .bool d] 147)
  have cB1 := W_hid (cB.out w3.heap.size ao2 n2 cap2 _ b6 q3 s3)
  have e0' := p3.cell (j := 0) rfl
  have e1' := p3.cell (j := 1) rfl
  have e2' := p3.cell (j := 2) rfl
  have P3 := W_hid (And.intro b6 q3)
  clear b4 b5 b6 q3 p3 s3 P2 cA1 cB
  go_wp2_with fail
  refine cB1.out.mono ?_
  rintro e w4 ⟨rfl, b7⟩
  have b8 := P3.out.1.trans (b7.mono P3.out.1.size)
  have b9 := b8.alloc b8.size (.cells #[.int .i64 pt, .pointer qt, .string z2, .bool d2] 147)
  have q5 : Blk (w4.alloc (.cells #[.int .i64 pt, .pointer qt, .string z2, .bool d2] 147)) w4.heap.size 147 [.int .i64 pt, .pointer qt, .string z2, .bool d2] := Blk.new _ _ _ rfl
  have q4 := (P3.out.2.keep b7).alloc (.cells #[.int .i64 pt, .pointer qt, .string z2, .bool d2] 147)
  have x0 := q4.cell (j := 0) rfl
  have x1 := q4.cell (j := 1) rfl
  have x2 := q4.cell (j := 2) rfl
  have x3 := q4.cell (j := 3) rfl
  have y0 := q5.cell (j := 0) rfl
  have y1 := q5.cell (j := 1) rfl
  have y2 := q5.cell (j := 2) rfl
  have y3 := q5.cell (j := 3) rfl
  have hX1 := W_hid (hX.out _ b9)
  clear b7 b8 b9 P3 cB1 q4 q5 hX
  go_wp2_with fail
  refine hX1.out.mono ?_
  rintro e w5 ⟨rfl, hx5⟩
  have hx5 := W_hid hx5
  go_wp2_with fail
  go_ret
  exact ⟨rfl, hx5.out⟩
end
end NT
end Go.Proofs.YtmnmheocmcmpmaaGreat

namespace Go.Proofs.YtmnmheocmcmpmaaGreat
set_option linter.unusedVariables false
set_option linter.unusedSimpArgs false
namespace NT
theorem ins_perm (k : ByteArray) (n : Int) : ∀ l, (ins k n l).Perm ((k, n) :: l)
  | [] => .refl _
  | x :: l => by
    unfold ins
    split
    · exact ((ins_perm k n l).cons x).trans (List.Perm.swap _ _ _)
    · exact .refl _
theorem del_none {k : ByteArray} : ∀ {l}, look k l = none → del k l = l
  | [], _ => rfl
  | x :: l, h => by
    have hx : x.1 ≠ k := fun e => by simp [look, e] at h
    have hl : look k l = none := by simpa [look, hx] using h
    have ih := del_none hl
    unfold del at ih ⊢
    rw [List.filter_cons_of_pos (by simp [hx]), ih]
theorem asc_tail {x : ByteArray × Int} {l : List (ByteArray × Int)} (h : Asc (x :: l)) : Asc l := (List.pairwise_cons.1 h).2
theorem asc_look {x : ByteArray × Int} {l : List (ByteArray × Int)} (h : Asc (x :: l)) : look x.1 l = none := by
  cases e : look x.1 l with
  | none => rfl
  | some n =>
    have := (List.pairwise_cons.1 h).1 _ (look_mem e)
    rw [blt_irr] at this; cases this
theorem del_perm {k : ByteArray} {m : Int} : ∀ {l}, Asc l → look k l = some m → l.Perm ((k, m) :: del k l)
  | [], _, h => by cases h
  | x :: l, ha, h => by
    unfold look at h
    split at h
    · rename_i e
      cases h
      subst e
      have h1 := del_none (asc_look ha)
      unfold del at h1 ⊢
      rw [List.filter_cons_of_neg (by simp), h1]
    · rename_i e
      have h1 := del_perm (asc_tail ha) h
      have h2 : del k (x :: l) = x :: del k l := by unfold del; rw [List.filter_cons_of_pos (by simp [e])]
      rw [h2]
      exact (h1.cons x).trans (List.Perm.swap _ _ _)
theorem asc_del {l : List (ByteArray × Int)} (k : ByteArray) (h : Asc l) : Asc (del k l) := List.Pairwise.filter _ h
theorem asc_ins {k : ByteArray} {n : Int} : ∀ {l}, Asc l → look k l = none → Asc (ins k n l)
  | [], _, _ => List.pairwise_singleton _ _
  | x :: l, ha, h => by
    have hx : x.1 ≠ k := fun e => by simp [look, e] at h
    have hl : look k l = none := by simpa [look, hx] using h
    obtain ⟨h1, h2⟩ := List.pairwise_cons.1 ha
    unfold ins
    split
    · rename_i hb
      refine List.pairwise_cons.2 ⟨fun y hy => ?_, asc_ins h2 hl⟩
      rcases List.mem_cons.1 ((ins_perm k n l).mem_iff.1 hy) with rfl | hy
      · exact hb
      · exact h1 y hy
    · rename_i hb
      have hkx : blt k x.1 = true := blt_tot (by simpa using hb) hx
      refine List.pairwise_cons.2 ⟨fun y hy => ?_, ha⟩
      rcases List.mem_cons.1 hy with rfl | hy
      · exact hkx
      · exact blt_tr hkx (h1 y hy)
theorem asc_put {k : ByteArray} {n : Int} {l : List (ByteArray × Int)} (h : Asc l) : Asc (put k n l) := asc_ins (asc_del k h) (by rw [look_del, if_pos rfl])
theorem put_len {k : ByteArray} {n : Int} {l : List (ByteArray × Int)} : (put k n l).length ≤ l.length + 1 := by
  unfold put
  rw [(ins_perm k n _).length_eq, List.length_cons]
  have := del_len k l
  omega
def cntL (j : Int) (l : List (ByteArray × Int)) : Nat := l.countP fun x => decide (x.2 = j)
theorem cntL_cons (j : Int) (k : ByteArray) (n : Int) (l : List (ByteArray × Int)) : cntL j ((k, n) :: l) = cntL j l + (if n = j then 1 else 0) := by
  unfold cntL
  rw [List.countP_cons]
  simp
theorem cntL_put {k : ByteArray} {l : List (ByteArray × Int)} (j n : Int) (h : look k l = none) : cntL j (put k n l) = cntL j l + (if n = j then 1 else 0) := by
  unfold put
  rw [del_none h, ← cntL_cons j k n l]
  exact (ins_perm k n l).countP_eq _
theorem cntL_del {k : ByteArray} {m : Int} {l : List (ByteArray × Int)} (ha : Asc l) (h : look k l = some m) (j : Int) : cntL j l = cntL j (del k l) + (if m = j then 1 else 0) := by
  rw [← cntL_cons j k m]
  exact (del_perm ha h).countP_eq _
theorem cntL_pos {k : ByteArray} {j : Int} {l : List (ByteArray × Int)} (h : look k l = some j) : 1 ≤ cntL j l := List.countP_pos_iff.2 ⟨_, look_mem h, by simp⟩
theorem cntL_two {k k' : ByteArray} {j : Int} {l : List (ByteArray × Int)} (ha : Asc l) (h : look k l = some j) (h' : look k' l = some j) (hne : k ≠ k') : 2 ≤ cntL j l := by
  rw [cntL_del ha h j, if_pos rfl]
  have : look k' (del k l) = some j := by rw [look_del, if_neg hne.symm, h']
  have := cntL_pos this
  omega
def cl (D : Ds) (n : Int) (j : Int) : Nat := match D n with | none => 0 | some d => cntL j d.l
def cnt (D : Ds) (j : Int) : Nat → Nat
  | 0 => 0
  | n + 1 => cnt D j n + cl D ((n : Int) + 1) j
theorem cnt_same {D D' : Ds} {j : Int} : ∀ {N : Nat}, (∀ x : Int, 1 ≤ x → x ≤ N → cl D' x j = cl D x j) → cnt D' j N = cnt D j N
  | 0, _ => rfl
  | N + 1, h => by
    unfold cnt
    rw [cnt_same (N := N) fun x h1 h2 => h x h1 (by omega), h ((N : Int) + 1) (by omega) (by omega)]
theorem cnt_turn {D D' : Ds} {j p : Int} : ∀ {N : Nat}, 1 ≤ p → p ≤ N → (∀ x : Int, x ≠ p → cl D' x j = cl D x j) → cnt D' j N + cl D p j = cnt D j N + cl D' p j
  | 0, h1, h2, _ => by omega
  | N + 1, h1, h2, h => by
    unfold cnt
    by_cases e : p = (N : Int) + 1
    · subst e
      rw [cnt_same (N := N) fun x h3 h4 => h x (by omega)]
      omega
    · have := cnt_turn (N := N) h1 (by omega) h
      rw [h ((N : Int) + 1) (fun e2 => e e2.symm)]
      omega
theorem cnt_ge {D : Ds} {j p : Int} : ∀ {N : Nat}, 1 ≤ p → p ≤ N → cl D p j ≤ cnt D j N
  | 0, h1, h2 => by omega
  | N + 1, h1, h2 => by
    unfold cnt
    by_cases e : p = (N : Int) + 1
    · subst e; omega
    · have := cnt_ge (D := D) (j := j) (N := N) h1 (by omega)
      omega
theorem cnt_two {D : Ds} {j p q : Int} : ∀ {N : Nat}, 1 ≤ p → p ≤ N → 1 ≤ q → q ≤ N → p ≠ q → cl D p j + cl D q j ≤ cnt D j N
  | 0, h1, h2, _, _, _ => by omega
  | N + 1, h1, h2, h3, h4, hne => by
    unfold cnt
    by_cases e : p = (N : Int) + 1
    · subst e
      have := cnt_ge (D := D) (j := j) (p := q) (N := N) h3 (by omega)
      omega
    · by_cases e2 : q = (N : Int) + 1
      · subst e2
        have := cnt_ge (D := D) (j := j) (p := p) (N := N) h1 (by omega)
        omega
      · have := cnt_two (D := D) (j := j) (N := N) h1 (by omega) h3 (by omega) hne
        omega
theorem reach_keep {D D' : Ds} (h : ∀ n d, D n = some d → ∃ d', D' n = some d' ∧ d'.up = d.up) : ∀ {k : Nat} {n : Int}, Reach D k n → Reach D' k n
  | 0, n, hr => hr
  | k + 1, n, hr => by
    obtain ⟨h1, x, hx, hr⟩ := hr
    obtain ⟨d', hd', hu⟩ := h n x hx
    exact ⟨h1, d', hd', by rw [hu]; exact reach_keep h hr⟩
theorem reach_avoid {D D' : Ds} {m : Int} (h : ∀ n d, n ≠ m → D n = some d → ∃ d', D' n = some d' ∧ d'.up = d.up) : ∀ {k : Nat} {n : Int}, Reach D k n → m ∉ anc D k n → Reach D' k n
  | 0, n, hr, _ => hr
  | k + 1, n, hr, ha => by
    obtain ⟨h1, x, hx, hr⟩ := hr
    unfold anc at ha
    rw [hx] at ha
    simp only [List.mem_cons, not_or] at ha
    obtain ⟨d', hd', hu⟩ := h n x (fun e => ha.1 e.symm) hx
    exact ⟨h1, d', hd', by rw [hu]; exact reach_avoid h hr ha.2⟩
theorem reach_move {D D' : Ds} {m : Int} (h : ∀ n d, n ≠ m → D n = some d → ∃ d', D' n = some d' ∧ d'.up = d.up) (hm : ∃ k, Reach D' k m) : ∀ {k : Nat} {n : Int}, Reach D k n → ∃ k', Reach D' k' n
  | 0, n, hr => ⟨0, hr⟩
  | k + 1, n, hr => by
    obtain ⟨h1, x, hx, hr⟩ := hr
    by_cases e : n = m
    · subst e; exact hm
    · obtain ⟨d', hd', hu⟩ := h n x e hx
      obtain ⟨k', hk'⟩ := reach_move h hm hr
      exact ⟨k' + 1, h1, d', hd', by rw [hu]; exact hk'⟩
theorem reach_less {D D' : Ds} {j : Int} (h : ∀ n d, n ≠ j → D n = some d → ∃ d', D' n = some d' ∧ d'.up = d.up) (hj : ∀ n d, n ≠ j → D n = some d → d.up ≠ j) : ∀ {k : Nat} {n : Int}, n ≠ j → Reach D k n → Reach D' k n
  | 0, n, _, hr => hr
  | k + 1, n, hne, hr => by
    obtain ⟨h1, x, hx, hr⟩ := hr
    obtain ⟨d', hd', hu⟩ := h n x hne hx
    exact ⟨h1, d', hd', by rw [hu]; exact reach_less h hj (hj n x hne hx) hr⟩
end NT
end Go.Proofs.YtmnmheocmcmpmaaGreat

namespace Go.Proofs.YtmnmheocmcmpmaaGreat
open Go.ChangeShapes Go.WideShapes Go.ChangeAt Go.RowKit
set_option linter.unusedVariables false
set_option linter.unusedSimpArgs false
namespace RN
open IN (Keeps)
open NT (Dr Ds er nu findR)
section
variable {base : Nat} {w w' : World} {rt rg : Nat}
theorem reach_in {D : Ds} {h : Nat} {d : Int} (hr : NT.Reach D h d) (h1 : D 1 ≠ none) : D d ≠ none := by
  cases h with
  | zero => rw [show d = 1 from hr]; exact h1
  | succ h =>
    obtain ⟨-, x, hx, -⟩ := hr
    rw [hx]; simp
theorem anc_step {D : Ds} {h : Nat} {d top : Int} {x : Dr} (hr : NT.Reach D h d) (hx : D d = some x) (h1 : ∃ dr, D 1 = some dr ∧ dr.up = 1) (hne : d ≠ top) : NT.Reach D (h - 1) x.up ∧ (top ∈ NT.anc D h d ↔ top ∈ NT.anc D (h - 1) x.up) := by
  cases h with
  | zero =>
    have e : d = 1 := hr
    subst e
    obtain ⟨dr, h2, h3⟩ := h1
    rw [hx] at h2
    cases h2
    rw [h3]
    exact ⟨rfl, Iff.rfl⟩
  | succ h =>
    refine ⟨NT.reach_up hr hx, ?_⟩
    have e1 : NT.anc D (h + 1) d = d :: NT.anc D h x.up := by
      show d :: (match D d with | none => [] | some y => NT.anc D h y.up) = _
      rw [hx]
    rw [e1]
    simp only [List.mem_cons, Nat.add_sub_cancel]
    constructor
    · rintro (e | e)
      · exact absurd e.symm hne
      · exact e
    · exact .inr
set_option maxRecDepth 100000 in
set_option maxHeartbeats 8000000 in
theorem rwithin_any (d top : Int) (hgt : Nat) {l : List DD} (w : World) (h : DT base w rt rg l) (hr : NT.Reach (toD l) hgt d) (hh : hgt ≤ l.length) (h1 : ∃ dr, toD l 1 = some dr ∧ dr.up = 1) :
    Calls Tryz.prog 136 #[.pointer (some ⟨rt, 0, none⟩), .int .i64 d, .int .i64 top] w fun e w' => e = .returned (.bool (decide (top ∈ NT.anc (toD l) hgt d))) ∧ Below w.heap.size w w' := by
  have hlen := h.few.len
  have H := W_hid h
  have hD1 : toD l 1 ≠ none := by obtain ⟨dr, h2, -⟩ := h1; rw [h2]; simp
  obtain ⟨Q, hQ⟩ : ∃ Q : Prop, (top ∈ NT.anc (toD l) hgt d) = Q := ⟨_, rfl⟩
  obtain ⟨b, hb⟩ : ∃ b : Bool, decide (top ∈ NT.anc (toD l) hgt d) = b := ⟨_, rfl⟩
  rw [hb]
  have hb2 : b = true ↔ top ∈ NT.anc (toD l) hgt d := by rw [← hb]; simp
  obtain ⟨NL, hNL⟩ : ∃ NL, l.length = NL := ⟨_, rfl⟩
  obtain ⟨dd, hdd⟩ := Option.ne_none_iff_exists'.1 hD1
  obtain ⟨gg, cc, c1, -, -, -⟩ := h.el hdd
  rw [hNL] at c1 hlen hh
  have hgl := World.block_lt_of_cell? w _ c1
  have HC := W_hid (And.intro c1 hgl)
  have hr := W_hid (And.intro hr hb2)
  replace h1 := W_hid h1
  have hD1 := W_hid hD1
  replace hNL := W_hid hNL
  clear h hQ hb hb2 hdd c1 hgl
  go_enter Tryz.func136, Tryz.ntmps136
  go_wp2_with fail
  go_loopw [1, 7] (fun dv i wr => ∃ (j : Nat) (cur : Int), j ≤ NL + 1 ∧ i = .int .i64 (j : Int) ∧ dv = .int .i64 cur ∧ Hid (NT.Reach (toD l) (hgt - j) cur ∧ (b = true ↔ top ∈ NT.anc (toD l) (hgt - j) cur) ∧ (hgt < j → top ≠ 1)) ∧ Hid (Below w.heap.size w wr)) (fun _ i _ => NL + 1 - (intOf i).toNat)
  case atStart => exact ⟨0, d, Nat.zero_le _, rfl, rfl, W_hid ⟨hr.out.1, hr.out.2, fun e => by omega⟩, W_hid (Below.refl _ _)⟩
  case round =>
    obtain ⟨j, cur, hj, rfl, rfl, hst, hbl⟩ := hrel
    have c1 : wr.cell? ⟨rt, 1, none⟩ = _ := (hbl.out.cell HC.out.2).trans HC.out.1
    by_cases hlt : j < NL + 1
    · have hle : (j : Int) ≤ (NL : Int) := by omega
      by_cases hc : cur = top
      · subst hc
        have hbt : b = true := hst.out.2.1.2 (by
          cases hgt - j with
          | zero => unfold NT.anc; simp
          | succ q => unfold NT.anc; simp)
        subst hbt
        clear hst
        go_wp2_with fail
        go_ret
        exact ⟨rfl, hbl.out⟩
      · obtain ⟨x, hx⟩ := Option.ne_none_iff_exists'.1 (reach_in hst.out.1 hD1.out)
        obtain ⟨s1, s2⟩ := anc_step hst.out.1 hx h1.out hc
        have hnew : Hid (NT.Reach (toD l) (hgt - (j + 1)) x.up ∧ (b = true ↔ top ∈ NT.anc (toD l) (hgt - (j + 1)) x.up) ∧ (hgt < j + 1 → top ≠ 1)) := W_hid (by
          rw [show hgt - (j + 1) = hgt - j - 1 by omega]
          refine ⟨s1, hst.out.2.1.trans s2, fun hl e => ?_⟩
          have h0 : hgt - j = 0 := by omega
          have := hst.out.1
          rw [h0] at this
          exact hc ((show cur = 1 from this).trans e.symm))
        have hT := H.out.keep hbl.out
        have cD := fun W (hb : Below w.heap.size w W) => dir_t cur (H.out.keep hb)
        obtain ⟨h3, h4, -, -⟩ := dir_some hx
        simp only [h4] at cD
        obtain ⟨g, cap, c1', -, hcap, e2⟩ := hT.el hx
        rw [hNL.out] at h3 c1' hcap
        rw [c1] at c1'
        simp only [Option.some.injEq, Value.slice.injEq, Addr.mk.injEq, and_true, true_and] at c1'
        obtain ⟨rfl, rfl⟩ := c1'
        generalize ix l cur = p at *
        generalize x.up = nx at *
        have hp : (p : Int) < (NL : Int) := by omega
        have hcb : (cur == top) = false := by simpa using hc
        replace cD := W_hid cD
        have bdr := hbl.out.drew
        clear hx s1 s2 hst hT h4
        go_wp2_with fail
        go_region_held3 (fun w' => w'.cell? ⟨rt, 1, none⟩ = some (.slice (some ⟨gg, 0, none⟩) NL cc) ∧ w'.cell? ⟨gg, p * 3 + 1, none⟩ = some (.int .i64 nx) ∧ Below w.heap.size w w') (first | assumption | (refine ⟨?_, ?_, ?_⟩ <;> first | assumption | exact hbl.out.drew | go_keep))
          (first | (go_at_call 128; refine (cD.out _ bdr).mono ?_; rintro e w1 ⟨rfl, rfl⟩))
        all_goals
          have hb9 := W_hid bdr
          go_wp2_with fail
          go_roundw
          case rel => exact ⟨j + 1, nx, by omega, by go_num, rfl, hnew, hb9⟩
          case measure => simp [intOf]; omega
    · obtain rfl : j = NL + 1 := by omega
      have hbf : b = false := by
        have h0 : hgt - (NL + 1) = 0 := by omega
        have h2 := hst.out
        rw [h0] at h2
        have h3 := h2.2.2 (by omega)
        have h4 : cur = 1 := h2.1
        cases hbb : b with
        | false => rfl
        | true =>
          have := h2.2.1.1 hbb
          unfold NT.anc at this
          simp at this
          exact absurd (this.trans h4) h3
      subst hbf
      have hgt' : ¬ (((NL + 1 : Nat) : Int) ≤ (NL : Int)) := by omega
      clear hst
      go_wp2_with fail
      go_ret
      exact ⟨rfl, hbl.out⟩
end
end RN
end Go.Proofs.YtmnmheocmcmpmaaGreat

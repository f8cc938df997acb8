/- slices.Sorted of a map's keys, Tables of any tree. -/
import Derived.Test.YtbloiilinofklaaGreatNA02
import Derived.Test.YtbloiilinofklaaGreatNA03
import Derived.Deep.RegionHeld3
import Derived.Test.YtbloiilinofklaaGreatNA01
import Derived.RangeFuncNested
import Derived.RangeFuncBound
import Derived.RangeFuncCalls
import Derived.RangeFuncLeaves
import Derived.RangeFuncStops
import Derived.Shelf.Abstract
import Derived.Shelf.RegionOpen
import Derived.WalkKit
import Derived.OwnWalkIn
import Derived.TacticsInMore
import Derived.RegionIn
import Derived.LoopNIn
import Derived.LoopIn
import Derived.Maps.OwnIn
import Derived.Maps.AppendAt
import Derived.Sort.MapsRangeIn
import Derived.RangeFuncBox
import Derived.BigRegion
import Derived.Deep.CutRange
import Derived.Deep.CutBlock
import Derived.Laws.BitsAllLaws

/- Contracts of package names' Find, parse. -/
namespace Go.Proofs.YtbloiilinofklaaGreat
open Go.ChangeShapes Go.WideShapes Go.ChangeAt Go.RowKit Go.Maps
set_option linter.unusedVariables false
set_option linter.unusedSimpArgs false
namespace NT
open IN (Keeps)
def nu : Except Int Int → Int
  | .ok n => n
  | .error _ => 0
/-- What a parsed text leaves. -/
theorem parsed {s : ByteArray} {w : World} (hs : s.size ≤ maxLen) : Calls Tryz.prog 49 #[.string s] w fun e w' => ∃ ao n cap, e = .returned (.tuple #[.agg #[.bool (PM.pA s), .slice ao n cap, .bool (PM.pD s)], .int .i64 (PM.perr s)]) ∧ SS w' ao n cap (PM.pN s) ∧ Below w.heap.size w w' :=
  (Parse_all s w hs).mono fun e w' h => by
    obtain ⟨v, rfl, hown, hb⟩ := h
    obtain ⟨ao, cap, rfl⟩ := own_form hown
    exact ⟨ao, _, cap, rfl, SS_own hown, hb⟩
theorem pN_sm (s : ByteArray) : ∀ k ∈ PM.pN s, NS.Sm k := fun k hk => by
  by_cases h : PM.perr s = 0
  · have h1 := PM.valid_comp (PM.parse_valid h).1 k hk
    have h2 := ((PM.comp_iff k).1 h1).1.2
    unfold NS.Sm maxLen
    omega
  · have : PM.pN s = [] := by unfold PM.pN; rw [if_neg h]
    rw [this] at hk
    cases hk
def findR (D : Ds) (s : ByteArray) : Except Int Int := if PM.perr s = 0 then find D (PM.pN s) (PM.pD s) else .error (PM.perr s)
section
variable {base : Nat} {w w' : World} {tg sg mb : Nat} {A : Int → Option (Nat × Nat)} {D : Ds}

set_option maxRecDepth 100000 in
set_option maxHeartbeats 2000000 in
theorem Find_nil (s : ByteArray) (w : World) : Calls Tryz.prog 21 #[.pointer none, .string s] w fun e w' => e = .returned (.tuple #[.int .i64 0, .int .i64 1]) ∧ w' = w := by
  have cN := fun w => W_hid (none_nil w)
  go_enter Tryz.func21, Tryz.ntmps21
  go_wp2_with fail
  refine (cN _).out.mono ?_
  rintro e w1 ⟨rfl, rfl⟩
  go_wp2_with fail
  go_ret2
  exact ⟨rfl, rfl⟩

set_option maxRecDepth 100000 in
set_option maxHeartbeats 4000000 in
theorem Find_any (s : ByteArray) (hs : s.size ≤ maxLen) (w : World) (h : TM base w tg sg mb A D) :
    Calls Tryz.prog 21 #[.pointer (some ⟨tg, 0, none⟩), .string s] w fun e w' => e = .returned (.tuple #[.int .i64 (nu (findR D s)), .int .i64 (er (findR D s))]) ∧ Below w.heap.size w w' := by
  have cN := W_hid (none_some w h)
  have cP := fun w => W_hid (parsed (w := w) hs)
  have cF := fun (ao : Option Addr) (n cap : Nat) (w' : World) (hb : Below w.heap.size w w') (hl : SS w' ao n cap (PM.pN s)) => find_any (PM.pA s) (PM.pD s) (PM.pN s) ao n cap w' (h.keep hb) hl (pN_sm s)
  obtain ⟨pe, hpe⟩ : ∃ pe, PM.perr s = pe := ⟨_, rfl⟩
  have hf : findR D s = if pe = 0 then find D (PM.pN s) (PM.pD s) else .error pe := by unfold findR; rw [hpe]
  rw [hpe] at cP
  generalize PM.pN s = l at cP hf cF
  generalize PM.pD s = d at cP hf cF
  generalize PM.pA s = a at cP cF
  clear h hpe
  by_cases h0 : pe = 0
  · subst h0
    rw [if_pos rfl] at hf
    rw [hf]
    generalize find D l d = R at cF
    have hv : ∃ v2, rv A R = .agg #[.int .i64 (nu R), .pointer v2] := by
      cases R with
      | error e => exact ⟨_, rfl⟩
      | ok m =>
        obtain ⟨pp, hpp⟩ := ptr_form (pa A m)
        exact ⟨pp, by show NS.nv (m, pa A m) = _; unfold NS.nv; rw [hpp]; rfl⟩
    obtain ⟨v2, hv⟩ := hv
    rw [hv] at cF
    generalize nu R = v1 at cF
    generalize er R = v3 at cF
    replace cF := W_hid cF
    clear hv hf
    go_enter Tryz.func21, Tryz.ntmps21
    go_wp2_with fail
    refine cN.out.mono ?_
    rintro e w1 ⟨rfl, b1⟩
    have B1 := W_hid b1
    clear b1 cN
    go_wp2_with fail
    refine (cP _).out.mono ?_
    rintro e w2 ⟨ao, n, cap, rfl, hS, b2⟩
    have p2 : Blk (w2.alloc (.cells #[.bool a, .slice ao n cap, .bool d] 99)) w2.heap.size 99 [.bool a, .slice ao n cap, .bool d] := Blk.new _ _ _ rfl
    have b2' : Below w.heap.size w w2 := B1.out.trans (b2.mono B1.out.size)
    have b3 := b2'.alloc b2'.size (.cells #[.bool a, .slice ao n cap, .bool d] 99)
    have cF1 := W_hid (cF.out ao n cap _ b3 (hS.alloc _))
    have c0 := p2.cell (j := 0) rfl
    have c1 := p2.cell (j := 1) rfl
    have c2 := p2.cell (j := 2) rfl
    have B3 := W_hid b3
    clear b2 b3 b2' p2 hS cF
    go_wp2_with fail
    refine cF1.out.mono ?_
    rintro e w3 ⟨rfl, b4⟩
    go_wp2_with fail
    go_ret2
    exact ⟨rfl, (B3.out.trans (b4.mono B3.out.size)).alloc (by have := B3.out.size; have := b4.size; omega) _⟩
  · rw [if_neg h0] at hf
    rw [hf]
    have hne : (pe == 0) = false := by simpa using h0
    clear hf
    go_enter Tryz.func21, Tryz.ntmps21
    go_wp2_with fail
    refine cN.out.mono ?_
    rintro e w1 ⟨rfl, b1⟩
    have B1 := W_hid b1
    clear b1 cN
    go_wp2_with fail
    refine (cP _).out.mono ?_
    rintro e w2 ⟨ao, n, cap, rfl, hS, b2⟩
    have b2' : Below w.heap.size w w2 := B1.out.trans (b2.mono B1.out.size)
    have B3 := W_hid (b2'.alloc b2'.size (.cells #[.bool a, .slice ao n cap, .bool d] 99))
    clear b2 b2' hS
    go_wp2_with fail
    go_ret2
    exact ⟨rfl, B3.out⟩
end
end NT
end Go.Proofs.YtbloiilinofklaaGreat

/- Contracts of package names' Make. -/
namespace Go.Proofs.YtbloiilinofklaaGreat
open Go.ChangeShapes Go.WideShapes Go.ChangeAt Go.RowKit Go.Maps
set_option linter.unusedVariables false
set_option linter.unusedSimpArgs false
namespace NT
open IN (Keeps)
section
variable {base : Nat} {w w' : World} {tg sg mb : Nat} {A : Int → Option (Nat × Nat)} {D : Ds}

set_option maxRecDepth 100000 in
set_option maxHeartbeats 2000000 in
theorem Make_nil (s : ByteArray) (kind : Int) (w : World) : Calls Tryz.prog 24 #[.pointer none, .string s, .int .i64 kind] w fun e w' => e = .returned (.tuple #[.int .i64 0, .int .i64 1]) ∧ w' = w := by
  have cN := fun w => W_hid (none_nil w)
  go_enter Tryz.func24, Tryz.ntmps24
  go_wp2_with fail
  refine (cN _).out.mono ?_
  rintro e w1 ⟨rfl, rfl⟩
  go_wp2_with fail
  go_ret2
  exact ⟨rfl, rfl⟩

set_option maxRecDepth 100000 in
set_option maxHeartbeats 2000000 in
theorem Make_kind (s : ByteArray) (kind : Int) (w : World) (h : TM base w tg sg mb A D) (hk : ¬ (kind = 1 ∨ kind = 2)) : Calls Tryz.prog 24 #[.pointer (some ⟨tg, 0, none⟩), .string s, .int .i64 kind] w fun e w' => e = .returned (.tuple #[.int .i64 0, .int .i64 2]) ∧ Below w.heap.size w w' := by
  have cN := W_hid (none_some w h)
  have h1 : ¬ kind = 1 := fun e => hk (.inl e)
  have h2 : ¬ kind = 2 := fun e => hk (.inr e)
  have h3 : (kind == 1) = false := by simpa using h1
  have h4 : (kind == 2) = false := by simpa using h2
  have h5 : (kind != 1) = true := by simpa using h1
  have h6 : (kind != 2) = true := by simpa using h2
  clear hk
  go_enter Tryz.func24, Tryz.ntmps24
  go_wp2_with fail
  refine cN.out.mono ?_
  rintro e w1 ⟨rfl, b1⟩
  go_wp2_with fail
  go_ret2
  exact ⟨rfl, b1⟩

set_option maxRecDepth 100000 in
set_option maxHeartbeats 2000000 in
theorem Make_parse (s : ByteArray) (hs : s.size ≤ maxLen) (kind : Int) (w : World) (h : TM base w tg sg mb A D) (hk : kind = 1 ∨ kind = 2) (he : PM.perr s ≠ 0) : Calls Tryz.prog 24 #[.pointer (some ⟨tg, 0, none⟩), .string s, .int .i64 kind] w fun e w' => e = .returned (.tuple #[.int .i64 0, .int .i64 (PM.perr s)]) ∧ Below w.heap.size w w' := by
  have cN := W_hid (none_some w h)
  have cP := fun w => W_hid (parsed (w := w) hs)
  generalize PM.perr s = pe at cP he ⊢
  have hne : (pe == 0) = false := by simpa using he
  clear h
  rcases hk with rfl | rfl
  all_goals
    go_enter Tryz.func24, Tryz.ntmps24
    go_wp2_with fail
    refine cN.out.mono ?_
    rintro e w1 ⟨rfl, b1⟩
    have B1 := W_hid b1
    clear b1 cN
    go_wp2_with fail
    refine (cP _).out.mono ?_
    rintro e w2 ⟨ao, n, cap, rfl, hS, b2⟩
    have b2' : Below w.heap.size w w2 := B1.out.trans (b2.mono B1.out.size)
    have B3 := W_hid (b2'.alloc b2'.size (.cells #[.bool (PM.pA s), .slice ao n cap, .bool (PM.pD s)] 99))
    clear b2 b2' hS
    go_wp2_with fail
    go_ret2
    exact ⟨rfl, B3.out⟩

/-- The directory in which a name may be made, or why not. -/
def vacant (D : Ds) (kind : Int) (s : ByteArray) : Except Int Int := placeC D (PM.pN s) 12 (vac D kind (last (PM.pN s)) (PM.pD s))

set_option maxRecDepth 100000 in
set_option maxHeartbeats 4000000 in
theorem Make_vac (s : ByteArray) (hs : s.size ≤ maxLen) (kind : Int) (w : World) (h : TM base w tg sg mb A D) (hk : kind = 1 ∨ kind = 2) (hp : PM.perr s = 0) (e0 : Int) (hv : vacant D kind s = .error e0) (he : e0 ≠ 0) : Calls Tryz.prog 24 #[.pointer (some ⟨tg, 0, none⟩), .string s, .int .i64 kind] w fun e w' => e = .returned (.tuple #[.int .i64 0, .int .i64 e0]) ∧ Below w.heap.size w w' := by
  have cN := W_hid (none_some w h)
  have cP := fun w => W_hid (parsed (w := w) hs)
  rw [hp] at cP
  have cV := fun (ao : Option Addr) (n cap : Nat) (w' : World) (hb : Below w.heap.size w w') (hl : SS w' ao n cap (PM.pN s)) => vacant_any (PM.pA s) (PM.pD s) kind (PM.pN s) ao n cap w' (h.keep hb) hl (pN_sm s)
  unfold vacant at hv
  rw [hv] at cV
  simp only [pv, er] at cV
  have hne : (e0 == 0) = false := by simpa using he
  generalize PM.pN s = l at cP cV
  generalize PM.pD s = d at cP cV
  generalize PM.pA s = a at cP cV
  replace cV := W_hid cV
  clear h hv hp he
  rcases hk with rfl | rfl
  all_goals
    go_enter Tryz.func24, Tryz.ntmps24
    go_wp2_with fail
    refine cN.out.mono ?_
    rintro e w1 ⟨rfl, b1⟩
    have B1 := W_hid b1
    clear b1 cN
    go_wp2_with fail
    refine (cP _).out.mono ?_
    rintro e w2 ⟨ao, n, cap, rfl, hS, b2⟩
    have b2' : Below w.heap.size w w2 := B1.out.trans (b2.mono B1.out.size)
    have b3 := b2'.alloc b2'.size (.cells #[.bool a, .slice ao n cap, .bool d] 99)
    have p2 : Blk (w2.alloc (.cells #[.bool a, .slice ao n cap, .bool d] 99)) w2.heap.size 99 [.bool a, .slice ao n cap, .bool d] := Blk.new _ _ _ rfl
    have c0 := p2.cell (j := 0) rfl
    have c1 := p2.cell (j := 1) rfl
    have c2 := p2.cell (j := 2) rfl
    have cV1 := W_hid (cV.out ao n cap _ b3 (hS.alloc _))
    have B3 := W_hid b3
    clear b2 b2' hS b3 p2 cV
    go_wp2_with fail
    refine cV1.out.mono ?_
    rintro e w3 ⟨rfl, b4⟩
    have b4' := B3.out.trans (b4.mono B3.out.size)
    have B4 := W_hid (b4'.alloc b4'.size (.cells #[.int .i64 0, .pointer none, .string ⟨#[]⟩, .bool false] 110))
    clear b4 b4' cV1
    go_wp2_with fail
    go_ret2
    exact ⟨rfl, B4.out⟩

/-- A start that all further walks share: the tree is there, the text is parsed, the place is found. -/
theorem made_few {M : ByteArray → Option (Int × Option Nat)} {l : List (ByteArray × Int)} {A : Int → Option (Nat × Nat)} (hM : M = nm A l) (hl : l.length < 65536) : ∀ ss, NS.Nums M ss → ss.length < 65536 := fun ss h => by
  have : ss.length ≤ (l.map (·.1)).length := NS.nodup_sub ss (l.map (·.1)) h.1 (fun x hx => by
    have h1 := (h.2 x).1 hx
    rw [hM] at h1
    unfold nm at h1
    cases e : look x l with
    | none => rw [e] at h1; exact absurd rfl h1
    | some j => exact List.mem_map.2 ⟨(x, j), look_mem e, rfl⟩)
  rw [List.length_map] at this
  omega

set_option maxRecDepth 100000 in
set_option maxHeartbeats 4000000 in
theorem Make_full (I L B k : Nat) (M : Int → Option Nat) (S : Int → Option IN.Nd) (s : ByteArray) (hs : s.size ≤ maxLen) (kind : Int) (w : World) (h : TM base w tg sg mb A D) (hS0 : IN.PS base w sg mb M I L B k S) (hk : kind = 1 ∨ kind = 2) (hp : PM.perr s = 0) (p : Int) (hv : vacant D kind s = .ok p) (e0 : Int) (hr : IN.mkR I S kind = e0) (he : e0 ≠ 0) :
    Calls Tryz.prog 24 #[.pointer (some ⟨tg, 0, none⟩), .string s, .int .i64 kind] w fun e w' => e = .returned (.tuple #[.int .i64 0, .int .i64 e0]) ∧ Below w.heap.size w w' := by
  have cN := W_hid (none_some w h)
  have cP := fun w => W_hid (parsed (w := w) hs)
  rw [hp] at cP
  have cV := fun (ao : Option Addr) (n cap : Nat) (w' : World) (hb : Below w.heap.size w w') (hl : SS w' ao n cap (PM.pN s)) => vacant_any (PM.pA s) (PM.pD s) kind (PM.pN s) ao n cap w' (h.keep hb) hl (pN_sm s)
  unfold vacant at hv
  rw [hv] at cV
  simp only [pv, er, plv] at cV
  have hne : (e0 == 0) = false := by simpa using he
  generalize PM.pN s = l at cP cV
  generalize PM.pD s = d at cP cV
  generalize PM.pA s = a at cP cV
  generalize last l = z at cV
  obtain ⟨pp, hpp⟩ := ptr_form (pa A p)
  simp only [hpp] at cV
  replace cV := W_hid cV
  have cM := W_hid (fun (w' : World) (hb : Below w.heap.size w w') => IN.Make_no kind w' (hS0.keep hb) e0 hr he)
  have t0 := W_hid (fun (w' : World) (hb : Below w.heap.size w w') => (h.keep hb).box.cell (j := 0) rfl)
  clear h hv hp he hS0 hpp
  rcases hk with rfl | rfl
  all_goals
    go_enter Tryz.func24, Tryz.ntmps24
    go_wp2_with fail
    refine cN.out.mono ?_
    rintro e w1 ⟨rfl, b1⟩
    have B1 := W_hid b1
    clear b1 cN
    go_wp2_with fail
    refine (cP _).out.mono ?_
    rintro e w2 ⟨ao, n, cap, rfl, hS, b2⟩
    have b2' : Below w.heap.size w w2 := B1.out.trans (b2.mono B1.out.size)
    have b3 := b2'.alloc b2'.size (.cells #[.bool a, .slice ao n cap, .bool d] 99)
    have p2 : Blk (w2.alloc (.cells #[.bool a, .slice ao n cap, .bool d] 99)) w2.heap.size 99 [.bool a, .slice ao n cap, .bool d] := Blk.new _ _ _ rfl
    have c0 := p2.cell (j := 0) rfl
    have c1 := p2.cell (j := 1) rfl
    have c2 := p2.cell (j := 2) rfl
    have cV1 := W_hid (cV.out ao n cap _ b3 (hS.alloc _))
    have B3 := W_hid b3
    clear b2 b2' hS b3 p2 cV
    go_wp2_with fail
    refine cV1.out.mono ?_
    rintro e w3 ⟨rfl, b4⟩
    have b4' := B3.out.trans (b4.mono B3.out.size)
    have b5 := b4'.alloc b4'.size (.cells #[.int .i64 p, .pointer pp, .string z, .bool d] 110)
    have t1 := t0.out _ b5
    have cM1 := W_hid (cM.out _ b5)
    have B4 := W_hid b5
    clear b4 b4' b5 cV1 cM t0
    go_wp2_with fail
    refine cM1.out.mono ?_
    rintro e w4 ⟨rfl, b6⟩
    have B5 := W_hid (B4.out.trans (b6.mono B4.out.size))
    clear b6 cM1
    go_wp2_with fail
    go_ret2
    exact ⟨rfl, B5.out⟩

theorem last_le (s : ByteArray) : (last (PM.pN s)).size ≤ 281474976710656 := by
  by_cases h : PM.pN s = []
  · rw [h]; decide
  · by_cases hp : PM.perr s = 0
    · have h1 := PM.valid_comp (PM.parse_valid hp).1 _ (last_mem h)
      have h2 := ((PM.comp_iff _).1 h1).1.2
      omega
    · exact absurd (by unfold PM.pN; rw [if_neg hp]) h
/-- The directories behind a Make. -/
def mkD (D : Ds) (p : Int) (k : ByteArray) (n kind : Int) : Ds := fun m => if m = p then (D p).map fun d => { d with l := put k n d.l } else if m = n ∧ kind = 2 then some ⟨p, []⟩ else D m

set_option maxRecDepth 100000 in
set_option maxHeartbeats 8000000 in
theorem Make_file (I L B k : Nat) (M : Int → Option Nat) (S : Int → Option IN.Nd) (s : ByteArray) (hs : s.size ≤ maxLen) (w : World) (h : TM base w tg sg mb A D) (hS0 : IN.PS base w sg mb M I L B k S) (hp : PM.perr s = 0) (p : Int) (hv : vacant D 1 s = .ok p) (dp : Dr) (hdp : D p = some dp) (hfew : dp.l.length < 65536)
    (n : Nat) (hr : IN.mkR I S 1 = 0) (hlow : IN.Low S n) (hn : n ≤ I) (hL : 1 ≤ L) (hfree : D (n : Int) = none) :
    Calls Tryz.prog 24 #[.pointer (some ⟨tg, 0, none⟩), .string s, .int .i64 1] w fun e w' => e = .returned (.tuple #[.int .i64 (n : Int), .int .i64 0]) ∧ (∃ M', IN.PS base w' sg mb M' I L B k (IN.upd S (n : Int) (some (IN.newNd 1)))) ∧ TM base w' tg sg mb A (mkD D p (last (PM.pN s)) (n : Int) 1) ∧ Keeps base (FT A mb) w w' := by
  have cN := W_hid (none_some w h)
  have cP := fun w => W_hid (parsed (w := w) hs)
  rw [hp] at cP
  have cV := fun (ao : Option Addr) (n cap : Nat) (w' : World) (hb : Below w.heap.size w w') (hl : SS w' ao n cap (PM.pN s)) => vacant_any (PM.pA s) (PM.pD s) 1 (PM.pN s) ao n cap w' (h.keep hb) hl (pN_sm s)
  unfold vacant at hv
  rw [hv] at cV
  have hz := last_le s
  simp only [pv, er, plv] at cV
  generalize PM.pN s = l at cP cV hv hz ⊢
  generalize PM.pD s = d at cP cV hv
  generalize PM.pA s = a at cP cV
  generalize last l = z at cV hv hz ⊢
  obtain ⟨g, m, hA, hpa, hdb⟩ := h.db hdp
  rw [hpa] at cV
  simp only [IS.ptr] at cV
  replace cV := W_hid cV
  have cM := W_hid (fun (w' : World) (hb : Below w.heap.size w w') => IN.Make_yes 1 n w' (hS0.keep hb) hr hlow hn hL)
  have t0 := W_hid (fun (w' : World) (hb : Below w.heap.size w w') => (h.keep hb).box.cell (j := 0) rfl)
  have cW := fun (pp : Option Addr) (w : World) => W_hid (newNode_file (n : Int) p pp w)
  have hpn : pa A (n : Int) = none := by unfold pa; rw [(h.dom _).2 hfree]; rfl
  have cU := W_hid (fun (w4 : World) (hK : Keeps base (FT A mb) w w4) (hT : TM base w4 tg sg mb A D) => by
    obtain ⟨q1, q2⟩ := hT.dir p g m dp hA hdp
    exact put_any base g m dp.up (pa A dp.up) (nm A dp.l) z hz (n : Int) none w4 ⟨q1, q2⟩ (h.ge.2 p g m hA).2.1 (made_few rfl hfew))
  have H := W_hid h
  have hDp : Hid (∀ (w5 : World), upd D p (some { dp with l := put z (n : Int) dp.l }) = mkD D p z (n : Int) 1) := W_hid (fun _ => by
    funext m'
    unfold mkD upd
    by_cases e : m' = p
    · simp [e, hdp]
    · simp [e])
  have hA := W_hid hA
  have hdp := W_hid hdp
  have hpn := W_hid hpn
  clear h hv hp hS0 hpa hdb hr hlow hfree
  go_enter Tryz.func24, Tryz.ntmps24
  go_wp2_with fail
  refine cN.out.mono ?_
  rintro e w1 ⟨rfl, b1⟩
  have B1 := W_hid b1
  clear b1 cN
  go_wp2_with fail
  refine (cP _).out.mono ?_
  rintro e w2 ⟨ao, n0, cap, rfl, hS, b2⟩
  have b2' : Below w.heap.size w w2 := B1.out.trans (b2.mono B1.out.size)
  have b3 := b2'.alloc b2'.size (.cells #[.bool a, .slice ao n0 cap, .bool d] 99)
  have p2 : Blk (w2.alloc (.cells #[.bool a, .slice ao n0 cap, .bool d] 99)) w2.heap.size 99 [.bool a, .slice ao n0 cap, .bool d] := Blk.new _ _ _ rfl
  have c0 := p2.cell (j := 0) rfl
  have c1 := p2.cell (j := 1) rfl
  have c2 := p2.cell (j := 2) rfl
  have cV1 := W_hid (cV.out ao n0 cap _ b3 (hS.alloc _))
  have B3 := W_hid b3
  clear b2 b2' hS b3 p2 cV
  go_wp2_with fail
  refine cV1.out.mono ?_
  rintro e w3 ⟨rfl, b4⟩
  have b4' := B3.out.trans (b4.mono B3.out.size)
  have b5 := b4'.alloc b4'.size (.cells #[.int .i64 p, .pointer (some ⟨g, 0, none⟩), .string z, .bool d] 110)
  have q3 : Blk (w3.alloc (.cells #[.int .i64 p, .pointer (some ⟨g, 0, none⟩), .string z, .bool d] 110)) w3.heap.size 110 [.int .i64 p, .pointer (some ⟨g, 0, none⟩), .string z, .bool d] := Blk.new _ _ _ rfl
  have q3 := W_hid q3
  have t1 := t0.out _ b5
  have cM1 := W_hid (cM.out _ b5)
  have B4 := W_hid b5
  have hw3 := W_hid b4'.size
  clear b4 b4' b5 cV1 cM t0
  go_wp2_with fail
  refine cM1.out.mono ?_
  rintro e w4 ⟨rfl, hPS, hK⟩
  have q4 : Blk w4 w3.heap.size 110 [.int .i64 p, .pointer (some ⟨g, 0, none⟩), .string z, .bool d] := hK.block _ _ q3.out (by simp [IN.PT])
  have hT4 := (H.out.keep B4.out).store hK
  have hK4 : Keeps base (FT A mb) w w4 := (Keeps.new B4.out H.out.low).trans (keeps_store hK)
  have d0 := q4.cell (j := 0) rfl
  have d1 := q4.cell (j := 1) rfl
  have d2 := q4.cell (j := 2) rfl
  have next : ∀ w5, Below w4.heap.size w4 w5 → (w5.cell? ⟨w3.heap.size, 0, none⟩ = some (.int .i64 p) ∧ w5.cell? ⟨w3.heap.size, 1, none⟩ = some (.pointer (some ⟨g, 0, none⟩)) ∧ w5.cell? ⟨w3.heap.size, 2, none⟩ = some (.string z)) ∧ Hid ((∃ M', IN.PS base w5 sg mb M' I L B k (IN.upd S (n : Int) (some (IN.newNd 1)))) ∧ TM base w5 tg sg mb A D ∧ Keeps base (FT A mb) w w5 ∧ Blk w5 w3.heap.size 110 [.int .i64 p, .pointer (some ⟨g, 0, none⟩), .string z, .bool d]) := fun w5 b5 => by
    have q5 := q4.keep b5
    obtain ⟨M', hp'⟩ := hPS
    exact ⟨⟨q5.cell (j := 0) rfl, q5.cell (j := 1) rfl, q5.cell (j := 2) rfl⟩, W_hid ⟨⟨M', hp'.keep b5⟩, hT4.keep b5, hK4.trans (Keeps.new b5 hT4.low), q5⟩⟩
  have hm3 : Hid (w3.heap.size ≠ m) := W_hid (by
    have h1 := (H.out.dir p g m dp hA.out hdp.out).2.lt
    have h2 := B3.out.size
    have h3 := hw3.out
    omega)
  replace next := W_hid next
  have hPS := W_hid hPS
  have hT4 := W_hid hT4
  have hK4 := W_hid hK4
  clear cM1 hK q4 q3
  go_wp2_with fail
  go_region_held3 (fun w' => w'.cell? ⟨w3.heap.size, 0, none⟩ = some (.int .i64 p) ∧ w'.cell? ⟨w3.heap.size, 1, none⟩ = some (.pointer (some ⟨g, 0, none⟩)) ∧ w'.cell? ⟨w3.heap.size, 2, none⟩ = some (.string z)) (first | assumption | go_keep)
    (first
      | (go_at_call 61; refine (cW _ _).out.mono ?_; rintro e w5 ⟨rfl, b5⟩; obtain ⟨S5, H5⟩ := next.out w5 (bundrew b5); clear b5)
      | (go_at_call 60; refine (cU.out _ H5.out.2.2.1 H5.out.2.1).mono ?_; rintro e w6 ⟨rfl, hM6, hK6⟩; have q6 := (show Blk w6 w3.heap.size 110 [.int .i64 p, .pointer (some ⟨g, 0, none⟩), .string z, .bool d] from hK6.block _ _ H5.out.2.2.2 fun h => hm3.out h.1); have S6 : w6.cell? ⟨w3.heap.size, 0, none⟩ = some (.int .i64 p) ∧ w6.cell? ⟨w3.heap.size, 1, none⟩ = some (.pointer (some ⟨g, 0, none⟩)) ∧ w6.cell? ⟨w3.heap.size, 2, none⟩ = some (.string z) := ⟨q6.cell (j := 0) rfl, q6.cell (j := 1) rfl, q6.cell (j := 2) rfl⟩))
  all_goals
    have hT6 := H5.out.2.1.turn hA.out hdp.out (l' := put z (n : Int) dp.l) (by rw [nm_put, hpn.out]; exact hM6) hK6
    have hfin := W_hid (show (∃ M', IN.PS base w6 sg mb M' I L B k (IN.upd S (n : Int) (some (IN.newNd 1)))) ∧ TM base w6 tg sg mb A (mkD D p z (n : Int) 1) ∧ Keeps base (FT A mb) w w6 from by
      obtain ⟨⟨M', h1⟩, h2, h3, h4⟩ := H5.out
      have hb := H.out.ge.2 p g m hA.out
      refine ⟨⟨M', h1.keeps hK6 (by simp [One]) (by simp [One]) (by simp [One, hb.2.2.symm]) (by simp [One])⟩, ?_, h3.trans (keeps_one hA.out hK6)⟩
      rw [← hDp.out w]
      exact hT6)
    clear hT6 q6 S6 hM6 hK6 H5
    go_wp2_with fail
    go_ret2
    exact ⟨rfl, hfin.out⟩
set_option maxRecDepth 100000 in
set_option maxHeartbeats 8000000 in
theorem Make_dir (I L B k : Nat) (M : Int → Option Nat) (S : Int → Option IN.Nd) (s : ByteArray) (hs : s.size ≤ maxLen) (w : World) (h : TM base w tg sg mb A D) (hS0 : IN.PS base w sg mb M I L B k S) (hp : PM.perr s = 0) (p : Int) (hv : vacant D 2 s = .ok p) (dp : Dr) (hdp : D p = some dp) (hfew : dp.l.length < 65536)
    (n : Nat) (hr : IN.mkR I S 2 = 0) (hlow : IN.Low S n) (hn : n ≤ I) (hL : 1 ≤ L) (hfree : D (n : Int) = none) (hFree : Free D (n : Int)) :
    Calls Tryz.prog 24 #[.pointer (some ⟨tg, 0, none⟩), .string s, .int .i64 2] w fun e w' => e = .returned (.tuple #[.int .i64 (n : Int), .int .i64 0]) ∧ (∃ M', IN.PS base w' sg mb M' I L B k (IN.upd S (n : Int) (some (IN.newNd 2)))) ∧ (∃ A', TM base w' tg sg mb A' (mkD D p (last (PM.pN s)) (n : Int) 2)) ∧ Keeps base (FT A mb) w w' := by
  have cN := W_hid (none_some w h)
  have cP := fun w => W_hid (parsed (w := w) hs)
  rw [hp] at cP
  have cV := fun (ao : Option Addr) (n cap : Nat) (w' : World) (hb : Below w.heap.size w w') (hl : SS w' ao n cap (PM.pN s)) => vacant_any (PM.pA s) (PM.pD s) 2 (PM.pN s) ao n cap w' (h.keep hb) hl (pN_sm s)
  unfold vacant at hv
  rw [hv] at cV
  have hz := last_le s
  simp only [pv, er, plv] at cV
  generalize PM.pN s = l at cP cV hv hz ⊢
  generalize PM.pD s = d at cP cV hv
  generalize PM.pA s = a at cP cV
  generalize last l = z at cV hv hz ⊢
  obtain ⟨g, m, hA, hpa, hdb⟩ := h.db hdp
  rw [hpa] at cV
  simp only [IS.ptr] at cV
  replace cV := W_hid cV
  have cM := W_hid (fun (w' : World) (hb : Below w.heap.size w w') => IN.Make_yes 2 n w' (hS0.keep hb) hr hlow hn hL)
  have t0 := W_hid (fun (w' : World) (hb : Below w.heap.size w w') => (h.keep hb).box.cell (j := 0) rfl)
  have cW := fun (pp : Option Addr) (w : World) => W_hid (newNode_dir (n : Int) p pp w)
  have hpnn : p ≠ (n : Int) := fun e => by rw [e, hfree] at hdp; cases hdp
  have cU := W_hid (fun (A' : Int → Option (Nat × Nat)) (g' : Nat) (w5 : World) (hA' : A' p = some (g, m)) (hT : TM base w5 tg sg mb A' (upd D (n : Int) (some ⟨p, []⟩))) => by
    obtain ⟨q1, q2⟩ := hT.dir p g m dp hA' (by rw [upd_ne hpnn]; exact hdp)
    exact put_any base g m dp.up (pa A' dp.up) (nm A' dp.l) z hz (n : Int) (some g') w5 ⟨q1, q2⟩ (h.ge.2 p g m hA).2.1 (made_few rfl hfew))
  have H := W_hid h
  have hDp : Hid (∀ (w5 : World), upd (upd D (n : Int) (some ⟨p, []⟩)) p (some { dp with l := put z (n : Int) dp.l }) = mkD D p z (n : Int) 2) := W_hid (fun _ => by
    funext m'
    unfold mkD upd
    by_cases e : m' = p
    · simp [e, hdp]
    · by_cases e2 : m' = (n : Int)
      · simp [e, e2]
        split <;> simp_all
      · simp [e, e2])
  have hA := W_hid hA
  have hpnn := W_hid hpnn
  have hdp := W_hid hdp
  have hfr := W_hid (And.intro hfree hFree)
  clear h hv hp hS0 hpa hdb hr hlow hfree hFree
  go_enter Tryz.func24, Tryz.ntmps24
  go_wp2_with fail
  refine cN.out.mono ?_
  rintro e w1 ⟨rfl, b1⟩
  have B1 := W_hid b1
  clear b1 cN
  go_wp2_with fail
  refine (cP _).out.mono ?_
  rintro e w2 ⟨ao, n0, cap, rfl, hS, b2⟩
  have b2' : Below w.heap.size w w2 := B1.out.trans (b2.mono B1.out.size)
  have b3 := b2'.alloc b2'.size (.cells #[.bool a, .slice ao n0 cap, .bool d] 99)
  have p2 : Blk (w2.alloc (.cells #[.bool a, .slice ao n0 cap, .bool d] 99)) w2.heap.size 99 [.bool a, .slice ao n0 cap, .bool d] := Blk.new _ _ _ rfl
  have c0 := p2.cell (j := 0) rfl
  have c1 := p2.cell (j := 1) rfl
  have c2 := p2.cell (j := 2) rfl
  have cV1 := W_hid (cV.out ao n0 cap _ b3 (hS.alloc _))
  have B3 := W_hid b3
  clear b2 b2' hS b3 p2 cV
  go_wp2_with fail
  refine cV1.out.mono ?_
  rintro e w3 ⟨rfl, b4⟩
  have b4' := B3.out.trans (b4.mono B3.out.size)
  have b5 := b4'.alloc b4'.size (.cells #[.int .i64 p, .pointer (some ⟨g, 0, none⟩), .string z, .bool d] 110)
  have q3 : Blk (w3.alloc (.cells #[.int .i64 p, .pointer (some ⟨g, 0, none⟩), .string z, .bool d] 110)) w3.heap.size 110 [.int .i64 p, .pointer (some ⟨g, 0, none⟩), .string z, .bool d] := Blk.new _ _ _ rfl
  have q3 := W_hid q3
  have t1 := t0.out _ b5
  have cM1 := W_hid (cM.out _ b5)
  have B4 := W_hid b5
  have hw3 := W_hid b4'.size
  clear b4 b4' b5 cV1 cM t0
  go_wp2_with fail
  refine cM1.out.mono ?_
  rintro e w4 ⟨rfl, hPS, hK⟩
  have q4 : Blk w4 w3.heap.size 110 [.int .i64 p, .pointer (some ⟨g, 0, none⟩), .string z, .bool d] := hK.block _ _ q3.out (by simp [IN.PT])
  have hT4 := (H.out.keep B4.out).store hK
  have hK4 : Keeps base (FT A mb) w w4 := (Keeps.new B4.out H.out.low).trans (keeps_store hK)
  have d0 := q4.cell (j := 0) rfl
  have d1 := q4.cell (j := 1) rfl
  have d2 := q4.cell (j := 2) rfl
  have next : ∀ w5 (g' m' : Nat), Below w4.heap.size w4 w5 → w4.heap.size ≤ g' → w4.heap.size ≤ m' → Blk w5 g' 126 [.int .i64 p, .pointer (some ⟨g, 0, none⟩), .map (some m')] → NS.MB w5 m' (fun _ => none) → (w5.cell? ⟨w3.heap.size, 0, none⟩ = some (.int .i64 p) ∧ w5.cell? ⟨w3.heap.size, 1, none⟩ = some (.pointer (some ⟨g, 0, none⟩)) ∧ w5.cell? ⟨w3.heap.size, 2, none⟩ = some (.string z)) ∧ Hid ((∃ M', IN.PS base w5 sg mb M' I L B k (IN.upd S (n : Int) (some (IN.newNd 2)))) ∧ TM base w5 tg sg mb (updA A (n : Int) (some (g', m'))) (upd D (n : Int) (some ⟨p, []⟩)) ∧ Keeps base (FT A mb) w w5 ∧ Blk w5 w3.heap.size 110 [.int .i64 p, .pointer (some ⟨g, 0, none⟩), .string z, .bool d]) := fun w5 g' m' b5 hg5 hm5 hb5 hM5 => by
    have q5 := q4.keep b5
    obtain ⟨M', hp'⟩ := hPS
    have hT5 := hT4.keep b5
    have hpp : IS.ptr (pa A p) = .pointer (some ⟨g, 0, none⟩) := by unfold pa; rw [hA.out]; rfl
    refine ⟨⟨q5.cell (j := 0) rfl, q5.cell (j := 1) rfl, q5.cell (j := 2) rfl⟩, W_hid ⟨⟨M', hp'.keep b5⟩, hT5.grow hfr.out.1 hfr.out.2 (by rw [hdp.out]; simp) (by rw [hpp]; exact hb5) hM5 (fun n' g1 m1 hA1 => ?_) ⟨Nat.le_trans hT4.low hg5, Nat.le_trans hT4.low hm5, ?_⟩, hK4.trans (Keeps.new b5 hT4.low), q5⟩⟩
    · obtain ⟨d1, _, p1, p2⟩ := hT4.hasA hA1
      have := p1.lt
      have := p2.lt
      exact ⟨by omega, by omega⟩
    · have := hp'.pm.mp.lt
      omega
  have hm3 : Hid (w3.heap.size ≠ m) := W_hid (by
    have h1 := (H.out.dir p g m dp hA.out hdp.out).2.lt
    have h2 := B3.out.size
    have h3 := hw3.out
    omega)
  replace next := W_hid next
  have hPS := W_hid hPS
  have hT4 := W_hid hT4
  have hK4 := W_hid hK4
  clear cM1 hK q4 q3
  go_wp2_with fail
  go_region_held3 (fun w' => w'.cell? ⟨w3.heap.size, 0, none⟩ = some (.int .i64 p) ∧ w'.cell? ⟨w3.heap.size, 1, none⟩ = some (.pointer (some ⟨g, 0, none⟩)) ∧ w'.cell? ⟨w3.heap.size, 2, none⟩ = some (.string z)) (first | assumption | go_keep)
    (first
      | (go_at_call 61; refine (cW _ _).out.mono ?_; rintro e w5 ⟨g', m', rfl, hg5, hm5, -, hb5, hM5, b5⟩; obtain ⟨S5, H5⟩ := next.out w5 g' m' (bundrew b5) hg5 hm5 hb5 hM5; clear b5 hg5 hm5 hb5 hM5)
      | (go_at_call 60; refine (cU.out _ _ _ (by rw [updA_ne hpnn.out]; exact hA.out) H5.out.2.1).mono ?_; rintro e w6 ⟨rfl, hM6, hK6⟩; have q6 := (show Blk w6 w3.heap.size 110 [.int .i64 p, .pointer (some ⟨g, 0, none⟩), .string z, .bool d] from hK6.block _ _ H5.out.2.2.2 fun h => hm3.out h.1); have S6 : w6.cell? ⟨w3.heap.size, 0, none⟩ = some (.int .i64 p) ∧ w6.cell? ⟨w3.heap.size, 1, none⟩ = some (.pointer (some ⟨g, 0, none⟩)) ∧ w6.cell? ⟨w3.heap.size, 2, none⟩ = some (.string z) := ⟨q6.cell (j := 0) rfl, q6.cell (j := 1) rfl, q6.cell (j := 2) rfl⟩))
  all_goals
    have hA6 : updA A (n : Int) (some (g', m')) p = some (g, m) := by rw [updA_ne hpnn.out]; exact hA.out
    have hT6 := H5.out.2.1.turn hA6 (by rw [upd_ne hpnn.out]; exact hdp.out) (l' := put z (n : Int) dp.l) (by rw [nm_put, show pa (updA A (n : Int) (some (g', m'))) (n : Int) = some g' from by unfold pa; rw [updA_at]; rfl]; exact hM6) hK6
    have hfin := W_hid (show (∃ M', IN.PS base w6 sg mb M' I L B k (IN.upd S (n : Int) (some (IN.newNd 2)))) ∧ (∃ A', TM base w6 tg sg mb A' (mkD D p z (n : Int) 2)) ∧ Keeps base (FT A mb) w w6 from by
      obtain ⟨⟨M', h1⟩, h2, h3, h4⟩ := H5.out
      have hb := H.out.ge.2 p g m hA.out
      refine ⟨⟨M', h1.keeps hK6 (by simp [One]) (by simp [One]) (by simp [One, hb.2.2.symm]) (by simp [One])⟩, ⟨updA A (n : Int) (some (g', m')), ?_⟩, h3.trans (keeps_one hA.out hK6)⟩
      rw [← hDp.out w]
      exact hT6)
    clear hT6 q6 S6 hM6 hK6 H5 hA6
    go_wp2_with fail
    go_ret2
    exact ⟨rfl, hfin.out⟩
end
end NT
end Go.Proofs.YtbloiilinofklaaGreat

/- The numbers of the tables, in the order in which the map gives them. -/
namespace Go.Proofs.YtbloiilinofklaaGreat
open Go.ChangeShapes Go.WideShapes Go.ChangeAt Go.RowKit Go.Shelf Go.Maps
set_option linter.unusedVariables false
set_option linter.unusedSimpArgs false
attribute [local go_sem] Oper.semAt_some
namespace IS

def nk (f : Nat) : Value := .int .i64 (f : Int)
theorem nk_inj {f g : Nat} (h : nk f = nk g) : f = g := by
  simp only [nk, Value.int.injEq, true_and] at h
  omega

/-- What has come: no number twice; those that are there and no longer to come. -/
structure Come (D : DataW Unit) (left : Lit → Bool) (ss : List Nat) : Prop where
  once : ss.Nodup
  iff : ∀ f : Nat, f ∈ ss ↔ f < 65536 ∧ Maps.has D (key f) = true ∧ left (key f) = false

theorem Come.start (D : DataW Unit) : Come D (Maps.has D) [] :=
  ⟨List.nodup_nil, fun f => by cases Maps.has D (key f) <;> simp⟩

theorem Come.step {D : DataW Unit} {left : Lit → Bool} {ss : List Nat} (h : Come D left ss) {x : Nat} {y : DataW Unit} (hx : x < 65536) (hlk : left (key x) = true) (hat : ∀ z, D.atKey (key x) z = y) :
    Come D (fun z => left z && !z.sameKey (key x)) (ss ++ [x]) := by
  have hhas : Maps.has D (key x) = true := has_true_of_atKey hat
  have hnew : x ∉ ss := fun hm => by have := ((h.iff x).1 hm).2.2; rw [hlk] at this; cases this
  refine ⟨List.nodup_append.2 ⟨h.once, by simp, fun a ha b hb => by simp at hb; subst hb; exact fun e => hnew (e ▸ ha)⟩, fun f => ?_⟩
  rw [List.mem_append, List.mem_singleton, h.iff f]
  by_cases e : f = x
  · subst e
    have : (key f).sameKey (key f) = true := WideAt.sameKey_self (isKey f (i64_nat hx))
    simp [hhas, this, hx]
  · have : (key f).sameKey (key x) = false := by
      simp only [key, Lit.sameKey]
      simp
      omega
    simp [e, this]

set_option maxRecDepth 100000 in
set_option maxHeartbeats 1000000 in
theorem keys1_in (F : Fence) (n : Nat) (hf : F.fn 87) (hro : F.round = none) (hn : 1 ≤ n) (l Bm b N : Nat) (M : Int → Option Nat) (J Jx : List Nat → World → Prop)
    (D : DataW Unit) (hN : Maps.size D ≤ N)
    (hY : ∀ pre x W, J pre W → pre.length < N → YieldAt F (n - 1) Tryz.prog l #[nk x] W fun e W' => (e = .returned (.bool true) ∧ J (pre ++ [x]) W' ∧ KeepsWalks W W') ∨ (e = .returned (.bool false) ∧ Jx (pre ++ [x]) W'))
    (W : World) (hJ : AbidesFrom W.heap.size J) (hm : W.cell? ⟨Bm, 0, none⟩ = some (.map (some b)))
    (hown : W.ownsMap Tryz.prog 3 PR b (Maps.size D) D) (hhas : ∀ f, I64 f → Maps.has D (key f) = (M f).isSome) (hbd : ∀ f, M f ≠ none → 0 ≤ f ∧ f < 65536) (h0 : J [] W) :
    CallsIn F n Tryz.prog 87 #[.func (.yield l) #[] #[], .pointer (some ⟨Bm, 0, none⟩)] W fun e W' => (∃ v, e = .returned v) ∧
      ((∃ ss, Nums M ss ∧ J ss W') ∨ (∃ pre, True ∧ Jx pre W')) := by
  refine callsIn_of_wp Tryz.func87 rfl hf ?_ hro
  simp only [Tryz.ntmps87, List.size_toArray, List.length_cons, List.length_nil, Nat.reduceAdd, Nat.reduceSub, Array.replicate_succ, Array.replicate_zero, List.push_toArray, List.append_toArray, List.nil_append, List.cons_append]
  gi_wp2_with (first
    | (gi_at_range; refine wpListIn_range_own _ rfl _ 82 rfl 3 90 keyed_int und_map PR b (Maps.size D) D rfl hown ?_; intro w0 hrg0 hg0 hs0)
    | gi_in)
  go_frame
  gi_loopw [3] (fun _ wr => ∃ (left : Lit → Bool) (cnt : Nat) (ss : List Nat), wr.ranges Tryz.prog 3 PR b W.heap.size (Maps.size D) D left cnt ∧ ss.length + cnt ≤ Maps.size D ∧ Come D left ss ∧ J ss wr)
    (fun _ wr => wr.rangeLeft b W.heap.size)
  case atStart =>
    exact ⟨_, _, [], hrg0, by simp, Come.start D, hJ [] W w0 none h0 hg0 (fun r e => by cases e)⟩
  case round =>
    obtain ⟨left, cnt, ss, hrg, hcs, hC, hJs⟩ := hrel
    gi_wp2_with (first
      | (gi_at_next; refine wpListIn_next_ranges _ rfl _ rfl 3 keyed_int PR (Value.int .i64) id (fun k kl hk => by obtain ⟨x, rfl, hx, hwf⟩ := Maps.keyOf_int_inv und_int hk; exact ⟨x, rfl⟩) (fun v _ _ => ⟨v, rfl⟩) b W.heap.size (Maps.size D) _ _ _ rfl hrg ?_ ?_)
      | gi_in)
    · intro hc0 hl0
      gi_wp2
      go_end0
      refine ⟨⟨_, rfl⟩, .inl ⟨ss, ⟨hC.once, fun f => ?_⟩, hJs⟩⟩
      rw [hC.iff f, hl0]
      constructor
      · rintro ⟨h1, h2, -⟩ h3
        rw [hhas f (i64_nat h1), h3] at h2
        cases h2
      · intro h
        have h1 := hbd f h
        refine ⟨by omega, ?_, rfl⟩
        rw [hhas f (i64_nat (by omega))]
        cases e : M f with
        | none => exact absurd e h
        | some _ => rfl
    · intro x c kl yd yp w2 cnt2 hkey hlk hv hat hrg2 hlt hg2 hs2 hen
      have hx : kl = key x ∧ I64 x := by
        obtain ⟨x', e, rfl, hwf⟩ := Maps.keyOf_int_inv und_int hkey
        simp only [Value.int.injEq, true_and] at e
        subst e
        exact ⟨rfl, wf_bounds hwf⟩
      obtain ⟨rfl, hI⟩ := hx
      have hh1 : Maps.has D (key x) = true := has_true_of_atKey hat
      rw [hhas x hI] at hh1
      have hbx := hbd x (fun e => by rw [e] at hh1; cases hh1)
      obtain ⟨x, rfl⟩ : ∃ n : Nat, x = (n : Int) := ⟨x.toNat, by omega⟩
      have hx : x < 65536 := by omega
      rw [show Value.int .i64 (x : Int) = nk x from rfl] at hen ⊢
      have hJ2 : J ss w2 := hJ ss wr w2 (some W.heap.size) hJs hg2 (fun r e => by cases e; exact ⟨Nat.le_refl _, hrg.iter_walk⟩)
      obtain ⟨fn, tmps, assign, body, hy, hR⟩ := hY ss x w2 hJ2 (by omega)
      clear hs2
      gi_wp2
      refine hR.mono ?_
      have hC2 := hC.step hx hlk hat
      rintro e W3 (⟨rfl, hJ3, hk3⟩ | ⟨rfl, hJx3⟩)
      · gi_wp2
        have hrg3 := hrg2.of_walks hk3
        go_roundw
        case rel => exact ⟨_, cnt2, ss ++ [x], hrg3, by simp; omega, hC2, hJ3⟩
        case measure => rw [hrg3.left_eq, hrg.left_eq]; exact hlt
      · gi_wp2
        refine bodyPost_ret (results_none rfl _ _ _) rfl ?_
        exact ⟨⟨_, rfl⟩, .inr ⟨ss ++ [x], trivial, hJx3⟩⟩

/-- The value that Keys hands back gives every table's number, once. -/
theorem keys_seq (F : Fence) (n : Nat) (hf : F.fn 87) (hro : F.round = none) (hn : 1 ≤ n) (Bm b : Nat) (M : Int → Option Nat) (w : World) (hBm : Bm < w.heap.size) (hb : b < w.heap.size)
    (hm : w.cell? ⟨Bm, 0, none⟩ = some (.map (some b))) (hMB : MB w b M) :
    SeqStopsK F n Tryz.prog 87 #[.pointer (some ⟨Bm, 0, none⟩)] (fun x => #[nk x]) KeepsWalks (Nums M) (fun _ => True) 65536 w := fun l J Jx W hW hJ _ hY h0 => by
  obtain ⟨D, hown, hhas, hat⟩ := hMB.ex
  have hsz : Maps.size D ≤ 65536 := by
    obtain ⟨ss, hN, hL⟩ := own_nums hown hhas hMB.bound
    rw [← hL]
    exact nodup_le 65536 ss hN.1 fun x hx => by have := hMB.bound x ((hN.2 x).1 hx); omega
  have hown' : W.ownsMap Tryz.prog 3 PR b (Maps.size D) D := by
    obtain ⟨es, clock, hb', Ft, hs, hD⟩ := hown
    exact ⟨es, clock, (hW.block b hb).trans hb', Ft, hs, hD⟩
  exact keys1_in F n hf hro hn l Bm b 65536 M J Jx D hsz hY W hJ ((hW.cell (p := ⟨Bm, 0, none⟩) hBm).trans hm) hown' hhas hMB.bound h0

set_option maxRecDepth 100000 in
set_option maxHeartbeats 1000000 in
theorem Keys_any (b : Nat) (w : World) :
    Calls Tryz.prog 45 #[.map (some b)] w fun e w' => e = .returned (.func (.func 87) #[] #[.pointer (some ⟨w.heap.size, 0, none⟩)]) ∧ w' = w.alloc (.cells #[.map (some b)] 82) := by
  go_enter Tryz.func45, Tryz.ntmps45
  go_wp2
  go_ret
  exact ⟨rfl, rfl⟩
end IS
end Go.Proofs.YtbloiilinofklaaGreat

/- What an iterator gives, collected. -/
namespace Go.Proofs.YtbloiilinofklaaGreat
open Go.ChangeShapes Go.WideShapes Go.ChangeAt Go.RowKit Go.Shelf Go.Maps
set_option linter.unusedVariables false
set_option linter.unusedSimpArgs false
attribute [local go_sem] Oper.semAt_some
namespace IS

theorem one_int : (Tryz.prog.info? 3).map (fun i => (i.zero, i.size, i.bytes)) = some (some (.int .i64 0), 1, 8) := by kernel_rfl
theorem und_nums : Tryz.prog.underlying 85 = some (.slice 3) := by kernel_rfl

set_option maxRecDepth 100000 in
set_option maxHeartbeats 2000000 in
theorem append_in (F : Fence) (n : Nat) (hf : F.fn 105) (hro : F.round = none) (hn : 2 ≤ n) (g : Nat) (lb : Array Value) (hg : F.fn g) (eg : ∀ args w, (callFunc g args).run Tryz.prog w = .ok (.enter g args) w)
    (S : List Nat → Prop) (N : Nat) (hN : N ≤ 65536) (w : World) (hseq : SeqStopsK F (n - 1) Tryz.prog g lb (fun x => #[nk x]) KeepsWalks S (fun _ => True) N w) :
    CallsIn F n Tryz.prog 105 #[.slice none 0 0, .func (.func g) #[] lb] w fun e w' => ∃ (v : Value) (ss : List Nat), e = .returned v ∧ S ss ∧ w'.ownsRow w.heap.size 3 1 v ss.length (ss.map nk) ∧ (v = .slice none 0 0 ↔ ss = []) ∧ Below w.heap.size w w' := by
  have h1 : 1 ≤ n := by omega
  obtain ⟨i0, hi, hz0, hz1, hz2⟩ := info_parts one_int
  refine callsIn_of_wp_marks Tryz.func105 rfl hf ?_ hro
  simp only [Tryz.ntmps105, List.size_toArray, List.length_cons, List.length_nil, Nat.reduceAdd, Nat.reduceSub, Array.replicate_succ, Array.replicate_zero, List.push_toArray, List.append_toArray, List.nil_append, List.cons_append]
  gi_wp2
  have bO := Boxed.new w 85 (.slice none 0 0)
  have hB0 : Below w.heap.size w (w.alloc (.cells #[.slice none 0 0] 85)) := (Below.refl _ w).alloc (Nat.le_refl _) _
  refine wpIn_rangeFunc_ownG hro h1 (gf := g) (lb := lb) rfl hg eg
    hseq walksK_t walksK_b hB0 (fun _ => rfl)
    (fun pre W => (∃ v, Boxed W w.heap.size 85 v ∧ W.ownsRow w.heap.size 3 1 v pre.length (pre.map nk) ∧ (v = .slice none 0 0 ↔ pre = [])) ∧ Below w.heap.size w W)
    (fun _ _ _ => False)
    (OwnFrom.and (Own.from (holdsRow_own w.heap.size w.heap.size 85 3 1 (fun pre : List Nat => pre.length) (fun pre : List Nat => pre.map nk) (fun pre v => v = .slice none 0 0 ↔ pre = [])) _) (ownFrom_below (Nat.le_refl _) (by simp)))
    (fun _ _ _ _ _ hs _ _ => hs)
    ⟨⟨_, bO, World.ownsRow_nil _ _ _ _, by simp⟩, hB0⟩
    (fun x => { tmps := #[.slice none 0 0, .func (.func g) #[] lb, .pointer (some ⟨w.heap.size, 0, none⟩), undef, .slice none 0 0, .int .i64 (x : Int), .func (.func g) #[] lb, .int .i64 (x : Int), undef, undef, undef, undef, undef], defers := [] }) ?assign ?body ?done ?stop
  case assign =>
    intro l x W K hK
    gi_wp2
    exact hK
  case body =>
    rintro l pre x W ⟨⟨v, hv, hrow, hnil⟩, hB⟩ hlt
    have hc := hv.cell
    gi_wp2_with (gi_at_builtin; refine wpListIn_append_own _ rfl _ _ 85 rfl w.heap.size 3 i0 (.int .i64 0) 1 8 und_nums hi hz0 hz1 hz2 rfl (by decide) _ _ _ rfl (hrow.alloc _) ⟨W.heap.size, 0, none⟩ 1 1 [.int .i64 (x : Int)] rfl rfl (cell_one_new _ _ _) (by simp [Value.oneCell', nk]) (by simp only [maxLen]; omega) (by omega) (by have := hB.size; simp; omega) ?_; intro v' w1 hown' hgrow _; obtain ⟨g', cap', rfl⟩ := ownsRow_succ hown'; obtain ⟨hv1, hv2, hr2, hk2, hb2⟩ := hv.appended (by decide) hrow hB.size (Nat.le_refl _) hown' hgrow; have hc1 := hv1.cell; have hf1 := hv1.frozen)
    exact ⟨hk2.from _, hk2.walks, ⟨_, hv2, by simpa [nk] using hr2, by simp⟩, hB.trans hb2⟩
  case done =>
    rintro D ys W hD hS ⟨⟨v, hv, hrow, hnil⟩, hB⟩ hK
    have hc := hv.cell
    have hf := hv.frozen
    gi_wp2
    refine ⟨by simp, .inl ⟨_, _, rfl, run_takeDeferred hK, ?_⟩⟩
    exact ⟨_, results_tmp rfl _ _ _, v, ys, rfl, hS, ownsRow_putObj hrow _ hK rfl, hnil, hB.trans (belowK_b (w := w) (Nat.le_refl _) W D _ _ (by simp at hD; omega) hK rfl rfl)⟩
  case stop =>
    rintro D c pre W _ _ h _
    exact h.elim

set_option maxRecDepth 100000 in
set_option maxHeartbeats 1000000 in
theorem collect_in (F : Fence) (n : Nat) (h8 : F.fn 85) (hf : F.fn 105) (hro : F.round = none) (hn : 3 ≤ n) (g : Nat) (lb : Array Value) (hg : F.fn g) (eg : ∀ args w, (callFunc g args).run Tryz.prog w = .ok (.enter g args) w)
    (S : List Nat → Prop) (N : Nat) (hN : N ≤ 65536) (w : World) (hseq : SeqStopsK F (n - 1 - 1) Tryz.prog g lb (fun x => #[nk x]) KeepsWalks S (fun _ => True) N w) :
    CallsIn F n Tryz.prog 85 #[.func (.func g) #[] lb] w fun e w' => ∃ (v : Value) (ss : List Nat), e = .returned v ∧ S ss ∧ w'.ownsRow w.heap.size 3 1 v ss.length (ss.map nk) ∧ (v = .slice none 0 0 ↔ ss = []) ∧ Below w.heap.size w w' := by
  have h1 : 1 ≤ n := by omega
  refine callsIn_of_wp Tryz.func85 rfl h8 ?_ hro
  simp only [Tryz.ntmps85, List.size_toArray, List.length_cons, List.length_nil, Nat.reduceAdd, Nat.reduceSub, Array.replicate_succ, Array.replicate_zero, List.push_toArray, List.append_toArray, List.nil_append, List.cons_append]
  gi_wp2_with (gi_at_call 105; refine (append_in F (n - 1) hf hro (by omega) g lb hg eg S N hN _ hseq).mono ?_; rintro e w' ⟨v, ss, rfl, hS, hrow, hnil, hb⟩)
  go_ret
  exact ⟨v, ss, rfl, hS, hrow, hnil, hb⟩

theorem enters_keys1 : ∀ args w, (callFunc 87 args).run Tryz.prog w = .ok (.enter 87 args) w :=
  enters_of Tryz.func87 (by kernel_rfl) rfl

/-- Collect(Keys(m)). -/
theorem Collect_any (Bm b : Nat) (M : Int → Option Nat) (w : World) (hBm : Bm < w.heap.size) (hb : b < w.heap.size) (hm : w.cell? ⟨Bm, 0, none⟩ = some (.map (some b))) (hMB : MB w b M) :
    Calls Tryz.prog 85 #[.func (.func 87) #[] #[.pointer (some ⟨Bm, 0, none⟩)]] w fun e w' => ∃ (v : Value) (ss : List Nat), e = .returned v ∧ Nums M ss ∧ w'.ownsRow w.heap.size 3 1 v ss.length (ss.map nk) ∧ (v = .slice none 0 0 ↔ ss = []) ∧ Below w.heap.size w w' := by
  refine (callsIn_wide (n := 6)).1 ?_
  exact collect_in Fence.wide 6 trivial trivial rfl (by omega) _ _ trivial enters_keys1 (Nums M) 65536 (Nat.le_refl _) w (keys_seq Fence.wide 4 trivial rfl (by omega) Bm b M w hBm hb hm hMB)
end IS
end Go.Proofs.YtbloiilinofklaaGreat

/- A row of numbers that is turned by swaps; cmp.Less; the insertion sort. -/
namespace Go.Proofs.YtbloiilinofklaaGreat
open Go.ChangeShapes Go.WideShapes Go.ChangeAt Go.RowKit
set_option linter.unusedVariables false
set_option linter.unusedSimpArgs false
namespace IS

namespace SO
def swp (X : Nat → Nat) (i j : Nat) : Nat → Nat := fun p => if p = i then X j else if p = j then X i else X p
/-- Turned by swaps within a .. b. -/
inductive Sw (a b : Nat) (X : Nat → Nat) : (Nat → Nat) → Prop
  | refl : Sw a b X X
  | step {Y : Nat → Nat} {i j : Nat} : Sw a b X Y → a ≤ i → i < b → a ≤ j → j < b → Sw a b X (swp Y i j)
theorem Sw.trans {a b : Nat} {X Y Z : Nat → Nat} (h : Sw a b X Y) (k : Sw a b Y Z) : Sw a b X Z := by
  induction k with
  | refl => exact h
  | step _ h1 h2 h3 h4 ih => exact ih.step h1 h2 h3 h4
theorem Sw.wide {a b a' b' : Nat} {X Y : Nat → Nat} (h : Sw a b X Y) (ha : a' ≤ a) (hb : b ≤ b') : Sw a' b' X Y := by
  induction h with
  | refl => exact .refl
  | step _ h1 h2 h3 h4 ih => exact ih.step (by omega) (by omega) (by omega) (by omega)
theorem Sw.out {a b : Nat} {X Y : Nat → Nat} (h : Sw a b X Y) : ∀ p, p < a ∨ b ≤ p → Y p = X p := by
  induction h with
  | refl => exact fun _ _ => rfl
  | step _ h1 h2 h3 h4 ih =>
    intro p hp
    rw [← ih p hp]
    unfold swp
    rw [if_neg (by omega), if_neg (by omega)]
theorem Sw.all {a b : Nat} {X Y : Nat → Nat} (h : Sw a b X Y) {P : Nat → Prop} (hX : ∀ p, a ≤ p → p < b → P (X p)) : ∀ p, a ≤ p → p < b → P (Y p) := by
  induction h with
  | refl => exact hX
  | @step Y i j _ h1 h2 h3 h4 ih =>
    intro p hp hp2
    unfold swp
    split
    · exact ih j h3 h4
    · split
      · exact ih i h1 h2
      · exact ih p hp hp2
def lst (X : Nat → Nat) (N : Nat) : List Nat := (List.range N).map X
theorem lst_len (X : Nat → Nat) (N : Nat) : (lst X N).length = N := by simp [lst]
theorem lst_get (X : Nat → Nat) (N i : Nat) (h : i < N) : (lst X N)[i]? = some (X i) := by simp [lst, h]
theorem lst_mem (X : Nat → Nat) (N x : Nat) : x ∈ lst X N ↔ ∃ i, i < N ∧ X i = x := by simp [lst]
def Inj (X : Nat → Nat) (N : Nat) : Prop := ∀ i j, i < N → j < N → X i = X j → i = j
theorem lst_nodup (X : Nat → Nat) (N : Nat) (h : Inj X N) : (lst X N).Nodup := by
  unfold lst List.Nodup
  rw [List.pairwise_map]
  refine List.nodup_range.imp_of_mem ?_
  intro i j hi hj hne e
  exact hne (h i j (List.mem_range.1 hi) (List.mem_range.1 hj) e)
theorem inj_of_nodup (X : Nat → Nat) (N : Nat) (h : (lst X N).Nodup) : Inj X N := by
  intro i j hi hj e
  have h1 := lst_get X N i hi
  have h2 := lst_get X N j hj
  rw [e] at h1
  exact (List.getElem?_inj (by rw [lst_len]; exact hi) h).1 (h1.trans h2.symm)
theorem Sw.inj {a b N : Nat} {X Y : Nat → Nat} (h : Sw a b X Y) (hb : b ≤ N) (hX : Inj X N) : Inj Y N := by
  induction h with
  | refl => exact hX
  | @step Y i j _ h1 h2 h3 h4 ih =>
    intro p q hp hq e
    unfold swp at e
    split at e <;> split at e <;> (try split at e) <;> (try split at e) <;> first
      | (have := ih _ _ (by omega) (by omega) e; omega)
      | omega
theorem Sw.mem {a b N : Nat} {X Y : Nat → Nat} (h : Sw a b X Y) (hb : b ≤ N) : ∀ x, x ∈ lst Y N ↔ x ∈ lst X N := by
  induction h with
  | refl => exact fun _ => Iff.rfl
  | @step Y i j _ h1 h2 h3 h4 ih =>
    intro x
    rw [← ih x, lst_mem, lst_mem]
    constructor
    · rintro ⟨p, hp, rfl⟩
      unfold swp
      split
      · exact ⟨j, by omega, rfl⟩
      · split
        · exact ⟨i, by omega, rfl⟩
        · exact ⟨p, hp, rfl⟩
    · rintro ⟨p, hp, rfl⟩
      by_cases e1 : p = i
      · refine ⟨j, by omega, ?_⟩
        unfold swp
        by_cases e2 : j = i
        · rw [if_pos e2, e1, e2]
        · rw [if_neg e2, if_pos rfl, e1]
      · by_cases e2 : p = j
        · exact ⟨i, by omega, by unfold swp; rw [if_pos rfl, e2]⟩
        · exact ⟨p, hp, by unfold swp; rw [if_neg e1, if_neg e2]⟩
/-- Rising from a up to b. -/
def Up (X : Nat → Nat) (a b : Nat) : Prop := ∀ p q, a ≤ p → p < q → q < b → X p ≤ X q
/-- Rising up to i, but for what stands at j. -/
def Ins (X : Nat → Nat) (a i j : Nat) : Prop := ∀ p q, a ≤ p → p < q → q ≤ i → q ≠ j → X p ≤ X q
theorem ins_start {X : Nat → Nat} {a i : Nat} (h : Up X a i) : Ins X a i i := fun p q h1 h2 h3 h4 => h p q h1 h2 (by omega)
theorem ins_swap {X : Nat → Nat} {a i j : Nat} (h : Ins X a i j) (ha : a < j) (hj : j ≤ i) (hlt : X j < X (j - 1)) : Ins (swp X j (j - 1)) a i (j - 1) := by
  intro p q h1 h2 h3 h4
  unfold swp
  by_cases e1 : q = j
  · rw [if_neg (by omega : p ≠ j), if_pos e1]
    by_cases e2 : p = j - 1
    · rw [if_pos e2]; omega
    · rw [if_neg e2]; exact h p (j - 1) h1 (by omega) (by omega) (by omega)
  · rw [if_neg e1, if_neg h4]
    by_cases e2 : p = j
    · rw [if_pos e2]
      exact h (j - 1) q (by omega) (by omega) h3 e1
    · rw [if_neg e2]
      by_cases e3 : p = j - 1
      · rw [if_pos e3]
        have := h (j - 1) q (by omega) (by omega) h3 e1
        omega
      · rw [if_neg e3]; exact h p q h1 h2 h3 e1
theorem ins_done {X : Nat → Nat} {a i j : Nat} (h : Ins X a i j) (ha : a ≤ j) (hj : j ≤ i) (hd : j = a ∨ X (j - 1) ≤ X j) : Up X a (i + 1) := by
  intro p q h1 h2 h3
  by_cases e : q = j
  · subst e
    rcases hd with hd | hd
    · omega
    · by_cases e2 : p = q - 1
      · rw [e2]; exact hd
      · have := h p (q - 1) h1 (by omega) (by omega) (by omega)
        omega
  · exact h p q h1 h2 (by omega) e
end SO

/-- Block g holds these numbers, and then the rest. -/
structure RW (w : World) (g N : Nat) (X : Nat → Nat) (rest : List Value) : Prop where
  blk : Blk w g 3 ((SO.lst X N).map nk ++ rest)
section
variable {w w' : World} {g N : Nat} {X : Nat → Nat} {rest : List Value}
theorem RW.cell (h : RW w g N X rest) (i : Nat) (hi : i < N) : w.cell? ⟨g, i, none⟩ = some (.int .i64 ((X i : Nat) : Int)) := by
  refine h.blk.cell ?_
  rw [List.getElem?_append_left (by simp [SO.lst_len, hi]), List.getElem?_map, SO.lst_get X N i hi]
  rfl
theorem RW.fz (h : RW w g N X rest) (i : Nat) : w.frozen? ⟨g, i, none⟩ = false := h.blk.fz i
theorem RW.lt (h : RW w g N X rest) : g < w.heap.size := h.blk.lt
theorem RW.drewN (h : RW w g N X rest) (t : Nat) : RW (w.drewN t) g N X rest := ⟨h.blk⟩
theorem RW.drew (h : RW w g N X rest) : RW w.drew g N X rest := ⟨h.blk⟩
theorem RW.alloc (h : RW w g N X rest) (o : Obj) : RW (w.alloc o) g N X rest := ⟨h.blk.alloc o⟩
theorem RW.far (h : RW w g N X rest) {p : Addr} (hp : g ≠ p.block) (u : Value) : RW (w.setCell p u) g N X rest := ⟨h.blk.far hp u⟩
theorem RW.keep (h : RW w g N X rest) (hb : Below w.heap.size w w') : RW w' g N X rest := ⟨h.blk.keep hb⟩
theorem RW.swap (h : RW w g N X rest) (i j : Nat) (hi : i < N) (hj : j < N) : RW ((w.setCell ⟨g, i, none⟩ (.int .i64 ((X j : Nat) : Int))).setCell ⟨g, j, none⟩ (.int .i64 ((X i : Nat) : Int))) g N (SO.swp X i j) rest := by
  refine ⟨?_⟩
  have h1 := (h.blk.set i (.int .i64 ((X j : Nat) : Int))).set j (.int .i64 ((X i : Nat) : Int))
  have e : (((SO.lst X N).map nk ++ rest).set i (.int .i64 ((X j : Nat) : Int))).set j (.int .i64 ((X i : Nat) : Int)) = (SO.lst (SO.swp X i j) N).map nk ++ rest := by
    rw [List.set_append_left _ _ (by simp [SO.lst_len, hi]), List.set_append_left _ _ (by simp [SO.lst_len, hj])]
    congr 1
    apply List.ext_getElem?
    intro p
    by_cases hp : p < N
    · rw [List.getElem?_map, SO.lst_get _ N p hp, List.getElem?_set, List.getElem?_set, List.getElem?_map, SO.lst_get X N p hp]
      simp only [List.length_set, List.length_map, SO.lst_len, hi, hj, if_true, Option.map_some]
      unfold SO.swp
      by_cases e1 : j = p
      · subst e1
        rw [if_pos rfl]
        by_cases e2 : j = i
        · subst e2; simp [nk]
        · rw [if_neg e2]; simp [nk]
      · rw [if_neg e1, if_neg (Ne.symm e1)]
        by_cases e2 : i = p
        · subst e2; simp [nk]
        · rw [if_neg e2, if_neg (Ne.symm e2)]
    · rw [List.getElem?_eq_none (by simp [SO.lst_len]; omega), List.getElem?_eq_none (by simp [SO.lst_len]; omega)]
  rw [e] at h1
  exact h1
end

set_option maxRecDepth 100000 in
set_option maxHeartbeats 1000000 in
theorem isNaN_any (x : Nat) (w : World) : Calls Tryz.prog 138 #[.int .i64 (x : Int)] w fun e w' => e = .returned (.bool false) ∧ w' = w := by
  go_enter Tryz.func138, Tryz.ntmps138
  go_wp2
  go_ret
  exact ⟨by simp, rfl⟩

set_option maxRecDepth 100000 in
set_option maxHeartbeats 1000000 in
theorem Less_any (x y : Nat) (w : World) : Calls Tryz.prog 123 #[.int .i64 (x : Int), .int .i64 (y : Int)] w fun e w' => e = .returned (.bool (decide (x < y))) ∧ w' = w := by
  have hN := fun x w => isNaN_any x w
  go_enter Tryz.func123, Tryz.ntmps123
  by_cases h : x < y
  · go_wp2_with (go_at_call 138; refine (hN x _).mono ?_; rintro e w' ⟨rfl, rfl⟩)
    go_ret
    exact ⟨by simp [h], rfl⟩
  · go_wp2_with (go_at_call 138; refine (hN x _).mono ?_; rintro e w' ⟨rfl, rfl⟩)
    go_ret
    exact ⟨by simp [h], rfl⟩

set_option maxRecDepth 100000 in
set_option maxHeartbeats 4000000 in
theorem insert_any (g N cap : Nat) (rest : List Value) (a b : Nat) (X : Nat → Nat) (w : World) (h : RW w g N X rest) (hab : a ≤ b) (hb : b ≤ N) (hN : N ≤ 65536) (hcap : N ≤ cap) (hX : ∀ i, i < N → X i < 9223372036854775808) :
    Calls Tryz.prog 117 #[.slice (some ⟨g, 0, none⟩) N cap, .int .i64 (a : Int), .int .i64 (b : Int)] w fun e w' => e = .returned (.tuple #[]) ∧ Two g g w w' ∧ ∃ Y, RW w' g N Y rest ∧ SO.Sw a b X Y ∧ SO.Up Y a b := by
  have h := W_hid h
  have hX := W_hid hX
  go_enter Tryz.func117, Tryz.ntmps117
  go_wp2_with fail
  go_loopw [6] (fun v wr => ∃ (i : Nat) (Y : Nat → Nat), v = .int .i64 (i : Int) ∧ a < i ∧ (i ≤ b ∨ i = a + 1) ∧ Hid (RW wr g N Y rest) ∧ Hid (SO.Sw a b X Y) ∧ Hid (SO.Up Y a i) ∧ Hid (Two g g w wr)) (fun v _ => b - (intOf v).toNat)
  case atStart => exact ⟨a + 1, X, by simp, by omega, .inr rfl, h, W_hid .refl, W_hid (fun p q h1 h2 h3 => by omega), W_hid (Two.refl _ _ _)⟩
  case round =>
    obtain ⟨i, Y, rfl, hai, hib, hR, hS, hU, hT⟩ := hrel
    by_cases hlt : i < b
    · go_wp2_with fail
      obtain ⟨wa, rfl⟩ : ∃ wa, wa = wr := ⟨wr, rfl⟩
      go_loopw [7] (fun v wr => ∃ (j : Nat) (Z : Nat → Nat), v = .int .i64 (j : Int) ∧ a ≤ j ∧ j ≤ i ∧ Hid (RW wr g N Z rest) ∧ Hid (SO.Sw a b X Z) ∧ Hid (SO.Ins Z a i j) ∧ Hid (Two g g w wr)) (fun v _ => (intOf v).toNat)
      case atStart => exact ⟨i, Y, rfl, by omega, by omega, hR, hS, W_hid (SO.ins_start hU.out), hT⟩
      case round =>
        obtain ⟨j, Z, rfl, haj, hji, hR2, hS2, hI, hT2⟩ := hrel
        by_cases hja : a < j
        · have cj := hR2.out.cell j (by omega)
          have cj1 := hR2.out.cell (j - 1) (by omega)
          have ej : (j : Int) - 1 = ((j - 1 : Nat) : Int) := by omega
          have fj := hR2.out.fz j
          have fj1 := hR2.out.fz (j - 1)
          have hL := W_hid (fun t => Calls.quiet_of_same (Less_any (Z j) (Z (j - 1)) (wr.drewN t)))
          by_cases hless : Z j < Z (j - 1)
          · have hd : decide (Z j < Z (j - 1)) = true := by simp [hless]
            have hI2 := W_hid (SO.ins_swap hI.out hja hji hless)
            have hS3 := W_hid (hS2.out.step (i := j) (j := j - 1) (by omega) (by omega) (by omega) (by omega))
            have hless := W_hid hless
            rw [hd] at hL
            generalize hzj : Z j = zj at *
            generalize hzk : Z (j - 1) = zk at *
            go_wp2_with fail
            go_quiet ((go_at_call 123; exact hL.out _))
            go_wp2_with fail
            obtain ⟨W, hW⟩ : ∃ W, wr.drewN nq = W := ⟨_, rfl⟩
            have hR3 : RW W g N Z rest := by rw [← hW]; exact hR2.out.drewN nq
            have hT3 : Two g g w W := by rw [← hW]; exact hT2.out.drew nq
            rw [hW]
            have dj := hR3.cell j (by omega)
            have dj1 := hR3.cell (j - 1) (by omega)
            rw [hzj] at dj
            rw [hzk] at dj1
            have gj := hR3.fz j
            have gj1 := hR3.fz (j - 1)
            have hR4 := W_hid (hR3.swap j (j - 1) (by omega) (by omega))
            rw [hzj, hzk] at hR4
            have hT4 := W_hid ((hT3.setCell (p := ⟨g, j, none⟩) (.inl rfl) (.int .i64 (zk : Int))).setCell (p := ⟨g, j - 1, none⟩) (.inl rfl) (.int .i64 (zj : Int)))
            clear hR3 hT3
            go_region
            go_wp2_with fail
            exact ⟨⟨j - 1, _, rfl, by omega, by omega, W_hid hR4.out.drew, hS3, hI2, W_hid ⟨hT4.out.os, hT4.out.tape, hT4.out.output, hT4.out.size, hT4.out.block⟩⟩, by simp [intOf]; omega⟩
          · have hd : decide (Z j < Z (j - 1)) = false := by simp [hless]
            have hU2 := W_hid (SO.ins_done hI.out haj hji (.inr (by omega)))
            have hless := W_hid hless
            rw [hd] at hL
            generalize hzj : Z j = zj at *
            generalize hzk : Z (j - 1) = zk at *
            go_wp2_with fail
            go_quiet ((go_at_call 123; exact hL.out _))
            go_wp2_with fail
            exact ⟨⟨i + 1, Z, by simp, by omega, .inl (by omega), W_hid (hR2.out.drewN nq), hS2, hU2, W_hid (hT2.out.drew nq)⟩, by simp [intOf]; omega⟩
        · have hU2 := W_hid (SO.ins_done hI.out haj hji (.inl (by omega)))
          go_wp2_with fail
          go_quiet (fail)
          go_wp2_with fail
          exact ⟨⟨i + 1, Z, by simp, by omega, .inl (by omega), W_hid (hR2.out.drewN nq), hS2, hU2, W_hid (hT2.out.drew nq)⟩, by simp [intOf]; omega⟩
    · have hU2 : SO.Up Y a b := fun p q h1 h2 h3 => hU.out p q h1 h2 (by omega)
      go_wp2_with fail
      go_end0
      exact ⟨rfl, hT.out, Y, hR.out, hS.out, hU2⟩
end IS
end Go.Proofs.YtbloiilinofklaaGreat

/- Heaps, partitions, ranges that are left: plain, over rows of numbers that are turned by swaps. -/
namespace Go.Proofs.YtbloiilinofklaaGreat
set_option linter.unusedVariables false
set_option linter.unusedSimpArgs false
namespace IS
namespace SO

theorem swp_l (X : Nat → Nat) (i j : Nat) : swp X i j i = X j := by unfold swp; rw [if_pos rfl]
theorem swp_r (X : Nat → Nat) (i j : Nat) : swp X i j j = X i := by
  unfold swp
  by_cases h : j = i
  · rw [if_pos h, h]
  · rw [if_neg h, if_pos rfl]
theorem swp_o (X : Nat → Nat) {i j p : Nat} (h1 : p ≠ i) (h2 : p ≠ j) : swp X i j p = X p := by unfold swp; rw [if_neg h1, if_neg h2]

/-! ### Heaps -/
/-- From place lo of a heap on (which begins at f and has hi places) no child is greater than its parent; but for r's children. -/
def HeapX (Y : Nat → Nat) (f lo hi r : Nat) : Prop := ∀ i c, lo ≤ i → i ≠ r → (c = 2 * i + 1 ∨ c = 2 * i + 2) → c < hi → Y (f + c) ≤ Y (f + i)
def Heap (Y : Nat → Nat) (f lo hi : Nat) : Prop := ∀ i c, lo ≤ i → (c = 2 * i + 1 ∨ c = 2 * i + 2) → c < hi → Y (f + c) ≤ Y (f + i)
/-- r's children are not greater than r's parent. -/
def Grand (Y : Nat → Nat) (f lo hi r : Nat) : Prop := ∀ p c, lo ≤ p → (r = 2 * p + 1 ∨ r = 2 * p + 2) → (c = 2 * r + 1 ∨ c = 2 * r + 2) → c < hi → Y (f + c) ≤ Y (f + p)
theorem heap_begin {Y : Nat → Nat} {f lo hi : Nat} (h : Heap Y f (lo + 1) hi) : HeapX Y f lo hi lo ∧ Grand Y f lo hi lo :=
  ⟨fun i c h1 h2 h3 h4 => h i c (by omega) h3 h4, fun p c h1 h2 => by omega⟩
theorem heap_leaf {Y : Nat → Nat} {f lo hi r : Nat} (h : HeapX Y f lo hi r) (hr : hi ≤ 2 * r + 1) : Heap Y f lo hi := fun i c h1 h2 h3 => by
  by_cases e : i = r
  · subst e; omega
  · exact h i c h1 e h2 h3
theorem heap_stop {Y : Nat → Nat} {f lo hi r c : Nat} (h : HeapX Y f lo hi r) (hc : c = 2 * r + 1 ∨ c = 2 * r + 2) (hm : ∀ d, (d = 2 * r + 1 ∨ d = 2 * r + 2) → d < hi → Y (f + d) ≤ Y (f + c)) (hle : Y (f + c) ≤ Y (f + r)) : Heap Y f lo hi := fun i d h1 h2 h3 => by
  by_cases e : i = r
  · subst e
    exact Nat.le_trans (hm d h2 h3) hle
  · exact h i d h1 e h2 h3
theorem heap_down {Y : Nat → Nat} {f lo hi r c : Nat} (h : HeapX Y f lo hi r) (g : Grand Y f lo hi r) (hlo : lo ≤ r) (hc : c = 2 * r + 1 ∨ c = 2 * r + 2) (hch : c < hi) (hm : ∀ d, (d = 2 * r + 1 ∨ d = 2 * r + 2) → d < hi → Y (f + d) ≤ Y (f + c)) (hlt : Y (f + r) < Y (f + c)) :
    HeapX (swp Y (f + r) (f + c)) f lo hi c ∧ Grand (swp Y (f + r) (f + c)) f lo hi c := by
  have hrc : r ≠ c := by omega
  refine ⟨fun i d h1 h2 h3 h4 => ?_, fun p d h1 h2 h3 h4 => ?_⟩
  · by_cases e : i = r
    · subst e
      rw [swp_l]
      by_cases e2 : d = c
      · subst e2; rw [swp_r]; omega
      · rw [swp_o _ (by omega) (by omega)]; exact hm d h3 h4
    · rw [swp_o (p := f + i) _ (by omega) (by omega)]
      by_cases e2 : d = r
      · subst e2
        rw [swp_l]
        exact g i c h1 h3 hc hch
      · rw [swp_o _ (by omega) (by omega)]
        exact h i d h1 e h3 h4
  · obtain rfl : p = r := by omega
    rw [swp_l, swp_o _ (by omega) (by omega)]
    exact h c d (by omega) (by omega) h3 h4
theorem heap_top {Y : Nat → Nat} {f hi : Nat} (h : Heap Y f 0 hi) : ∀ j, j < hi → Y (f + j) ≤ Y f := by
  intro j
  induction j using Nat.strongRecOn with
  | ind j ih =>
    intro hj
    by_cases e : j = 0
    · subst e; exact Nat.le_refl _
    · have h1 := h ((j - 1) / 2) j (Nat.zero_le _) (by omega) hj
      have h2 := ih ((j - 1) / 2) (by omega) (by omega)
      omega
theorem heap_pop {Y : Nat → Nat} {f i : Nat} (h : Heap Y f 0 (i + 1)) : Heap (swp Y f (f + i)) f 1 i := fun p c h1 h2 h3 => by
  rw [swp_o _ (by omega) (by omega), swp_o _ (by omega) (by omega)]
  exact h p c (Nat.zero_le _) h2 (by omega)
/-- From i on all is in order, and not less than what stands ahead. -/
def Tail (Y : Nat → Nat) (f i n : Nat) : Prop := ∀ p q, p < q → i ≤ q → q < n → Y (f + p) ≤ Y (f + q)
theorem tail_pop {Y : Nat → Nat} {f i n : Nat} (h : Heap Y f 0 (i + 1)) (t : Tail Y f (i + 1) n) (hi : i < n) : Tail (swp Y f (f + i)) f i n := fun p q h1 h2 h3 => by
  have ht := heap_top h
  by_cases e : q = i
  · subst e
    rw [swp_r]
    by_cases e2 : p = 0
    · subst e2
      rw [Nat.add_zero, swp_l]
      exact ht q (by omega)
    · rw [swp_o _ (by omega) (by omega)]; exact ht p (by omega)
  · rw [swp_o (p := f + q) _ (by omega) (by omega)]
    by_cases e2 : p = 0
    · subst e2
      rw [Nat.add_zero, swp_l]
      exact t i q (by omega) (by omega) h3
    · by_cases e3 : p = i
      · subst e3
        rw [swp_r]
        have := t 0 q (by omega) (by omega) h3
        rwa [Nat.add_zero] at this
      · rw [swp_o _ (by omega) (by omega)]
        exact t p q h1 (by omega) h3
theorem tail_sw {Y Z : Nat → Nat} {f i n : Nat} (t : Tail Y f i n) (s : Sw f (f + i) Y Z) : Tail Z f i n := fun p q h1 h2 h3 => by
  rw [s.out (f + q) (by omega)]
  by_cases e : p < i
  · exact s.all (P := fun v => v ≤ Y (f + q)) (fun r hr1 hr2 => by
      have := t (r - f) q (by omega) h2 h3
      rwa [show f + (r - f) = r by omega] at this) (f + p) (by omega) (by omega)
  · rw [s.out (f + p) (by omega)]
    exact t p q h1 h2 h3
theorem tail_up {Y : Nat → Nat} {f n : Nat} (t : Tail Y f 0 n) : Up Y f (f + n) := fun p q h1 h2 h3 => by
  have := t (p - f) (q - f) (by omega) (Nat.zero_le _) (by omega)
  rwa [show f + (p - f) = p by omega, show f + (q - f) = q by omega] at this

/-! ### What is left of a range -/
/-- What stands ahead of a range is not greater than anything in it. -/
def Bel (Y : Nat → Nat) (a b : Nat) : Prop := a = 0 ∨ ∀ p, a ≤ p → p < b → Y (a - 1) ≤ Y p
theorem bel_sw {Y Z : Nat → Nat} {a b : Nat} (h : Bel Y a b) (s : Sw a b Y Z) : Bel Z a b := by
  rcases h with h | h
  · exact .inl h
  · by_cases e : a = 0
    · exact .inl e
    · refine .inr fun p h1 h2 => ?_
      rw [s.out (a - 1) (by omega)]
      exact s.all (P := fun v => Y (a - 1) ≤ v) h p h1 h2
theorem bel_left {Y : Nat → Nat} {a b m : Nat} (h : Bel Y a b) (hm : m ≤ b) : Bel Y a m := by
  rcases h with h | h
  · exact .inl h
  · exact .inr fun p h1 h2 => h p h1 (by omega)
/-- All is in order but for what is left. -/
def Left (Y : Nat → Nat) (a b a' b' : Nat) : Prop := ∀ p q, a ≤ p → p < q → q < b → (p < a' ∨ b' ≤ p ∨ q < a' ∨ b' ≤ q) → Y p ≤ Y q
theorem left_begin (Y : Nat → Nat) (a b : Nat) : Left Y a b a b := fun p q h1 h2 h3 h4 => by omega
theorem left_sw {Y Z : Nat → Nat} {a b a' b' : Nat} (h : Left Y a b a' b') (s : Sw a' b' Y Z) (ha : a ≤ a') (hb : b' ≤ b) : Left Z a b a' b' := fun p q h1 h2 h3 h4 => by
  by_cases e1 : a' ≤ p ∧ p < b'
  · rw [s.out q (by omega)]
    exact s.all (P := fun v => v ≤ Y q) (fun r hr1 hr2 => h r q (by omega) (by omega) h3 (by omega)) p e1.1 e1.2
  · rw [s.out p (by omega)]
    by_cases e2 : a' ≤ q ∧ q < b'
    · exact s.all (P := fun v => Y p ≤ v) (fun r hr1 hr2 => h p r h1 (by omega) (by omega) (by omega)) q e2.1 e2.2
    · rw [s.out q (by omega)]
      exact h p q h1 h2 h3 h4
theorem left_done {Y : Nat → Nat} {a b a' b' : Nat} (h : Left Y a b a' b') (u : Up Y a' b') : Up Y a b := fun p q h1 h2 h3 => by
  by_cases e : a' ≤ p ∧ q < b'
  · exact u p q e.1 h2 e.2
  · exact h p q h1 h2 h3 (by omega)
/-- Parted at m. -/
def Parted (Y : Nat → Nat) (a b m : Nat) : Prop := (∀ p, a ≤ p → p < m → Y p ≤ Y m) ∧ ∀ p, m < p → p < b → Y m ≤ Y p
theorem parted_left {Y Z : Nat → Nat} {a b m : Nat} (h : Parted Y a b m) (s : Sw a m Y Z) (hm : m < b) : Parted Z a b m :=
  ⟨fun p h1 h2 => by
    rw [s.out m (by omega)]
    exact s.all (P := fun v => v ≤ Y m) h.1 p h1 h2, fun p h1 h2 => by
    rw [s.out m (by omega), s.out p (by omega)]
    exact h.2 p h1 h2⟩
theorem parted_right {Y Z : Nat → Nat} {a b m : Nat} (h : Parted Y a b m) (s : Sw (m + 1) b Y Z) : Parted Z a b m :=
  ⟨fun p h1 h2 => by
    rw [s.out m (by omega), s.out p (by omega)]
    exact h.1 p h1 h2, fun p h1 h2 => by
    rw [s.out m (by omega)]
    exact s.all (P := fun v => Y m ≤ v) (fun r hr1 hr2 => h.2 r (by omega) hr2) p (by omega) h2⟩
theorem left_lower {Y : Nat → Nat} {a b a' b' m : Nat} (h : Left Y a b a' b') (k : Parted Y a' b' m) (hm : a' ≤ m) (hmb : m < b') (u : Up Y a' m) : Left Y a b (m + 1) b' := fun p q h1 h2 h3 h4 => by
  by_cases e : a' ≤ p ∧ q < b'
  · by_cases e1 : q < m
    · exact u p q e.1 h2 e1
    · by_cases e2 : q = m
      · subst e2; exact k.1 p e.1 h2
      · have hq := k.2 q (by omega) e.2
        by_cases e3 : p = m
        · subst e3; exact hq
        · have hp := k.1 p e.1 (by omega)
          omega
  · exact h p q h1 h2 h3 (by omega)
theorem left_upper {Y : Nat → Nat} {a b a' b' m : Nat} (h : Left Y a b a' b') (k : Parted Y a' b' m) (hm : a' ≤ m) (hmb : m < b') (u : Up Y (m + 1) b') : Left Y a b a' m := fun p q h1 h2 h3 h4 => by
  by_cases e : a' ≤ p ∧ q < b'
  · by_cases e1 : m < p
    · exact u p q e1 h2 e.2
    · by_cases e2 : p = m
      · subst e2; exact k.2 q h2 e.2
      · have hp := k.1 p e.1 (by omega)
        by_cases e3 : q = m
        · subst e3; exact hp
        · have hq := k.2 q (by omega) e.2
          omega
  · exact h p q h1 h2 h3 (by omega)
theorem bel_right {Y : Nat → Nat} {a b m : Nat} (k : Parted Y a b m) : Bel Y (m + 1) b := .inr fun p h1 h2 => by
  rw [Nat.add_sub_cancel]
  exact k.2 p (by omega) h2

/-! ### The shifts -/
/-- In order from a up to b. -/
theorem up_next {Y : Nat → Nat} {a i : Nat} (h : Up Y a i) (ha : a < i) (hle : Y (i - 1) ≤ Y i) : Up Y a (i + 1) := fun p q h1 h2 h3 => by
  by_cases e : q = i
  · subst e
    by_cases e2 : p = q - 1
    · rw [e2]; exact hle
    · have := h p (q - 1) h1 (by omega) (by omega)
      omega
  · exact h p q h1 h2 (by omega)
theorem up_one (Y : Nat → Nat) (a : Nat) : Up Y a (a + 1) := fun p q h1 h2 h3 => by omega

/-! ### The parting -/
/-- The row while it's parted: the pivot at a, less ones up to i, the others behind j. -/
def Mid (Y : Nat → Nat) (a b i j : Nat) : Prop := (∀ p, a < p → p < i → Y p < Y a) ∧ ∀ p, j < p → p < b → Y a ≤ Y p
theorem mid_i {Y : Nat → Nat} {a b i j : Nat} (h : Mid Y a b i j) (hlt : Y i < Y a) : Mid Y a b (i + 1) j := ⟨fun p h1 h2 => by
  by_cases e : p = i
  · subst e; exact hlt
  · exact h.1 p h1 (by omega), h.2⟩
theorem mid_j {Y : Nat → Nat} {a b i j : Nat} (h : Mid Y a b i (j + 1)) (hle : Y a ≤ Y (j + 1)) : Mid Y a b i j := ⟨h.1, fun p h1 h2 => by
  by_cases e : p = j + 1
  · subst e; exact hle
  · exact h.2 p (by omega) h2⟩
theorem mid_swap {Y : Nat → Nat} {a b i j : Nat} (h : Mid Y a b i j) (ha : a < i) (hij : i < j) (hi : Y a ≤ Y i) (hj : Y j < Y a) : Mid (swp Y i j) a b (i + 1) (j - 1) := by
  refine ⟨fun p h1 h2 => ?_, fun p h1 h2 => ?_⟩
  · rw [swp_o (p := a) _ (by omega) (by omega)]
    by_cases e : p = i
    · subst e; rw [swp_l]; exact hj
    · rw [swp_o _ e (by omega)]; exact h.1 p h1 (by omega)
  · rw [swp_o (p := a) _ (by omega) (by omega)]
    by_cases e : p = j
    · subst e; rw [swp_r]; exact hi
    · rw [swp_o _ (by omega) e]; exact h.2 p (by omega) h2
theorem mid_done {Y : Nat → Nat} {a b i j : Nat} (h : Mid Y a b i j) (ha : a ≤ j) (hij : j < i) : Parted (swp Y j a) a b j := by
  refine ⟨fun p h1 h2 => ?_, fun p h1 h2 => ?_⟩
  · rw [swp_l]
    by_cases e : p = a
    · subst e; rw [swp_r]
      by_cases e2 : j = p
      · omega
      · exact Nat.le_of_lt (h.1 j (by omega) hij)
    · rw [swp_o _ (by omega) e]
      exact Nat.le_of_lt (h.1 p (by omega) (by omega))
  · rw [swp_l, swp_o _ (by omega) (by omega)]
    exact h.2 p h1 h2
end SO
end IS
end Go.Proofs.YtbloiilinofklaaGreat

/- reverseRangeOrdered: a row is turned by swaps. -/
namespace Go.Proofs.YtbloiilinofklaaGreat
open Go.ChangeShapes Go.WideShapes Go.ChangeAt Go.RowKit
set_option linter.unusedVariables false
set_option linter.unusedSimpArgs false
namespace IS

set_option maxRecDepth 100000 in
set_option maxHeartbeats 1000000 in
theorem reverse_any (g N cap : Nat) (rest : List Value) (a b : Nat) (X : Nat → Nat) (w : World) (h : RW w g N X rest) (hab : a < b) (hb : b ≤ N) (hN : N ≤ 65536) (hcap : N ≤ cap) :
    Calls Tryz.prog 121 #[.slice (some ⟨g, 0, none⟩) N cap, .int .i64 (a : Int), .int .i64 (b : Int)] w fun e w' => e = .returned (.tuple #[]) ∧ Two g g w w' ∧ ∃ Y, RW w' g N Y rest ∧ SO.Sw a b X Y := by
  have h := W_hid h
  go_enter Tryz.func121, Tryz.ntmps121
  go_wp2_with fail
  go_loopw [6, 7] (fun v u wr => ∃ (i j : Nat) (Y : Nat → Nat), v = .int .i64 (i : Int) ∧ u = .int .i64 (j : Int) ∧ a ≤ i ∧ j < b ∧ Hid (RW wr g N Y rest) ∧ Hid (SO.Sw a b X Y) ∧ Hid (Two g g w wr)) (fun _ u _ => (intOf u).toNat)
  case atStart => exact ⟨a, b - 1, X, rfl, by congr 1; omega, Nat.le_refl _, by omega, h, W_hid .refl, W_hid (Two.refl _ _ _)⟩
  case round =>
    obtain ⟨i, j, Y, rfl, rfl, hai, hjb, hR, hS, hT⟩ := hrel
    by_cases hij : i < j
    · have ci := hR.out.cell i (by omega)
      have cj := hR.out.cell j (by omega)
      have fi := hR.out.fz i
      have fj := hR.out.fz j
      have hR2 := W_hid (hR.out.swap i j (by omega) (by omega))
      have hS2 := W_hid (hS.out.step (i := i) (j := j) hai (by omega) (by omega) hjb)
      have hT2 := W_hid ((hT.out.setCell (p := ⟨g, i, none⟩) (.inl rfl) (.int .i64 (Y j : Int))).setCell (p := ⟨g, j, none⟩) (.inl rfl) (.int .i64 (Y i : Int)))
      go_wp2_with fail
      go_region
      go_wp2_with fail
      exact ⟨⟨i + 1, j - 1, _, by go_num, by congr 1; omega, by omega, by omega, W_hid hR2.out.drew, hS2, W_hid ⟨hT2.out.os, hT2.out.tape, hT2.out.output, hT2.out.size, hT2.out.block⟩⟩, by simp [intOf]; omega⟩
    · go_wp2_with fail
      go_end0
      exact ⟨rfl, hT.out, Y, hR.out, hS.out⟩

/-- What order2Ordered and its callers leave: the row as it was, the count of swaps risen by at most d. -/
structure Cnt (g N : Nat) (X : Nat → Nat) (rest : List Value) (y s d : Nat) (w w' : World) : Prop where
  row : RW w' g N X rest
  two : Two y y w w'
  ex : ∃ t, s ≤ t ∧ t ≤ s + d ∧ Blk w' y 3 [.int .i64 (t : Int)]

set_option maxRecDepth 100000 in
set_option maxHeartbeats 1000000 in
theorem order2_any (g N cap : Nat) (rest : List Value) (a b y s : Nat) (X : Nat → Nat) (w : World) (h : RW w g N X rest) (ha : a < N) (hb : b < N) (hN : N ≤ 65536) (hcap : N ≤ cap) (hy : Blk w y 3 [.int .i64 (s : Int)]) (hyg : y ≠ g) (hs : s ≤ 1000) :
    Calls Tryz.prog 150 #[.slice (some ⟨g, 0, none⟩) N cap, .int .i64 (a : Int), .int .i64 (b : Int), .pointer (some ⟨y, 0, none⟩)] w fun e w' => ∃ p q : Nat, e = .returned (.tuple #[.int .i64 (p : Int), .int .i64 (q : Int)]) ∧ ((p = a ∧ q = b) ∨ (p = b ∧ q = a)) ∧ Cnt g N X rest y s 1 w w' := by
  have ca := h.cell a ha
  have cb := h.cell b hb
  have cy := hy.cell (j := 0) rfl
  have fy := hy.fz
  have hL := W_hid (fun t => Calls.quiet_of_same (Less_any (X b) (X a) (w.drewN t)))
  have h := W_hid h
  have hy := W_hid hy
  cases hd : decide (X b < X a) with
  | true =>
    rw [hd] at hL
    clear hd
    generalize X a = xa at *
    generalize X b = xb at *
    go_enter Tryz.func150, Tryz.ntmps150
    go_wp2_with fail
    go_quiet ((go_at_call 123; exact hL.out _))
    obtain ⟨W, hW⟩ : ∃ W, w.drewN nq = W := ⟨_, rfl⟩
    have hR : RW W g N X rest := by rw [← hW]; exact h.out.drewN nq
    have hY : Blk W y 3 [.int .i64 (s : Int)] := by rw [← hW]; exact hy.out
    have hT : Two y y w W := by rw [← hW]; exact (Two.refl _ _ _).drew nq
    rw [hW]
    have c2 := hY.cell (j := 0) rfl
    have f2 := hY.fz
    have hfin := W_hid (show Cnt g N X rest y s 1 w (W.setCell ⟨y, 0, none⟩ (.int .i64 ((s + 1 : Nat) : Int))) from ⟨hR.far (Ne.symm hyg) _, hT.setCell (.inl rfl) _, s + 1, by omega, by omega, hY.set 0 _⟩)
    rw [show ((s + 1 : Nat) : Int) = (s : Int) + 1 from by omega] at hfin
    clear hR hY hT
    go_wp2
    go_ret2
    exact ⟨b, a, rfl, .inr ⟨rfl, rfl⟩, hfin.out⟩
  | false =>
    rw [hd] at hL
    clear hd
    generalize X a = xa at *
    generalize X b = xb at *
    go_enter Tryz.func150, Tryz.ntmps150
    go_wp2_with fail
    go_quiet ((go_at_call 123; exact hL.out _))
    have hfin := W_hid (show Cnt g N X rest y s 1 w (w.drewN nq) from ⟨h.out.drewN nq, (Two.refl _ _ _).drew nq, s, Nat.le_refl _, by omega, hy.out⟩)
    go_wp2
    go_ret2
    exact ⟨a, b, rfl, .inl ⟨rfl, rfl⟩, hfin.out⟩
end IS
end Go.Proofs.YtbloiilinofklaaGreat

/- medianOrdered, medianAdjacentOrdered: a place among three. -/
namespace Go.Proofs.YtbloiilinofklaaGreat
open Go.ChangeShapes Go.WideShapes Go.ChangeAt Go.RowKit
set_option linter.unusedVariables false
set_option linter.unusedSimpArgs false
namespace IS

theorem Cnt.trans {g N y s d d' t : Nat} {X : Nat → Nat} {rest : List Value} {w w1 w2 : World} (h : Cnt g N X rest y s d w w1) (hst : t ≤ s + d) (hst2 : s ≤ t) (k : Cnt g N X rest y t d' w1 w2) : Cnt g N X rest y s (d + d') w w2 := by
  obtain ⟨u, h1, h2, h3⟩ := k.ex
  exact ⟨k.row, h.two.trans k.two, u, by omega, by omega, h3⟩

set_option maxRecDepth 100000 in
set_option maxHeartbeats 1000000 in
theorem median_any (g N cap : Nat) (rest : List Value) (a b c y s : Nat) (X : Nat → Nat) (w : World) (h : RW w g N X rest) (ha : a < N) (hb : b < N) (hc : c < N) (hN : N ≤ 65536) (hcap : N ≤ cap) (hy : Blk w y 3 [.int .i64 (s : Int)]) (hyg : y ≠ g) (hs : s ≤ 900) :
    Calls Tryz.prog 137 #[.slice (some ⟨g, 0, none⟩) N cap, .int .i64 (a : Int), .int .i64 (b : Int), .int .i64 (c : Int), .pointer (some ⟨y, 0, none⟩)] w fun e w' => ∃ p : Nat, e = .returned (.int .i64 (p : Int)) ∧ (p = a ∨ p = b ∨ p = c) ∧ Cnt g N X rest y s 3 w w' := by
  have o2 := W_hid (fun a b s w h ha hb hy hs => order2_any g N cap rest a b y s X w h ha hb hN hcap hy hyg hs)
  have h1 := W_hid (o2.out a b s w h ha hb hy (by omega))
  clear h hy
  go_enter Tryz.func137, Tryz.ntmps137
  go_wp2_with fail
  refine h1.out.mono ?_
  rintro e w1 ⟨p1, q1, rfl, hp1, k1⟩
  obtain ⟨s1, l1, u1, y1⟩ := k1.ex
  have h2 := W_hid (o2.out q1 c s1 w1 k1.row (by omega) hc y1 (by omega))
  replace k1 := W_hid k1
  replace hp1 := W_hid hp1
  clear y1 h1
  go_wp2_with fail
  refine h2.out.mono ?_
  rintro e w2 ⟨p2, q2, rfl, hp2, k2⟩
  obtain ⟨s2, l2, u2, y2⟩ := k2.ex
  have h3 := W_hid (o2.out p1 p2 s2 w2 k2.row (by have := hp1.out; omega) (by have := hp1.out; omega) y2 (by omega))
  replace k2 := W_hid k2
  replace hp2 := W_hid hp2
  clear y2 h2
  go_wp2_with fail
  refine h3.out.mono ?_
  rintro e w3 ⟨p3, q3, rfl, hp3, k3⟩
  have hfin := W_hid ((k1.out.trans u1 l1 k2.out).trans (by omega) (by omega) k3)
  replace hp3 := W_hid hp3
  clear k1 k2 k3 h3
  go_wp2
  go_ret
  exact ⟨q3, rfl, by have := hp1.out; have := hp2.out; have := hp3.out; omega, hfin.out⟩

set_option maxRecDepth 100000 in
set_option maxHeartbeats 1000000 in
theorem adjacent_any (g N cap : Nat) (rest : List Value) (a y s : Nat) (X : Nat → Nat) (w : World) (h : RW w g N X rest) (h1 : 1 ≤ a) (ha : a + 1 < N) (hN : N ≤ 65536) (hcap : N ≤ cap) (hy : Blk w y 3 [.int .i64 (s : Int)]) (hyg : y ≠ g) (hs : s ≤ 900) :
    Calls Tryz.prog 136 #[.slice (some ⟨g, 0, none⟩) N cap, .int .i64 (a : Int), .pointer (some ⟨y, 0, none⟩)] w fun e w' => ∃ p : Nat, e = .returned (.int .i64 (p : Int)) ∧ a ≤ p + 1 ∧ p ≤ a + 1 ∧ Cnt g N X rest y s 3 w w' := by
  have hm := median_any g N cap rest (a - 1) a (a + 1) y s X w h (by omega) (by omega) (by omega) hN hcap hy hyg hs
  rw [show ((a - 1 : Nat) : Int) = (a : Int) - 1 from by omega, show ((a + 1 : Nat) : Int) = (a : Int) + 1 from by omega] at hm
  replace hm := W_hid hm
  clear h hy
  go_enter Tryz.func136, Tryz.ntmps136
  go_wp2_with fail
  refine hm.out.mono ?_
  rintro e w1 ⟨p, rfl, hp, k⟩
  have hfin := W_hid (show a ≤ p + 1 ∧ p ≤ a + 1 ∧ Cnt g N X rest y s 3 w w1 from ⟨by omega, by omega, k⟩)
  clear hp k
  go_wp2
  go_ret
  exact ⟨p, rfl, hfin.out⟩
end IS
end Go.Proofs.YtbloiilinofklaaGreat

/- siftDownOrdered, heapSortOrdered. -/
namespace Go.Proofs.YtbloiilinofklaaGreat
open Go.ChangeShapes Go.WideShapes Go.ChangeAt Go.RowKit
set_option linter.unusedVariables false
set_option linter.unusedSimpArgs false
namespace IS

theorem Two.drewed {g b : Nat} {w w' : World} (h : Two g b w w'.drew) : Two g b w w' := ⟨h.os, h.tape, h.output, h.size, h.block⟩

set_option maxRecDepth 100000 in
set_option maxHeartbeats 4000000 in
theorem sift_any (g N cap : Nat) (rest : List Value) (lo hi f : Nat) (X : Nat → Nat) (w : World) (h : RW w g N X rest) (hlo : lo ≤ hi) (hf : f + hi ≤ N) (hN : N ≤ 65536) (hcap : N ≤ cap) (hH : SO.Heap X f (lo + 1) hi) :
    Calls Tryz.prog 133 #[.slice (some ⟨g, 0, none⟩) N cap, .int .i64 (lo : Int), .int .i64 (hi : Int), .int .i64 (f : Int)] w fun e w' => e = .returned (.tuple #[]) ∧ Two g g w w' ∧ ∃ Y, RW w' g N Y rest ∧ SO.Sw (f + lo) (f + hi) X Y ∧ SO.Heap Y f lo hi := by
  have h := W_hid h
  obtain ⟨hx0, hg0⟩ := SO.heap_begin hH
  have hx0 := W_hid hx0
  have hg0 := W_hid hg0
  clear hH
  go_enter Tryz.func133, Tryz.ntmps133
  go_wp2_with fail
  go_loopw [8, 9] (fun v u wr => ∃ (r : Nat) (Z : Nat → Nat), v = .int .i64 (r : Int) ∧ lo ≤ r ∧ r ≤ hi ∧ Hid (RW wr g N Z rest) ∧ Hid (SO.Sw (f + lo) (f + hi) X Z) ∧ Hid (SO.HeapX Z f lo hi r) ∧ Hid (SO.Grand Z f lo hi r) ∧ Hid (Two g g w wr)) (fun v _ _ => hi - (intOf v).toNat)
  case atStart => exact ⟨lo, X, rfl, Nat.le_refl _, hlo, h, W_hid .refl, hx0, hg0, W_hid (Two.refl _ _ _)⟩
  case round =>
    clear hx0 hg0
    obtain ⟨r, Z, rfl, hlr, hrh, hR, hS, hHX, hG, hT⟩ := hrel
    obtain ⟨c1, hc1⟩ : ∃ c1, 2 * r + 1 = c1 := ⟨_, rfl⟩
    have e1 : 2 * (r : Int) + 1 = (c1 : Int) := by omega
    by_cases h1 : c1 < hi
    · obtain ⟨p0, hp0⟩ : ∃ p, f + r = p := ⟨_, rfl⟩
      obtain ⟨p1, hp1⟩ : ∃ p, f + c1 = p := ⟨_, rfl⟩
      obtain ⟨c2, hc2⟩ : ∃ c, c1 + 1 = c := ⟨_, rfl⟩
      obtain ⟨p2, hp2⟩ : ∃ p, p1 + 1 = p := ⟨_, rfl⟩
      have f0 : (f : Int) + (r : Int) = (p0 : Int) := by omega
      have f1 : (f : Int) + (c1 : Int) = (p1 : Int) := by omega
      have f2 : (p1 : Int) + 1 = (p2 : Int) := by omega
      have f3 : (c1 : Int) + 1 = (c2 : Int) := by omega
      have f4 : (f : Int) + (c2 : Int) = (p2 : Int) := by omega
      have b0 : p0 < N := by omega
      have b1 : p1 < N := by omega
      have hcc : Hid (c1 = 2 * r + 1 ∧ c2 = 2 * r + 2 ∧ f + r = p0 ∧ f + c1 = p1 ∧ f + c2 = p2) := ⟨by omega, by omega, hp0, hp1, by omega⟩
      have d0 := hR.out.cell p0 b0
      have d1 := hR.out.cell p1 b1
      have gz := hR.out.fz
      obtain ⟨v0, hv0⟩ : ∃ v, Z p0 = v := ⟨_, rfl⟩
      obtain ⟨v1, hv1⟩ : ∃ v, Z p1 = v := ⟨_, rfl⟩
      rw [hv0] at d0
      rw [hv1] at d1
      replace hv0 := W_hid hv0
      replace hv1 := W_hid hv1
      by_cases h2 : c2 < hi
      · have b2 : p2 < N := by omega
        have d2 := hR.out.cell p2 b2
        obtain ⟨v2, hv2⟩ : ∃ v, Z p2 = v := ⟨_, rfl⟩
        rw [hv2] at d2
        replace hv2 := W_hid hv2
        have hL := W_hid (fun t => Calls.quiet_of_same (Less_any v1 v2 (wr.drewN t)))
        clear hc1 hc2 hp0 hp1 hp2
        by_cases h3 : v1 < v2
        · rw [show decide (v1 < v2) = true by simp [h3]] at hL
          have hm : Hid (∀ d, (d = 2 * r + 1 ∨ d = 2 * r + 2) → d < hi → Z (f + d) ≤ Z (f + c2)) := by
            obtain ⟨q1, q2, q3, q4, q5⟩ := hcc.out
            have := hv1.out
            have := hv2.out
            rw [← q4] at hv1
            rintro d (rfl | rfl) hd
            · rw [q5, hv2.out, ← q1, hv1.out]; omega
            · rw [← q2]; exact Nat.le_refl _
          replace h3 := W_hid h3
          have hLL := W_hid (fun W t => Calls.quiet_of_same (Less_any v0 v2 (World.drewN W t)))
          have hcx : Hid ((c2 = 2 * r + 1 ∨ c2 = 2 * r + 2) ∧ c2 < hi ∧ f + c2 = p2) := by
            obtain ⟨q1, q2, q3, q4, q5⟩ := hcc.out
            exact ⟨by omega, by omega, by omega⟩
          go_wp2_with fail
          go_quiet ((go_at_call 123; exact hL.out _))
          obtain ⟨W, hW⟩ : ∃ W, wr.drewN nq = W := ⟨_, rfl⟩
          have hR3 : RW W g N Z rest := by rw [← hW]; exact hR.out.drewN nq
          have hT3 : Two g g w W := by rw [← hW]; exact hT.out.drew nq
          rw [hW]
          clear hW d0 d1 d2 gz
          have d0 := hR3.cell p0 b0
          have dc := hR3.cell p2 b2
          have gz := hR3.fz
          rw [hv0.out] at d0
          rw [hv2.out] at dc
          replace hR3 := W_hid hR3
          replace hT3 := W_hid hT3
          by_cases h4 : v0 < v2
          · replace hLL := W_hid (hLL.out W)
            rw [show decide (v0 < v2) = true by simp [h4]] at hLL
            have hnx := W_hid (SO.heap_down hHX.out hG.out hlr hcx.out.1 hcx.out.2.1 hm.out (by rw [hcx.out.2.2, hcc.out.2.2.1, hv0.out, hv2.out]; exact h4))
            rw [hcx.out.2.2, hcc.out.2.2.1] at hnx
            have hS3 := W_hid (hS.out.step (i := p0) (j := p2) (by have := hcc.out.2.2.1; omega) (by have := hcc.out.2.2.1; omega) (by have := hcx.out; omega) (by have := hcx.out; omega))
            have hlt : Hid (r < c2 ∧ c2 ≤ hi ∧ lo ≤ c2) := by
              have := hcx.out
              show _ ∧ _ ∧ _
              omega
            replace h4 := W_hid h4
            go_wp2_with fail
            go_quiet ((go_at_call 123; exact hLL.out _))
            go_wp2_with fail
            obtain ⟨V, hV⟩ : ∃ V, W.drewN nq = V := ⟨_, rfl⟩
            have hR4 : RW V g N Z rest := by rw [← hV]; exact hR3.out.drewN nq
            have hT4 : Two g g w V := by rw [← hV]; exact hT3.out.drew nq
            rw [hV]
            clear hV d0 dc gz
            have d0 := hR4.cell p0 b0
            have dc := hR4.cell p2 b2
            have gz := hR4.fz
            rw [hv0.out] at d0
            rw [hv2.out] at dc
            have hR5 := W_hid (hR4.swap p0 p2 b0 b2)
            rw [hv0.out, hv2.out] at hR5
            have hT5 := W_hid ((hT4.setCell (p := ⟨g, p0, none⟩) (.inl rfl) (.int .i64 (v2 : Int))).setCell (p := ⟨g, p2, none⟩) (.inl rfl) (.int .i64 (v0 : Int)))
            clear hR4 hT4
            go_region
            go_wp2_with fail
            exact ⟨⟨c2, _, rfl, hlt.out.2.2, hlt.out.2.1, W_hid hR5.out.drew, hS3, W_hid hnx.out.1, W_hid hnx.out.2, W_hid ⟨hT5.out.os, hT5.out.tape, hT5.out.output, hT5.out.size, hT5.out.block⟩⟩, by have := hlt.out; simp [intOf]; omega⟩
          · replace hLL := W_hid (hLL.out W)
            rw [show decide (v0 < v2) = false by simp [h4]] at hLL
            have hfin := W_hid (SO.heap_stop hHX.out hcx.out.1 hm.out (by rw [hcx.out.2.2, hcc.out.2.2.1, hv0.out, hv2.out]; omega))
            replace h4 := W_hid h4
            go_wp2_with fail
            go_quiet ((go_at_call 123; exact hLL.out _))
            go_wp2_with fail
            refine bodyPost_ret (results_none rfl _ _ _) rfl ?_
            exact ⟨rfl, hT3.out.drew nq, Z, hR3.out.drewN nq, hS.out, hfin.out⟩
        · rw [show decide (v1 < v2) = false by simp [h3]] at hL
          have hm : Hid (∀ d, (d = 2 * r + 1 ∨ d = 2 * r + 2) → d < hi → Z (f + d) ≤ Z (f + c1)) := by
            obtain ⟨q1, q2, q3, q4, q5⟩ := hcc.out
            rintro d (rfl | rfl) hd
            · rw [← q1]; exact Nat.le_refl _
            · rw [← q2, q5, hv2.out, q4, hv1.out]; omega
          replace h3 := W_hid h3
          have hLL := W_hid (fun W t => Calls.quiet_of_same (Less_any v0 v1 (World.drewN W t)))
          have hcx : Hid ((c1 = 2 * r + 1 ∨ c1 = 2 * r + 2) ∧ c1 < hi ∧ f + c1 = p1) := by
            obtain ⟨q1, q2, q3, q4, q5⟩ := hcc.out
            exact ⟨by omega, by omega, by omega⟩
          go_wp2_with fail
          go_quiet ((go_at_call 123; exact hL.out _))
          obtain ⟨W, hW⟩ : ∃ W, wr.drewN nq = W := ⟨_, rfl⟩
          have hR3 : RW W g N Z rest := by rw [← hW]; exact hR.out.drewN nq
          have hT3 : Two g g w W := by rw [← hW]; exact hT.out.drew nq
          rw [hW]
          clear hW d0 d1 d2 gz
          have d0 := hR3.cell p0 b0
          have dc := hR3.cell p1 b1
          have gz := hR3.fz
          rw [hv0.out] at d0
          rw [hv1.out] at dc
          replace hR3 := W_hid hR3
          replace hT3 := W_hid hT3
          by_cases h4 : v0 < v1
          · replace hLL := W_hid (hLL.out W)
            rw [show decide (v0 < v1) = true by simp [h4]] at hLL
            have hnx := W_hid (SO.heap_down hHX.out hG.out hlr hcx.out.1 hcx.out.2.1 hm.out (by rw [hcx.out.2.2, hcc.out.2.2.1, hv0.out, hv1.out]; exact h4))
            rw [hcx.out.2.2, hcc.out.2.2.1] at hnx
            have hS3 := W_hid (hS.out.step (i := p0) (j := p1) (by have := hcc.out.2.2.1; omega) (by have := hcc.out.2.2.1; omega) (by have := hcx.out; omega) (by have := hcx.out; omega))
            have hlt : Hid (r < c1 ∧ c1 ≤ hi ∧ lo ≤ c1) := by
              have := hcx.out
              show _ ∧ _ ∧ _
              omega
            replace h4 := W_hid h4
            go_wp2_with fail
            go_quiet ((go_at_call 123; exact hLL.out _))
            go_wp2_with fail
            obtain ⟨V, hV⟩ : ∃ V, W.drewN nq = V := ⟨_, rfl⟩
            have hR4 : RW V g N Z rest := by rw [← hV]; exact hR3.out.drewN nq
            have hT4 : Two g g w V := by rw [← hV]; exact hT3.out.drew nq
            rw [hV]
            clear hV d0 dc gz
            have d0 := hR4.cell p0 b0
            have dc := hR4.cell p1 b1
            have gz := hR4.fz
            rw [hv0.out] at d0
            rw [hv1.out] at dc
            have hR5 := W_hid (hR4.swap p0 p1 b0 b1)
            rw [hv0.out, hv1.out] at hR5
            have hT5 := W_hid ((hT4.setCell (p := ⟨g, p0, none⟩) (.inl rfl) (.int .i64 (v1 : Int))).setCell (p := ⟨g, p1, none⟩) (.inl rfl) (.int .i64 (v0 : Int)))
            clear hR4 hT4
            go_region
            go_wp2_with fail
            exact ⟨⟨c1, _, rfl, hlt.out.2.2, hlt.out.2.1, W_hid hR5.out.drew, hS3, W_hid hnx.out.1, W_hid hnx.out.2, W_hid ⟨hT5.out.os, hT5.out.tape, hT5.out.output, hT5.out.size, hT5.out.block⟩⟩, by have := hlt.out; simp [intOf]; omega⟩
          · replace hLL := W_hid (hLL.out W)
            rw [show decide (v0 < v1) = false by simp [h4]] at hLL
            have hfin := W_hid (SO.heap_stop hHX.out hcx.out.1 hm.out (by rw [hcx.out.2.2, hcc.out.2.2.1, hv0.out, hv1.out]; omega))
            replace h4 := W_hid h4
            go_wp2_with fail
            go_quiet ((go_at_call 123; exact hLL.out _))
            go_wp2_with fail
            refine bodyPost_ret (results_none rfl _ _ _) rfl ?_
            exact ⟨rfl, hT3.out.drew nq, Z, hR3.out.drewN nq, hS.out, hfin.out⟩
      · clear hc1 hc2 hp0 hp1 hp2
        have hm : Hid (∀ d, (d = 2 * r + 1 ∨ d = 2 * r + 2) → d < hi → Z (f + d) ≤ Z (f + c1)) := by
          obtain ⟨q1, q2, q3, q4, q5⟩ := hcc.out
          rintro d (rfl | rfl) hd
          · rw [← q1]; exact Nat.le_refl _
          · omega
        have hLL := W_hid (fun W t => Calls.quiet_of_same (Less_any v0 v1 (World.drewN W t)))
        have hcx : Hid ((c1 = 2 * r + 1 ∨ c1 = 2 * r + 2) ∧ c1 < hi ∧ f + c1 = p1) := by
          obtain ⟨q1, q2, q3, q4, q5⟩ := hcc.out
          exact ⟨by omega, by omega, by omega⟩
        go_wp2_with fail
        go_quiet (fail)
        obtain ⟨W, hW⟩ : ∃ W, wr.drewN nq = W := ⟨_, rfl⟩
        have hR3 : RW W g N Z rest := by rw [← hW]; exact hR.out.drewN nq
        have hT3 : Two g g w W := by rw [← hW]; exact hT.out.drew nq
        rw [hW]
        clear hW d0 d1 gz
        have d0 := hR3.cell p0 b0
        have dc := hR3.cell p1 b1
        have gz := hR3.fz
        rw [hv0.out] at d0
        rw [hv1.out] at dc
        replace hR3 := W_hid hR3
        replace hT3 := W_hid hT3
        by_cases h4 : v0 < v1
        · replace hLL := W_hid (hLL.out W)
          rw [show decide (v0 < v1) = true by simp [h4]] at hLL
          have hnx := W_hid (SO.heap_down hHX.out hG.out hlr hcx.out.1 hcx.out.2.1 hm.out (by rw [hcx.out.2.2, hcc.out.2.2.1, hv0.out, hv1.out]; exact h4))
          rw [hcx.out.2.2, hcc.out.2.2.1] at hnx
          have hS3 := W_hid (hS.out.step (i := p0) (j := p1) (by have := hcc.out.2.2.1; omega) (by have := hcc.out.2.2.1; omega) (by have := hcx.out; omega) (by have := hcx.out; omega))
          have hlt : Hid (r < c1 ∧ c1 ≤ hi ∧ lo ≤ c1) := by
            have := hcx.out
            show _ ∧ _ ∧ _
            omega
          replace h4 := W_hid h4
          go_wp2_with fail
          go_quiet ((go_at_call 123; exact hLL.out _))
          go_wp2_with fail
          obtain ⟨V, hV⟩ : ∃ V, W.drewN nq = V := ⟨_, rfl⟩
          have hR4 : RW V g N Z rest := by rw [← hV]; exact hR3.out.drewN nq
          have hT4 : Two g g w V := by rw [← hV]; exact hT3.out.drew nq
          rw [hV]
          clear hV d0 dc gz
          have d0 := hR4.cell p0 b0
          have dc := hR4.cell p1 b1
          have gz := hR4.fz
          rw [hv0.out] at d0
          rw [hv1.out] at dc
          have hR5 := W_hid (hR4.swap p0 p1 b0 b1)
          rw [hv0.out, hv1.out] at hR5
          have hT5 := W_hid ((hT4.setCell (p := ⟨g, p0, none⟩) (.inl rfl) (.int .i64 (v1 : Int))).setCell (p := ⟨g, p1, none⟩) (.inl rfl) (.int .i64 (v0 : Int)))
          clear hR4 hT4
          go_region
          go_wp2_with fail
          exact ⟨⟨c1, _, rfl, hlt.out.2.2, hlt.out.2.1, W_hid hR5.out.drew, hS3, W_hid hnx.out.1, W_hid hnx.out.2, W_hid ⟨hT5.out.os, hT5.out.tape, hT5.out.output, hT5.out.size, hT5.out.block⟩⟩, by have := hlt.out; simp [intOf]; omega⟩
        · replace hLL := W_hid (hLL.out W)
          rw [show decide (v0 < v1) = false by simp [h4]] at hLL
          have hfin := W_hid (SO.heap_stop hHX.out hcx.out.1 hm.out (by rw [hcx.out.2.2, hcc.out.2.2.1, hv0.out, hv1.out]; omega))
          replace h4 := W_hid h4
          go_wp2_with fail
          go_quiet ((go_at_call 123; exact hLL.out _))
          go_wp2_with fail
          refine bodyPost_ret (results_none rfl _ _ _) rfl ?_
          exact ⟨rfl, hT3.out.drew nq, Z, hR3.out.drewN nq, hS.out, hfin.out⟩
    · have hfin : SO.Heap Z f lo hi := SO.heap_leaf hHX.out (by omega)
      go_wp2_with fail
      go_end0
      exact ⟨rfl, hT.out, Z, hR.out, hS.out, hfin⟩

set_option maxRecDepth 100000 in
set_option maxHeartbeats 4000000 in
theorem heap_any (g N cap : Nat) (rest : List Value) (a b : Nat) (X : Nat → Nat) (w : World) (h : RW w g N X rest) (hab : a < b) (hb : b ≤ N) (hN : N ≤ 65536) (hcap : N ≤ cap) :
    Calls Tryz.prog 118 #[.slice (some ⟨g, 0, none⟩) N cap, .int .i64 (a : Int), .int .i64 (b : Int)] w fun e w' => e = .returned (.tuple #[]) ∧ Two g g w w' ∧ ∃ Y, RW w' g N Y rest ∧ SO.Sw a b X Y ∧ SO.Up Y a b := by
  have h := W_hid h
  obtain ⟨n, hn⟩ : ∃ n, b - a = n := ⟨_, rfl⟩
  have hni : (b : Int) - (a : Int) = (n : Int) := by omega
  have hn1 : 1 ≤ n := by omega
  have hnb : a + n = b := by omega
  obtain ⟨m, hm⟩ : ∃ m, (n - 1) / 2 = m := ⟨_, rfl⟩
  have hn0 : (n : Int) - 1 = ((n - 1 : Nat) : Int) := by omega
  have hmi : ((n - 1 : Nat) : Int).tdiv 2 = (m : Int) := by rw [← hm]; rfl
  obtain ⟨n1, hn2⟩ : ∃ n1, n - 1 = n1 := ⟨_, rfl⟩
  rw [hn2] at hn0 hmi
  have hmn : m < n := by omega
  have hm0 : Hid (SO.Heap X a (m + 1) n) := fun i c h1 h2 h3 => by omega
  have hn3 : n1 + 1 = n := by omega
  have cS := W_hid (fun lo hi (Z : Nat → Nat) (W : World) h1 h2 h3 h4 => sift_any g N cap rest lo hi a Z W h1 h2 h3 hN hcap h4)
  clear hn hm hn2
  go_enter Tryz.func118, Tryz.ntmps118
  go_wp2_with fail
  go_loopw [9] (fun v wr => ∃ (i : Nat) (Z : Nat → Nat), v = .int .i64 ((i : Int) - 1) ∧ i ≤ n ∧ Hid (RW wr g N Z rest) ∧ Hid (SO.Sw a b X Z) ∧ Hid (SO.Heap Z a i n) ∧ Hid (Two g g w wr)) (fun v _ => (intOf v + 1).toNat)
  case atStart => exact ⟨m + 1, X, by congr 1; omega, by omega, h, W_hid .refl, hm0, W_hid (Two.refl _ _ _)⟩
  case round =>
    clear hm0
    obtain ⟨i, Z, rfl, hi, hR, hS, hH, hT⟩ := hrel
    rcases Nat.eq_zero_or_pos i with rfl | hpos
    · obtain ⟨wa, rfl⟩ : ∃ wa, wa = wr := ⟨wr, rfl⟩
      have ht0 : Hid (SO.Tail Z a n n) := fun p q h1 h2 h3 => by omega
      rw [show (((0 : Nat) : Int) - 1) = -1 from rfl]
      go_wp2_with fail
      go_loopw [10] (fun v wr => ∃ (i : Nat) (Z : Nat → Nat), v = .int .i64 ((i : Int) - 1) ∧ i ≤ n ∧ Hid (RW wr g N Z rest) ∧ Hid (SO.Sw a b X Z) ∧ Hid (SO.Heap Z a 0 i) ∧ Hid (SO.Tail Z a i n) ∧ Hid (Two g g w wr)) (fun v _ => (intOf v + 1).toNat)
      case atStart => exact ⟨n, Z, by congr 1; omega, Nat.le_refl _, hR, hS, hH, ht0, hT⟩
      case round =>
        clear hR hS hH ht0 hT
        obtain ⟨i, Z, rfl, hi, hR, hS, hH, hTl, hT⟩ := hrel
        rcases Nat.eq_zero_or_pos i with rfl | hpos
        · have hU := SO.tail_up hTl.out
          rw [hnb] at hU
          go_wp2_with fail
          go_end0
          exact ⟨rfl, hT.out, Z, hR.out, hS.out, hU⟩
        · obtain ⟨j, rfl⟩ : ∃ j, i = j + 1 := ⟨i - 1, by omega⟩
          have ej : ((j + 1 : Nat) : Int) - 1 = (j : Int) := by omega
          obtain ⟨q, hq⟩ : ∃ q, a + j = q := ⟨_, rfl⟩
          have eq : (a : Int) + (j : Int) = (q : Int) := by omega
          have bq : q < N := by omega
          have ba : a < N := by omega
          have da := hR.out.cell a ba
          have dq := hR.out.cell q bq
          have gz := hR.out.fz
          obtain ⟨va, hva⟩ : ∃ v, Z a = v := ⟨_, rfl⟩
          obtain ⟨vq, hvq⟩ : ∃ v, Z q = v := ⟨_, rfl⟩
          have hR2 := W_hid (hR.out.swap a q ba bq)
          have hT2 := W_hid ((hT.out.setCell (p := ⟨g, a, none⟩) (.inl rfl) (.int .i64 (Z q : Int))).setCell (p := ⟨g, q, none⟩) (.inl rfl) (.int .i64 (Z a : Int)))
          have hS2 := W_hid (hS.out.step (i := a) (j := q) (Nat.le_refl _) hab (by omega) (by omega))
          have hP := W_hid (SO.heap_pop hH.out)
          have hTl2 := W_hid (SO.tail_pop hH.out hTl.out (by omega))
          rw [hq] at hP hTl2
          rw [hva, hvq] at hR2 hT2
          rw [hva] at da
          rw [hvq] at dq
          replace hq := W_hid hq
          replace hva := W_hid hva
          replace hvq := W_hid hvq
          rw [ej]
          clear hR hT hH hTl ej
          obtain ⟨V, hV⟩ : ∃ V, World.drew ((wr.setCell ⟨g, a, none⟩ (.int .i64 (vq : Int))).setCell ⟨g, q, none⟩ (.int .i64 (va : Int))) = V := ⟨_, rfl⟩
          have hR3 : RW V g N (SO.swp Z a q) rest := by rw [← hV]; exact hR2.out.drew
          have hT3 : Hid (Two g g w V) := by rw [← hV]; exact ⟨hT2.out.os, hT2.out.tape, hT2.out.output, hT2.out.size, hT2.out.block⟩
          have hc := W_hid (cS.out 0 j (SO.swp Z a q) V hR3 (Nat.zero_le _) (by omega) hP.out)
          clear hR3 hR2 hT2
          have hcs : q = a ∨ ¬ q = a := by omega
          rcases hcs with hqa | hne
          case' inl =>
            obtain rfl : va = vq := hva.out.symm.trans (by rw [← hqa]; exact hvq.out)
            subst hqa
          case' inr => have hne2 : ¬ a = q := fun e => hne e.symm
          all_goals
            go_wp2_with fail
            go_region
            try rw [hV]
            clear hV da dq gz
            go_wp2_with (go_at_call 133; refine hc.out.mono ?_; rintro e w5 ⟨rfl, hT5, Y5, hR5, hS5, hH5⟩)
            go_roundw
            case rel => exact ⟨j, Y5, by go_num, by omega, W_hid hR5, W_hid (hS2.out.trans (hS5.wide (by omega) (by omega))), W_hid hH5, W_hid (SO.tail_sw hTl2.out (hS5.wide (by omega) (Nat.le_refl _))), W_hid (hT3.out.trans hT5)⟩
            case measure => first | (simp [intOf]; omega) | simp [intOf]
    · obtain ⟨j, rfl⟩ : ∃ j, i = j + 1 := ⟨i - 1, by omega⟩
      have ej : ((j + 1 : Nat) : Int) - 1 = (j : Int) := by omega
      have hc := W_hid (cS.out j n Z wr hR.out (by omega) (by omega) hH.out)
      rw [ej]
      clear ej hR hH
      go_wp2_with (go_at_call 133; refine hc.out.mono ?_; rintro e w5 ⟨rfl, hT5, Y5, hR5, hS5, hH5⟩)
      go_roundw
      case rel => exact ⟨j, Y5, by go_num, by omega, W_hid hR5, W_hid (hS.out.trans (hS5.wide (by omega) (by omega))), W_hid hH5, W_hid (hT.out.trans hT5)⟩
      case measure => first | (simp [intOf]; omega) | simp [intOf]
end IS
end Go.Proofs.YtbloiilinofklaaGreat

/- partitionOrdered. -/
namespace Go.Proofs.YtbloiilinofklaaGreat
open Go.ChangeShapes Go.WideShapes Go.ChangeAt Go.RowKit
set_option linter.unusedVariables false
set_option linter.unusedSimpArgs false
namespace IS

set_option maxRecDepth 100000 in
set_option maxHeartbeats 8000000 in
theorem partition_any (g N cap : Nat) (rest : List Value) (a b pv : Nat) (X : Nat → Nat) (w : World) (h : RW w g N X rest) (hap : a ≤ pv) (hpb : pv < b) (hb : b ≤ N) (hN : N ≤ 65536) (hcap : N ≤ cap) :
    Calls Tryz.prog 125 #[.slice (some ⟨g, 0, none⟩) N cap, .int .i64 (a : Int), .int .i64 (b : Int), .int .i64 (pv : Int)] w fun e w' => ∃ (m : Nat) (t : Bool), e = .returned (.tuple #[.int .i64 (m : Int), .bool t]) ∧ a ≤ m ∧ m < b ∧ Two g g w w' ∧ ∃ Y, RW w' g N Y rest ∧ SO.Sw a b X Y ∧ SO.Parted Y a b m := by
  have ba : a < N := by omega
  have bp : pv < N := by omega
  have da := h.cell a ba
  have dp := h.cell pv bp
  have gz := h.fz
  have hR2 := W_hid (h.swap a pv ba bp)
  have hT2 := W_hid (((Two.refl g g w).setCell (p := ⟨g, a, none⟩) (.inl rfl) (.int .i64 (X pv : Int))).setCell (p := ⟨g, pv, none⟩) (.inl rfl) (.int .i64 (X a : Int)))
  have hS2 := W_hid ((SO.Sw.refl (a := a) (b := b) (X := X)).step (i := a) (j := pv) (Nat.le_refl _) (by omega) hap hpb)
  obtain ⟨va, hva⟩ : ∃ v, X a = v := ⟨_, rfl⟩
  obtain ⟨vp, hvp⟩ : ∃ v, X pv = v := ⟨_, rfl⟩
  rw [hva, hvp] at hR2 hT2
  rw [hva] at da
  rw [hvp] at dp
  obtain ⟨i0, hi0⟩ : ∃ i, a + 1 = i := ⟨_, rfl⟩
  obtain ⟨j0, hj0⟩ : ∃ j, b - 1 = j := ⟨_, rfl⟩
  have ei : (a : Int) + 1 = (i0 : Int) := by omega
  have ej : (b : Int) - 1 = (j0 : Int) := by omega
  have hj1 : j0 + 1 = b := by omega
  replace hva := W_hid hva
  replace hvp := W_hid hvp
  clear h hj0
  generalize hX2 : SO.swp X a pv = X2 at *
  replace hX2 := W_hid hX2
  have hM0 : Hid (SO.Mid X2 a b i0 j0) := ⟨fun p h1 h2 => by omega, fun p h1 h2 => by omega⟩
  replace hi0 := W_hid hi0
  have hbd : i0 ≤ j0 + 1 ∧ a < i0 ∧ j0 < b := by have := hi0.out; omega
  replace hj1 := W_hid hj1
  go_enter Tryz.func125, Tryz.ntmps125
  obtain ⟨V, hV⟩ : ∃ V, World.drew ((w.setCell ⟨g, a, none⟩ (.int .i64 (vp : Int))).setCell ⟨g, pv, none⟩ (.int .i64 (va : Int))) = V := ⟨_, rfl⟩
  have hR : RW V g N X2 rest := by rw [← hV]; exact hR2.out.drew
  have hT : Two g g w V := by rw [← hV]; exact ⟨hT2.out.os, hT2.out.tape, hT2.out.output, hT2.out.size, hT2.out.block⟩
  replace hR := W_hid hR
  replace hT := W_hid hT
  clear hR2 hT2
  go_upto_region 1 with fail
  go_cut [] from 12 to 167 (fun wc => wc = V)
  case first =>
    rename_i J1 K1 hJ1 hK1
    have hcs : pv = a ∨ ¬ pv = a := by omega
    rcases hcs with hqa | hne
    case' inl =>
      obtain rfl : va = vp := hva.out.symm.trans (by rw [← hqa]; exact hvp.out)
      subst hqa
    case' inr => have hne2 : ¬ a = pv := fun e => hne e.symm
    all_goals
      go_region
      try rw [hV]
      refine hK1 _ _ (Met.intro (hJ1 _ _ ?_))
      repeat apply Exists.intro
      exact ⟨rfl, rfl⟩
  case rest =>
  obtain rfl := hcut
  clear hV da dp gz
  go_upto_block 0 with fail
  go_cut [10] from 12 to 167 (fun v wx => ∃ i : Nat, v = .int .i64 (i : Int) ∧ i0 ≤ i ∧ i ≤ j0 + 1 ∧ Hid (SO.Mid X2 a b i j0) ∧ Hid (i ≤ j0 → X2 a ≤ X2 i) ∧ Hid (RW wx g N X2 rest) ∧ Hid (Two g g w wx))
  case first =>
    rename_i J1 K1 hJ1 hK1
    go_wp2_with fail
    go_loopw [10] (fun v wr => ∃ i : Nat, v = .int .i64 (i : Int) ∧ i0 ≤ i ∧ i ≤ j0 + 1 ∧ Hid (SO.Mid X2 a b i j0) ∧ Hid (RW wr g N X2 rest) ∧ Hid (Two g g w wr)) (fun v _ => j0 + 1 - (intOf v).toNat)
    case atStart => exact ⟨i0, rfl, Nat.le_refl _, hbd.1, hM0, hR, hT⟩
    case round =>
      obtain ⟨i, rfl, hi1, hi2, hM, hR, hT⟩ := hrel
      by_cases hle : i ≤ j0
      · have bi : i < N := by omega
        have di := hR.out.cell i bi
        have da := hR.out.cell a ba
        have gz := hR.out.fz
        obtain ⟨vi, hvi⟩ : ∃ v, X2 i = v := ⟨_, rfl⟩
        obtain ⟨vb, hvb⟩ : ∃ v, X2 a = v := ⟨_, rfl⟩
        rw [hvi] at di
        rw [hvb] at da
        have hL := W_hid (fun t => Calls.quiet_of_same (Less_any vi vb (wr.drewN t)))
        by_cases hl : vi < vb
        · rw [show decide (vi < vb) = true by simp [hl]] at hL
          have hM2 := W_hid (SO.mid_i hM.out (by rw [hvi, hvb]; exact hl))
          replace hl := W_hid hl
          replace hvi := W_hid hvi
          replace hvb := W_hid hvb
          go_wp2_with fail
          go_quiet ((go_at_call 123; exact hL.out _))
          go_wp2_with fail
          go_roundw
          case rel => exact ⟨i + 1, by go_num, by omega, by omega, hM2, W_hid (hR.out.drewN nq), W_hid (hT.out.drew nq)⟩
          case measure => first | (simp [intOf]; omega) | simp [intOf]
        · rw [show decide (vi < vb) = false by simp [hl]] at hL
          have hst : Hid (i ≤ j0 → X2 a ≤ X2 i) := fun _ => by rw [hvi, hvb]; omega
          replace hl := W_hid hl
          replace hvi := W_hid hvi
          replace hvb := W_hid hvb
          go_wp2_with fail
          go_quiet ((go_at_call 123; exact hL.out _))
          go_wp2_with fail
          go_meet
          exact ⟨i, rfl, hi1, hi2, hM, hst, W_hid (hR.out.drewN nq), W_hid (hT.out.drew nq)⟩
      · have hst : Hid (i ≤ j0 → X2 a ≤ X2 i) := fun h => absurd h hle
        go_wp2_with fail
        go_quiet (fail)
        go_wp2_with fail
        go_meet
        exact ⟨i, rfl, hi1, hi2, hM, hst, W_hid (hR.out.drewN nq), W_hid (hT.out.drew nq)⟩
  case rest =>
  clear hR hT hM0
  obtain ⟨i, rfl, hi1, hi2, hM, hst, hR, hT⟩ := hcut
  obtain ⟨W1, rfl⟩ : ∃ W, W = wc := ⟨wc, rfl⟩
  go_upto_block 2 with fail
  go_cut [11] from 12 to 167 (fun v wx => ∃ j : Nat, v = .int .i64 (j : Int) ∧ i ≤ j + 1 ∧ j ≤ j0 ∧ Hid (SO.Mid X2 a b i j) ∧ Hid (i ≤ j → X2 a ≤ X2 i) ∧ Hid (i ≤ j → X2 j < X2 a) ∧ Hid (RW wx g N X2 rest) ∧ Hid (Two g g w wx))
  case first =>
    rename_i J1 K1 hJ1 hK1
    go_wp2_with fail
    go_loopw [11] (fun v wr => ∃ j : Nat, v = .int .i64 (j : Int) ∧ i ≤ j + 1 ∧ j ≤ j0 ∧ Hid (SO.Mid X2 a b i j) ∧ Hid (RW wr g N X2 rest) ∧ Hid (Two g g w wr)) (fun v _ => (intOf v).toNat)
    case atStart => exact ⟨j0, rfl, hi2, Nat.le_refl _, hM, hR, hT⟩
    case round =>
      obtain ⟨j, rfl, hj1, hj2, hM, hR, hT⟩ := hrel
      by_cases hle : i ≤ j
      · have bj : j < N := by omega
        have dj := hR.out.cell j bj
        have da := hR.out.cell a ba
        have gz := hR.out.fz
        obtain ⟨vj, hvj⟩ : ∃ v, X2 j = v := ⟨_, rfl⟩
        obtain ⟨vb, hvb⟩ : ∃ v, X2 a = v := ⟨_, rfl⟩
        rw [hvj] at dj
        rw [hvb] at da
        have hL := W_hid (fun t => Calls.quiet_of_same (Less_any vj vb (wr.drewN t)))
        by_cases hl : vj < vb
        · rw [show decide (vj < vb) = true by simp [hl]] at hL
          have hst2 : Hid (i ≤ j → X2 j < X2 a) := fun _ => by rw [hvj, hvb]; exact hl
          have hst1 : Hid (i ≤ j → X2 a ≤ X2 i) := fun h => hst.out (by omega)
          replace hl := W_hid hl
          replace hvj := W_hid hvj
          replace hvb := W_hid hvb
          go_wp2_with fail
          go_quiet ((go_at_call 123; exact hL.out _))
          go_wp2_with fail
          go_meet
          exact ⟨j, rfl, hj1, hj2, hM, hst1, hst2, W_hid (hR.out.drewN nq), W_hid (hT.out.drew nq)⟩
        · rw [show decide (vj < vb) = false by simp [hl]] at hL
          obtain ⟨j', hj'⟩ : ∃ j', j = j' + 1 := ⟨j - 1, by omega⟩
          have ejj : (j : Int) - 1 = (j' : Int) := by omega
          have hM2 : Hid (SO.Mid X2 a b i j') := by
            subst hj'
            exact SO.mid_j hM.out (by rw [hvj, hvb]; omega)
          replace hl := W_hid hl
          replace hvj := W_hid hvj
          replace hvb := W_hid hvb
          have hjb : Hid (i ≤ j' + 1 ∧ j' ≤ j0 ∧ j' < j) := by show _ ∧ _ ∧ _; omega
          replace hj' := W_hid hj'
          go_wp2_with fail
          go_quiet ((go_at_call 123; exact hL.out _))
          go_wp2_with fail
          go_roundw
          case rel => exact ⟨j', rfl, hjb.out.1, hjb.out.2.1, hM2, W_hid (hR.out.drewN nq), W_hid (hT.out.drew nq)⟩
          case measure => (have := hjb.out.2.2); first | (simp [intOf]; omega) | simp [intOf]
      · have hst1 : Hid (i ≤ j → X2 a ≤ X2 i) := fun h => absurd h hle
        have hst2 : Hid (i ≤ j → X2 j < X2 a) := fun h => absurd h hle
        go_wp2_with fail
        go_quiet (fail)
        go_wp2_with fail
        go_meet
        exact ⟨j, rfl, hj1, hj2, hM, hst1, hst2, W_hid (hR.out.drewN nq), W_hid (hT.out.drew nq)⟩
  case rest =>
  clear hR hT hM hst
  obtain ⟨j, rfl, hj1, hj2, hM, hst1, hst2, hR, hT⟩ := hcut
  by_cases hgt : j < i
  · clear hst1 hst2
    have bj : j < N := by omega
    have dj := hR.out.cell j bj
    have da := hR.out.cell a ba
    have gz := hR.out.fz
    obtain ⟨vj, hvj⟩ : ∃ v, X2 j = v := ⟨_, rfl⟩
    obtain ⟨vb, hvb⟩ : ∃ v, X2 a = v := ⟨_, rfl⟩
    have hR2 := W_hid (hR.out.swap j a bj ba)
    have hT2 := W_hid ((hT.out.setCell (p := ⟨g, j, none⟩) (.inl rfl) (.int .i64 (X2 a : Int))).setCell (p := ⟨g, a, none⟩) (.inl rfl) (.int .i64 (X2 j : Int)))
    have haj : a ≤ j := by have := hbd.2.1; omega
    have hS5 := W_hid ((hS2.out).step (i := j) (j := a) haj (by omega) (Nat.le_refl _) (by omega))
    have hP5 := W_hid (SO.mid_done hM.out haj (by omega))
    rw [hvb, hvj] at hR2 hT2
    rw [hvj] at dj
    rw [hvb] at da
    have hjb : j < b := by omega
    replace hvj := W_hid hvj
    replace hvb := W_hid hvb
    obtain ⟨V5, hV5⟩ : ∃ V, World.drew ((wc.setCell ⟨g, j, none⟩ (.int .i64 (vb : Int))).setCell ⟨g, a, none⟩ (.int .i64 (vj : Int))) = V := ⟨_, rfl⟩
    have hR5 : RW V5 g N (SO.swp X2 j a) rest := by rw [← hV5]; exact hR2.out.drew
    have hT5 : Two g g w V5 := by rw [← hV5]; exact ⟨hT2.out.os, hT2.out.tape, hT2.out.output, hT2.out.size, hT2.out.block⟩
    replace hR5 := W_hid hR5
    replace hT5 := W_hid hT5
    clear hR2 hT2 hR hT hM
    have hcs : j = a ∨ ¬ j = a := by omega
    rcases hcs with hqa | hne
    case' inl =>
      obtain rfl : vj = vb := hvj.out.symm.trans (by rw [hqa]; exact hvb.out)
      subst hqa
    case' inr => have hne2 : ¬ a = j := fun e => hne e.symm
    all_goals
      go_wp2_with fail
      go_region
      try rw [hV5]
      go_wp2_with fail
      go_ret2
      exact ⟨j, true, rfl, haj, hjb, hT5.out, _, hR5.out, hS5.out, hP5.out⟩
  · 
    have hij : i < j := by
      have h1 := hst1.out (by omega)
      have h2 := hst2.out (by omega)
      rcases Nat.lt_or_ge i j with hh | hh
      · exact hh
      · exfalso
        have : i = j := by omega
        subst this
        omega
    have bi : i < N := by omega
    have bj : j < N := by omega
    have di := hR.out.cell i bi
    have dj := hR.out.cell j bj
    have gz := hR.out.fz
    obtain ⟨vi, hvi⟩ : ∃ v, X2 i = v := ⟨_, rfl⟩
    obtain ⟨vj, hvj⟩ : ∃ v, X2 j = v := ⟨_, rfl⟩
    have hR2 := W_hid (hR.out.swap i j bi bj)
    have hT2 := W_hid ((hT.out.setCell (p := ⟨g, i, none⟩) (.inl rfl) (.int .i64 (X2 j : Int))).setCell (p := ⟨g, j, none⟩) (.inl rfl) (.int .i64 (X2 i : Int)))
    have hai : a < i := by have := hbd.2.1; omega
    have hS5 := W_hid ((hS2.out).step (i := i) (j := j) (by omega) (by omega) (by omega) (by omega))
    have hM5 := W_hid (SO.mid_swap hM.out hai hij (hst1.out (by omega)) (hst2.out (by omega)))
    rw [hvi, hvj] at hR2 hT2
    rw [hvi] at di
    rw [hvj] at dj
    obtain ⟨j', hj'⟩ : ∃ j', j - 1 = j' := ⟨_, rfl⟩
    have ejj : (j : Int) - 1 = (j' : Int) := by omega
    rw [hj'] at hM5
    have hjb : Hid (i + 1 ≤ j' + 1 ∧ j' ≤ j0 ∧ j' < j) := by show _ ∧ _ ∧ _; omega
    replace hj' := W_hid hj'
    replace hvi := W_hid hvi
    replace hvj := W_hid hvj
    obtain ⟨V4, hV4⟩ : ∃ V, World.drew ((wc.setCell ⟨g, i, none⟩ (.int .i64 (vj : Int))).setCell ⟨g, j, none⟩ (.int .i64 (vi : Int))) = V := ⟨_, rfl⟩
    have hR4 : RW V4 g N (SO.swp X2 i j) rest := by rw [← hV4]; exact hR2.out.drew
    have hT4 : Two g g w V4 := by rw [← hV4]; exact ⟨hT2.out.os, hT2.out.tape, hT2.out.output, hT2.out.size, hT2.out.block⟩
    replace hR4 := W_hid hR4
    replace hT4 := W_hid hT4
    have hne1 : ¬ i = j := by omega
    have hne2 : ¬ j = i := by omega
    clear hR2 hT2 hR hT hM
    go_wp2_with fail
    go_region
    try rw [hV4]
    clear hV4 di dj gz
    go_upto_block 4 with fail
    go_wp2_with fail
    obtain ⟨W2, rfl⟩ : ∃ W, W = V4 := ⟨V4, rfl⟩
    go_loopw [10, 11] (fun u v wr => ∃ (i j : Nat) (Y : Nat → Nat), u = .int .i64 (i : Int) ∧ v = .int .i64 (j : Int) ∧ i0 ≤ i ∧ i ≤ j + 1 ∧ j ≤ j0 ∧ Hid (SO.Mid Y a b i j) ∧ Hid (RW wr g N Y rest) ∧ Hid (SO.Sw a b X Y) ∧ Hid (Two g g w wr)) (fun _ v _ => (intOf v).toNat)
    case atStart => exact ⟨i + 1, j', _, by go_num, rfl, by omega, hjb.out.1, hjb.out.2.1, hM5, hR4, hS5, hT4⟩
    case round =>
      clear hM5 hR4 hS5 hT4 hst1 hst2
      obtain ⟨i1, jm, Y, rfl, rfl, hi1, hij, hjj, hM, hR, hS, hT⟩ := hrel
      go_upto_block 6 with fail
      go_cut [10] from 99 to 152 (fun v wx => ∃ i : Nat, v = .int .i64 (i : Int) ∧ i0 ≤ i ∧ i ≤ jm + 1 ∧ Hid (SO.Mid Y a b i jm) ∧ Hid (i ≤ jm → Y a ≤ Y i) ∧ Hid (RW wx g N Y rest) ∧ Hid (Two g g w wx))
      case first =>
        rename_i J1 K1 hJ1 hK1
        go_wp2_with fail
        go_loopw [10] (fun v wr => ∃ i : Nat, v = .int .i64 (i : Int) ∧ i0 ≤ i ∧ i ≤ jm + 1 ∧ Hid (SO.Mid Y a b i jm) ∧ Hid (RW wr g N Y rest) ∧ Hid (Two g g w wr)) (fun v _ => jm + 1 - (intOf v).toNat)
        case atStart => exact ⟨i1, rfl, hi1, hij, hM, hR, hT⟩
        case round =>
          obtain ⟨i, rfl, hi1, hi2, hM, hR, hT⟩ := hrel
          by_cases hle : i ≤ jm
          · have bi : i < N := by omega
            have di := hR.out.cell i bi
            have da := hR.out.cell a ba
            have gz := hR.out.fz
            obtain ⟨vi, hvi⟩ : ∃ v, Y i = v := ⟨_, rfl⟩
            obtain ⟨vb, hvb⟩ : ∃ v, Y a = v := ⟨_, rfl⟩
            rw [hvi] at di
            rw [hvb] at da
            have hL := W_hid (fun t => Calls.quiet_of_same (Less_any vi vb (wr.drewN t)))
            by_cases hl : vi < vb
            · rw [show decide (vi < vb) = true by simp [hl]] at hL
              have hM2 := W_hid (SO.mid_i hM.out (by rw [hvi, hvb]; exact hl))
              replace hl := W_hid hl
              replace hvi := W_hid hvi
              replace hvb := W_hid hvb
              go_wp2_with fail
              go_quiet ((go_at_call 123; exact hL.out _))
              go_wp2_with fail
              go_roundw
              case rel => exact ⟨i + 1, by go_num, by omega, by omega, hM2, W_hid (hR.out.drewN nq), W_hid (hT.out.drew nq)⟩
              case measure => first | (simp [intOf]; omega) | simp [intOf]
            · rw [show decide (vi < vb) = false by simp [hl]] at hL
              have hst : Hid (i ≤ jm → Y a ≤ Y i) := fun _ => by rw [hvi, hvb]; omega
              replace hl := W_hid hl
              replace hvi := W_hid hvi
              replace hvb := W_hid hvb
              go_wp2_with fail
              go_quiet ((go_at_call 123; exact hL.out _))
              go_wp2_with fail
              go_meet
              exact ⟨i, rfl, hi1, hi2, hM, hst, W_hid (hR.out.drewN nq), W_hid (hT.out.drew nq)⟩
          · have hst : Hid (i ≤ jm → Y a ≤ Y i) := fun h => absurd h hle
            go_wp2_with fail
            go_quiet (fail)
            go_wp2_with fail
            go_meet
            exact ⟨i, rfl, hi1, hi2, hM, hst, W_hid (hR.out.drewN nq), W_hid (hT.out.drew nq)⟩
      case rest =>
      clear hR hT hM
      obtain ⟨i, rfl, hi1, hi2, hM, hst, hR, hT⟩ := hcut
      obtain ⟨W3, rfl⟩ : ∃ W, W = wc := ⟨wc, rfl⟩
      go_upto_block 8 with fail
      go_cut [11] from 99 to 152 (fun v wx => ∃ j : Nat, v = .int .i64 (j : Int) ∧ i ≤ j + 1 ∧ j ≤ jm ∧ Hid (SO.Mid Y a b i j) ∧ Hid (i ≤ j → Y a ≤ Y i) ∧ Hid (i ≤ j → Y j < Y a) ∧ Hid (RW wx g N Y rest) ∧ Hid (Two g g w wx))
      case first =>
        rename_i J1 K1 hJ1 hK1
        go_wp2_with fail
        go_loopw [11] (fun v wr => ∃ j : Nat, v = .int .i64 (j : Int) ∧ i ≤ j + 1 ∧ j ≤ jm ∧ Hid (SO.Mid Y a b i j) ∧ Hid (RW wr g N Y rest) ∧ Hid (Two g g w wr)) (fun v _ => (intOf v).toNat)
        case atStart => exact ⟨jm, rfl, hi2, Nat.le_refl _, hM, hR, hT⟩
        case round =>
          obtain ⟨j, rfl, hj1, hj2, hM, hR, hT⟩ := hrel
          by_cases hle : i ≤ j
          · have bj : j < N := by omega
            have dj := hR.out.cell j bj
            have da := hR.out.cell a ba
            have gz := hR.out.fz
            obtain ⟨vj, hvj⟩ : ∃ v, Y j = v := ⟨_, rfl⟩
            obtain ⟨vb, hvb⟩ : ∃ v, Y a = v := ⟨_, rfl⟩
            rw [hvj] at dj
            rw [hvb] at da
            have hL := W_hid (fun t => Calls.quiet_of_same (Less_any vj vb (wr.drewN t)))
            by_cases hl : vj < vb
            · rw [show decide (vj < vb) = true by simp [hl]] at hL
              have hst2 : Hid (i ≤ j → Y j < Y a) := fun _ => by rw [hvj, hvb]; exact hl
              have hst1 : Hid (i ≤ j → Y a ≤ Y i) := fun h => hst.out (by omega)
              replace hl := W_hid hl
              replace hvj := W_hid hvj
              replace hvb := W_hid hvb
              go_wp2_with fail
              go_quiet ((go_at_call 123; exact hL.out _))
              go_wp2_with fail
              go_meet
              exact ⟨j, rfl, hj1, hj2, hM, hst1, hst2, W_hid (hR.out.drewN nq), W_hid (hT.out.drew nq)⟩
            · rw [show decide (vj < vb) = false by simp [hl]] at hL
              obtain ⟨j', hj'⟩ : ∃ j', j = j' + 1 := ⟨j - 1, by omega⟩
              have ejj : (j : Int) - 1 = (j' : Int) := by omega
              have hM2 : Hid (SO.Mid Y a b i j') := by
                subst hj'
                exact SO.mid_j hM.out (by rw [hvj, hvb]; omega)
              replace hl := W_hid hl
              replace hvj := W_hid hvj
              replace hvb := W_hid hvb
              have hjb : Hid (i ≤ j' + 1 ∧ j' ≤ jm ∧ j' < j) := by show _ ∧ _ ∧ _; omega
              replace hj' := W_hid hj'
              go_wp2_with fail
              go_quiet ((go_at_call 123; exact hL.out _))
              go_wp2_with fail
              go_roundw
              case rel => exact ⟨j', rfl, hjb.out.1, hjb.out.2.1, hM2, W_hid (hR.out.drewN nq), W_hid (hT.out.drew nq)⟩
              case measure => (have := hjb.out.2.2); first | (simp [intOf]; omega) | simp [intOf]
          · have hst1 : Hid (i ≤ j → Y a ≤ Y i) := fun h => absurd h hle
            have hst2 : Hid (i ≤ j → Y j < Y a) := fun h => absurd h hle
            go_wp2_with fail
            go_quiet (fail)
            go_wp2_with fail
            go_meet
            exact ⟨j, rfl, hj1, hj2, hM, hst1, hst2, W_hid (hR.out.drewN nq), W_hid (hT.out.drew nq)⟩
      case rest =>
      clear hR hT hM hst
      obtain ⟨j, rfl, hj1, hj2, hM, hst1, hst2, hR, hT⟩ := hcut
      by_cases hgt : j < i
      · clear hst1 hst2
        have bj : j < N := by omega
        have dj := hR.out.cell j bj
        have da := hR.out.cell a ba
        have gz := hR.out.fz
        obtain ⟨vj, hvj⟩ : ∃ v, Y j = v := ⟨_, rfl⟩
        obtain ⟨vb, hvb⟩ : ∃ v, Y a = v := ⟨_, rfl⟩
        have hR2 := W_hid (hR.out.swap j a bj ba)
        have hT2 := W_hid ((hT.out.setCell (p := ⟨g, j, none⟩) (.inl rfl) (.int .i64 (Y a : Int))).setCell (p := ⟨g, a, none⟩) (.inl rfl) (.int .i64 (Y j : Int)))
        have haj : a ≤ j := by have := hbd.2.1; omega
        have hS5 := W_hid ((hS.out).step (i := j) (j := a) haj (by omega) (Nat.le_refl _) (by omega))
        have hP5 := W_hid (SO.mid_done hM.out haj (by omega))
        rw [hvb, hvj] at hR2 hT2
        rw [hvj] at dj
        rw [hvb] at da
        have hjb : j < b := by omega
        replace hvj := W_hid hvj
        replace hvb := W_hid hvb
        obtain ⟨V5, hV5⟩ : ∃ V, World.drew ((wc.setCell ⟨g, j, none⟩ (.int .i64 (vb : Int))).setCell ⟨g, a, none⟩ (.int .i64 (vj : Int))) = V := ⟨_, rfl⟩
        have hR5 : RW V5 g N (SO.swp Y j a) rest := by rw [← hV5]; exact hR2.out.drew
        have hT5 : Two g g w V5 := by rw [← hV5]; exact ⟨hT2.out.os, hT2.out.tape, hT2.out.output, hT2.out.size, hT2.out.block⟩
        replace hR5 := W_hid hR5
        replace hT5 := W_hid hT5
        clear hR2 hT2 hR hT hM
        have hcs : j = a ∨ ¬ j = a := by omega
        rcases hcs with hqa | hne
        case' inl =>
          obtain rfl : vj = vb := hvj.out.symm.trans (by rw [hqa]; exact hvb.out)
          subst hqa
        case' inr => have hne2 : ¬ a = j := fun e => hne e.symm
        all_goals
          go_wp2_with fail
          go_region
          try rw [hV5]
          go_wp2_with fail
          go_ret2
          exact ⟨j, false, rfl, haj, hjb, hT5.out, _, hR5.out, hS5.out, hP5.out⟩
      · 
        have hij : i < j := by
          have h1 := hst1.out (by omega)
          have h2 := hst2.out (by omega)
          rcases Nat.lt_or_ge i j with hh | hh
          · exact hh
          · exfalso
            have : i = j := by omega
            subst this
            omega
        have bi : i < N := by omega
        have bj : j < N := by omega
        have di := hR.out.cell i bi
        have dj := hR.out.cell j bj
        have gz := hR.out.fz
        obtain ⟨vi, hvi⟩ : ∃ v, Y i = v := ⟨_, rfl⟩
        obtain ⟨vj, hvj⟩ : ∃ v, Y j = v := ⟨_, rfl⟩
        have hR2 := W_hid (hR.out.swap i j bi bj)
        have hT2 := W_hid ((hT.out.setCell (p := ⟨g, i, none⟩) (.inl rfl) (.int .i64 (Y j : Int))).setCell (p := ⟨g, j, none⟩) (.inl rfl) (.int .i64 (Y i : Int)))
        have hai : a < i := by have := hbd.2.1; omega
        have hS5 := W_hid ((hS.out).step (i := i) (j := j) (by omega) (by omega) (by omega) (by omega))
        have hM5 := W_hid (SO.mid_swap hM.out hai hij (hst1.out (by omega)) (hst2.out (by omega)))
        rw [hvi, hvj] at hR2 hT2
        rw [hvi] at di
        rw [hvj] at dj
        obtain ⟨j', hj'⟩ : ∃ j', j - 1 = j' := ⟨_, rfl⟩
        have ejj : (j : Int) - 1 = (j' : Int) := by omega
        rw [hj'] at hM5
        have hjb : Hid (i + 1 ≤ j' + 1 ∧ j' ≤ j0 ∧ j' < j) := by show _ ∧ _ ∧ _; omega
        replace hj' := W_hid hj'
        replace hvi := W_hid hvi
        replace hvj := W_hid hvj
        obtain ⟨V4, hV4⟩ : ∃ V, World.drew ((wc.setCell ⟨g, i, none⟩ (.int .i64 (vj : Int))).setCell ⟨g, j, none⟩ (.int .i64 (vi : Int))) = V := ⟨_, rfl⟩
        have hR4 : RW V4 g N (SO.swp Y i j) rest := by rw [← hV4]; exact hR2.out.drew
        have hT4 : Two g g w V4 := by rw [← hV4]; exact ⟨hT2.out.os, hT2.out.tape, hT2.out.output, hT2.out.size, hT2.out.block⟩
        replace hR4 := W_hid hR4
        replace hT4 := W_hid hT4
        have hne1 : ¬ i = j := by omega
        have hne2 : ¬ j = i := by omega
        clear hR2 hT2 hR hT hM
        go_wp2_with fail
        go_region
        try rw [hV4]
        clear hV4 di dj gz
        go_wp2_with fail
        go_roundw
        case rel => exact ⟨i + 1, j', _, by go_num, rfl, by omega, hjb.out.1, by have := hjb.out.2.1; omega, hM5, hR4, hS5, hT4⟩
        case measure => (have := hjb.out.2.2); first | (simp [intOf]; omega) | simp [intOf]
end IS
end Go.Proofs.YtbloiilinofklaaGreat

/- partialInsertionSortOrdered. -/
namespace Go.Proofs.YtbloiilinofklaaGreat
open Go.ChangeShapes Go.WideShapes Go.ChangeAt Go.RowKit
set_option linter.unusedVariables false
set_option linter.unusedSimpArgs false
namespace IS

theorem up_cut {Y : Nat → Nat} {a b c : Nat} (h : SO.Up Y a b) (hc : c ≤ b) : SO.Up Y a c := fun p q h1 h2 h3 => h p q h1 h2 (by omega)
theorem up_away {Y : Nat → Nat} {a i p q : Nat} (h : SO.Up Y a i) (hp : i ≤ p) (hq : i ≤ q) : SO.Up (SO.swp Y p q) a i := fun r s h1 h2 h3 => by
  rw [SO.swp_o _ (by omega) (by omega), SO.swp_o _ (by omega) (by omega)]
  exact h r s h1 h2 h3

set_option maxRecDepth 100000 in
set_option maxHeartbeats 8000000 in
theorem partins_any (g N cap : Nat) (rest : List Value) (a b : Nat) (X : Nat → Nat) (w : World) (h : RW w g N X rest) (hab : a < b) (hb : b ≤ N) (hN : N ≤ 65536) (hcap : N ≤ cap) (hBel : SO.Bel X a b) :
    Calls Tryz.prog 122 #[.slice (some ⟨g, 0, none⟩) N cap, .int .i64 (a : Int), .int .i64 (b : Int)] w fun e w' => ∃ t : Bool, e = .returned (.bool t) ∧ Two g g w w' ∧ ∃ Y, RW w' g N Y rest ∧ SO.Sw a b X Y ∧ (t = true → SO.Up Y a b) := by
  have h := W_hid h
  have hBel := W_hid hBel
  have hU0 : Hid (SO.Up X a (a + 1)) := SO.up_one X a
  obtain ⟨n, hn⟩ : ∃ n, b - a = n := ⟨_, rfl⟩
  have hni : (b : Int) - (a : Int) = (n : Int) := by omega
  replace hn := W_hid hn
  go_enter Tryz.func122, Tryz.ntmps122
  go_wp2_with fail
  go_loopw [7, 8] (fun u v wr => ∃ (i c : Nat) (Z : Nat → Nat), u = .int .i64 (i : Int) ∧ v = .int .i64 (c : Int) ∧ c ≤ 5 ∧ a + 1 ≤ i ∧ i ≤ b ∧ Hid (RW wr g N Z rest) ∧ Hid (SO.Sw a b X Z) ∧ Hid (SO.Up Z a i) ∧ Hid (Two g g w wr)) (fun _ v _ => 5 - (intOf v).toNat)
  case atStart => exact ⟨a + 1, 0, X, by go_num, rfl, by omega, Nat.le_refl _, by omega, h, W_hid .refl, hU0, W_hid (Two.refl _ _ _)⟩
  case round =>
    clear hU0
    obtain ⟨i1, c, Z, rfl, rfl, hc, hi1, hi2, hR, hS, hU, hT⟩ := hrel
    by_cases hc5 : c < 5
    · go_upto_block 2 with fail
      go_cut [7] from 13 to 132 (fun u wx => ∃ i : Nat, u = .int .i64 (i : Int) ∧ a + 1 ≤ i ∧ i ≤ b ∧ Hid (RW wx g N Z rest) ∧ Hid (SO.Up Z a i) ∧ Hid (Two g g w wx))
      case first =>
        go_wp2_with fail
        go_loopw [7] (fun u wr => ∃ i : Nat, u = .int .i64 (i : Int) ∧ a + 1 ≤ i ∧ i ≤ b ∧ Hid (RW wr g N Z rest) ∧ Hid (SO.Up Z a i) ∧ Hid (Two g g w wr)) (fun u _ => b - (intOf u).toNat)
        case atStart => exact ⟨i1, rfl, hi1, hi2, hR, hU, hT⟩
        case round =>
          clear hR hU hT hi1 hi2
          obtain ⟨i, rfl, hi1, hi2, hR, hU, hT⟩ := hrel
          by_cases hlt : i < b
          · obtain ⟨k, hk⟩ : ∃ k, i - 1 = k := ⟨_, rfl⟩
            have ek : (i : Int) - 1 = (k : Int) := by omega
            have di := hR.out.cell i (by omega)
            have dk := hR.out.cell k (by omega)
            have gz := hR.out.fz
            obtain ⟨vi, hvi⟩ : ∃ v, Z i = v := ⟨_, rfl⟩
            obtain ⟨vk, hvk⟩ : ∃ v, Z k = v := ⟨_, rfl⟩
            rw [hvi] at di
            rw [hvk] at dk
            have hL := W_hid (fun t => Calls.quiet_of_same (Less_any vi vk (wr.drewN t)))
            have bk : k < N := by omega
            by_cases hl : vi < vk
            · rw [show decide (vi < vk) = true by simp [hl]] at hL
              replace hl := W_hid hl
              replace hvi := W_hid hvi
              replace hvk := W_hid hvk
              replace hk := W_hid hk
              go_wp2_with fail
              go_quiet ((go_at_call 123; exact hL.out _))
              go_wp2_with fail
              go_meet
              exact ⟨i, rfl, hi1, hi2, W_hid (hR.out.drewN nq), hU, W_hid (hT.out.drew nq)⟩
            · rw [show decide (vi < vk) = false by simp [hl]] at hL
              have hU2 := W_hid (SO.up_next hU.out (by omega) (by rw [hk, hvi, hvk]; omega))
              replace hl := W_hid hl
              replace hvi := W_hid hvi
              replace hvk := W_hid hvk
              replace hk := W_hid hk
              go_wp2_with fail
              go_quiet ((go_at_call 123; exact hL.out _))
              go_wp2_with fail
              go_roundw
              case rel => exact ⟨i + 1, by go_num, by omega, by omega, W_hid (hR.out.drewN nq), hU2, W_hid (hT.out.drew nq)⟩
              case measure => first | (simp [intOf]; omega) | simp [intOf]
          · go_wp2_with fail
            go_quiet (fail)
            go_wp2_with fail
            go_meet
            exact ⟨i, rfl, hi1, hi2, W_hid (hR.out.drewN nq), hU, W_hid (hT.out.drew nq)⟩
      case rest =>
      clear hR hU hT hi1 hi2
      obtain ⟨i, rfl, hi1, hi2, hR, hU, hT⟩ := hcut
      by_cases hib : i = b
      · have hU2 := hU.out
        rw [hib] at hU2
        have hib2 : ((i : Int) == (b : Int)) = true := by simp [hib]
        replace hU2 := W_hid hU2
        subst hib
        go_wp2_with fail
        go_ret
        exact ⟨true, rfl, hT.out, Z, hR.out, hS.out, fun _ => hU2.out⟩
      · have hib2 : ((i : Int) == (b : Int)) = false := by simp; omega
        have hlt : i < b := by omega
        by_cases h50 : n < 50
        · go_wp2_with fail
          go_ret
          exact ⟨false, rfl, hT.out, Z, hR.out, hS.out, fun h => by cases h⟩
        · obtain ⟨k, hk⟩ : ∃ k, i = k + 1 := ⟨i - 1, by omega⟩
          have ek : (i : Int) - 1 = (k : Int) := by omega
          have hak : a ≤ k := by omega
          have bI := (show i < N by omega)
          have bJ := (show k < N by omega)
          have dI := hR.out.cell i bI
          have dJ := hR.out.cell k bJ
          have gz := hR.out.fz
          obtain ⟨vI, hvI⟩ : ∃ v, Z i = v := ⟨_, rfl⟩
          obtain ⟨vJ, hvJ⟩ : ∃ v, Z k = v := ⟨_, rfl⟩
          have hR2 := W_hid (hR.out.swap i k bI bJ)
          have hT2 := W_hid ((hT.out.setCell (p := ⟨g, i, none⟩) (.inl rfl) (.int .i64 (Z k : Int))).setCell (p := ⟨g, k, none⟩) (.inl rfl) (.int .i64 (Z i : Int)))
          rw [hvI, hvJ] at hR2 hT2
          rw [hvI] at dI
          rw [hvJ] at dJ
          replace hvI := W_hid hvI
          replace hvJ := W_hid hvJ
          obtain ⟨V1, hV1⟩ : ∃ V, World.drew ((wc.setCell ⟨g, i, none⟩ (.int .i64 (vJ : Int))).setCell ⟨g, k, none⟩ (.int .i64 (vI : Int))) = V := ⟨_, rfl⟩
          have hRs : RW V1 g N (SO.swp Z i k) rest := by rw [← hV1]; exact hR2.out.drew
          have hTs : Two g g w V1 := by rw [← hV1]; exact ⟨hT2.out.os, hT2.out.tape, hT2.out.output, hT2.out.size, hT2.out.block⟩
          replace hRs := W_hid hRs
          replace hTs := W_hid hTs
          have hne1 : ¬ i = k := by omega
          have hne2 : ¬ k = i := by omega
          clear hR2 hT2
          have hSs := W_hid (hS.out.step (i := i) (j := k) (by omega) hlt hak (by omega))
          have hUs : Hid (SO.Up (SO.swp Z i k) a k) := up_away (up_cut hU.out (by omega)) (by omega) (Nat.le_refl _)
          have hU1 : Hid (k = a → SO.Up (SO.swp Z i k) a i) := fun e => by subst e; rw [hk]; exact SO.up_one _ _
          replace hk := W_hid hk
          clear hR hT hU hS
          go_wp2_with fail
          go_region
          try rw [hV1]
          clear hV1 dI dJ gz
          generalize SO.swp Z i k = Z1 at *
          obtain ⟨n2, hn2⟩ : ∃ n2, i - a = n2 := ⟨_, rfl⟩
          have hn2i : (i : Int) - (a : Int) = (n2 : Int) := by omega
          have hk2 : Hid (i = k + 1) := hk
          obtain ⟨n3, hn3⟩ : ∃ n3, b - i = n3 := ⟨_, rfl⟩
          have hn3i : (b : Int) - (i : Int) = (n3 : Int) := by omega
          have hbn : n2 ≤ 65536 ∧ n3 ≤ 65536 := by omega
          replace hn2 := W_hid hn2
          replace hn3 := W_hid hn3
          clear hk
          go_upto_if 61 with fail
          go_cut [9] from 13 to 132 (fun _ wx => ∃ Y : Nat → Nat, Hid (RW wx g N Y rest) ∧ Hid (SO.Sw a b X Y) ∧ Hid (SO.Up Y a i) ∧ Hid (Two g g w wx))
          case first =>
            by_cases h2 : 2 ≤ n2
            · go_wp2_with fail
              go_loopw [9] (fun v wr => ∃ (j : Nat) (Y : Nat → Nat), v = .int .i64 (j : Int) ∧ a ≤ j ∧ j ≤ k ∧ Hid (RW wr g N Y rest) ∧ Hid (SO.Sw a b X Y) ∧ Hid (SO.Ins Y a k j) ∧ Hid (Two g g w wr)) (fun v _ => (intOf v).toNat)
              case atStart => exact ⟨k, Z1, rfl, hak, Nat.le_refl _, hRs, hSs, W_hid (SO.ins_start hUs.out), hTs⟩
              case round =>
                clear hRs hSs hUs hTs hU1
                obtain ⟨j, Y, rfl, haj, hjk, hR, hS, hI, hT⟩ := hrel
                by_cases hj1 : 1 ≤ j
                · obtain ⟨q, hq⟩ : ∃ q, j = q + 1 := ⟨j - 1, by omega⟩
                  have eq : (j : Int) - 1 = (q : Int) := by omega
                  have dj := hR.out.cell j (by omega)
                  have dq := hR.out.cell q (by omega)
                  have gz := hR.out.fz
                  obtain ⟨vj, hvj⟩ : ∃ v, Y j = v := ⟨_, rfl⟩
                  obtain ⟨vq, hvq⟩ : ∃ v, Y q = v := ⟨_, rfl⟩
                  rw [hvj] at dj
                  rw [hvq] at dq
                  have hL := W_hid (fun t => Calls.quiet_of_same (Less_any vj vq (wr.drewN t)))
                  by_cases hl : vj < vq
                  · rw [show decide (vj < vq) = true by simp [hl]] at hL
                    have hja : a < j := by
                      rcases Nat.lt_or_ge a j with hh | hh
                      · exact hh
                      · exfalso
                        rcases SO.bel_sw hBel.out hS.out with h0 | h0
                        · omega
                        · have h1 := h0 j haj (by omega)
                          rw [show a - 1 = q by omega, hvj, hvq] at h1
                          omega
                    have hI2 : Hid (SO.Ins (SO.swp Y j q) a k q) := by
                      have h1 := SO.ins_swap hI.out hja hjk (by rw [show j - 1 = q by omega, hvj, hvq]; exact hl)
                      rw [show j - 1 = q by omega] at h1
                      exact h1
                    have hS2 := W_hid (hS.out.step (i := j) (j := q) haj (by omega) (by omega) (by omega))
                    have hqq : Hid (a ≤ q ∧ q ≤ k ∧ q < j) := by show _ ∧ _ ∧ _; omega
                    replace hl := W_hid hl
                    replace hvj := W_hid hvj
                    replace hvq := W_hid hvq
                    replace hq := W_hid hq
                    go_wp2_with fail
                    go_quiet ((go_at_call 123; exact hL.out _))
                    go_wp2_with fail
                    have hqx := hq.out
                    obtain ⟨W, hW⟩ : ∃ W, wr.drewN nq = W := ⟨_, rfl⟩
                    replace hR : RW W g N Y rest := by rw [← hW]; exact hR.out.drewN nq
                    replace hT : Two g g w W := by rw [← hW]; exact hT.out.drew nq
                    replace hR := W_hid hR
                    replace hT := W_hid hT
                    rw [hW]
                    clear hW dj dq gz hS hI
                    have bI := (show j < N by omega)
                    have bJ := (show q < N by omega)
                    have dI := hR.out.cell j bI
                    have dJ := hR.out.cell q bJ
                    have gz := hR.out.fz
                    obtain ⟨vI, hvI⟩ : ∃ v, Y j = v := ⟨_, rfl⟩
                    obtain ⟨vJ, hvJ⟩ : ∃ v, Y q = v := ⟨_, rfl⟩
                    have hR2 := W_hid (hR.out.swap j q bI bJ)
                    have hT2 := W_hid ((hT.out.setCell (p := ⟨g, j, none⟩) (.inl rfl) (.int .i64 (Y q : Int))).setCell (p := ⟨g, q, none⟩) (.inl rfl) (.int .i64 (Y j : Int)))
                    rw [hvI, hvJ] at hR2 hT2
                    rw [hvI] at dI
                    rw [hvJ] at dJ
                    replace hvI := W_hid hvI
                    replace hvJ := W_hid hvJ
                    obtain ⟨V2, hV2⟩ : ∃ V, World.drew ((W.setCell ⟨g, j, none⟩ (.int .i64 (vJ : Int))).setCell ⟨g, q, none⟩ (.int .i64 (vI : Int))) = V := ⟨_, rfl⟩
                    have hRt : RW V2 g N (SO.swp Y j q) rest := by rw [← hV2]; exact hR2.out.drew
                    have hTt : Two g g w V2 := by rw [← hV2]; exact ⟨hT2.out.os, hT2.out.tape, hT2.out.output, hT2.out.size, hT2.out.block⟩
                    replace hRt := W_hid hRt
                    replace hTt := W_hid hTt
                    have hne1 : ¬ j = q := by omega
                    have hne2 : ¬ q = j := by omega
                    clear hR2 hT2
                    clear hR hT hqx
                    go_region
                    try rw [hV2]
                    clear hV2 dI dJ gz
                    go_wp2_with fail
                    go_roundw
                    case rel => exact ⟨q, _, rfl, hqq.out.1, hqq.out.2.1, hRt, hS2, hI2, hTt⟩
                    case measure => (have := hqq.out.2.2); first | (simp [intOf]; omega) | simp [intOf]
                  · rw [show decide (vj < vq) = false by simp [hl]] at hL
                    have hfin : Hid (SO.Up Y a i) := by
                      have h1 := SO.ins_done hI.out haj hjk (.inr (by rw [show j - 1 = q by omega, hvj, hvq]; omega))
                      rw [← hk2.out] at h1
                      exact h1
                    replace hl := W_hid hl
                    replace hvj := W_hid hvj
                    replace hvq := W_hid hvq
                    replace hq := W_hid hq
                    go_wp2_with fail
                    go_quiet ((go_at_call 123; exact hL.out _))
                    go_wp2_with fail
                    go_meet
                    exact ⟨Y, W_hid (hR.out.drewN nq), hS, hfin, W_hid (hT.out.drew nq)⟩
                · have hfin : Hid (SO.Up Y a i) := by
                    have h1 := SO.ins_done hI.out haj hjk (.inl (by omega))
                    rw [← hk2.out] at h1
                    exact h1
                  go_wp2_with fail
                  go_meet
                  exact ⟨Y, hR, hS, hfin, hT⟩
            · have hfin := W_hid (hU1.out (by have := hn2.out; have := hk2.out; omega))
              go_wp2_with fail
              go_meet
              exact ⟨Z1, hRs, hSs, hfin, hTs⟩
          case rest =>
          clear hRs hSs hUs hTs hU1
          obtain ⟨Z2, hRs, hSs, hUs, hTs⟩ := hcut
          by_cases h3 : 2 ≤ n3
          · go_wp2_with fail
            obtain ⟨W4, rfl⟩ : ∃ W, W = wc := ⟨wc, rfl⟩
            go_loopw [10] (fun v wr => ∃ (j : Nat) (Y : Nat → Nat), v = .int .i64 (j : Int) ∧ i + 1 ≤ j ∧ j ≤ b ∧ Hid (RW wr g N Y rest) ∧ Hid (SO.Sw a b X Y) ∧ Hid (SO.Up Y a i) ∧ Hid (Two g g w wr)) (fun v _ => b - (intOf v).toNat)
            case atStart => exact ⟨i + 1, Z2, by go_num, Nat.le_refl _, by omega, hRs, hSs, hUs, hTs⟩
            case round =>
              clear hRs hSs hUs hTs
              obtain ⟨j, Y, rfl, hij, hjb, hR, hS, hU, hT⟩ := hrel
              by_cases hjl : j < b
              · obtain ⟨q, hq⟩ : ∃ q, j = q + 1 := ⟨j - 1, by omega⟩
                have eq : (j : Int) - 1 = (q : Int) := by omega
                have dj := hR.out.cell j (by omega)
                have dq := hR.out.cell q (by omega)
                have gz := hR.out.fz
                obtain ⟨vj, hvj⟩ : ∃ v, Y j = v := ⟨_, rfl⟩
                obtain ⟨vq, hvq⟩ : ∃ v, Y q = v := ⟨_, rfl⟩
                rw [hvj] at dj
                rw [hvq] at dq
                have hL := W_hid (fun t => Calls.quiet_of_same (Less_any vj vq (wr.drewN t)))
                have bq : q < N := by omega
                by_cases hl : vj < vq
                · rw [show decide (vj < vq) = true by simp [hl]] at hL
                  have hU2 : Hid (SO.Up (SO.swp Y j q) a i) := up_away hU.out (by omega) (by omega)
                  have hS2 := W_hid (hS.out.step (i := j) (j := q) (by omega) (by omega) (by omega) (by omega))
                  replace hl := W_hid hl
                  replace hvj := W_hid hvj
                  replace hvq := W_hid hvq
                  replace hq := W_hid hq
                  go_wp2_with fail
                  go_quiet ((go_at_call 123; exact hL.out _))
                  go_wp2_with fail
                  have hqx := hq.out
                  obtain ⟨W, hW⟩ : ∃ W, wr.drewN nq = W := ⟨_, rfl⟩
                  replace hR : RW W g N Y rest := by rw [← hW]; exact hR.out.drewN nq
                  replace hT : Two g g w W := by rw [← hW]; exact hT.out.drew nq
                  replace hR := W_hid hR
                  replace hT := W_hid hT
                  rw [hW]
                  clear hW dj dq gz hS hU
                  have bI := (show j < N by omega)
                  have bJ := (show q < N by omega)
                  have dI := hR.out.cell j bI
                  have dJ := hR.out.cell q bJ
                  have gz := hR.out.fz
                  obtain ⟨vI, hvI⟩ : ∃ v, Y j = v := ⟨_, rfl⟩
                  obtain ⟨vJ, hvJ⟩ : ∃ v, Y q = v := ⟨_, rfl⟩
                  have hR2 := W_hid (hR.out.swap j q bI bJ)
                  have hT2 := W_hid ((hT.out.setCell (p := ⟨g, j, none⟩) (.inl rfl) (.int .i64 (Y q : Int))).setCell (p := ⟨g, q, none⟩) (.inl rfl) (.int .i64 (Y j : Int)))
                  rw [hvI, hvJ] at hR2 hT2
                  rw [hvI] at dI
                  rw [hvJ] at dJ
                  replace hvI := W_hid hvI
                  replace hvJ := W_hid hvJ
                  obtain ⟨V2, hV2⟩ : ∃ V, World.drew ((W.setCell ⟨g, j, none⟩ (.int .i64 (vJ : Int))).setCell ⟨g, q, none⟩ (.int .i64 (vI : Int))) = V := ⟨_, rfl⟩
                  have hRt : RW V2 g N (SO.swp Y j q) rest := by rw [← hV2]; exact hR2.out.drew
                  have hTt : Two g g w V2 := by rw [← hV2]; exact ⟨hT2.out.os, hT2.out.tape, hT2.out.output, hT2.out.size, hT2.out.block⟩
                  replace hRt := W_hid hRt
                  replace hTt := W_hid hTt
                  have hne1 : ¬ j = q := by omega
                  have hne2 : ¬ q = j := by omega
                  clear hR2 hT2
                  clear hR hT hqx
                  go_region
                  try rw [hV2]
                  clear hV2 dI dJ gz
                  go_wp2_with fail
                  go_roundw
                  case rel => exact ⟨j + 1, _, by go_num, by omega, by omega, hRt, hS2, hU2, hTt⟩
                  case measure => first | (simp [intOf]; omega) | simp [intOf]
                · rw [show decide (vj < vq) = false by simp [hl]] at hL
                  replace hl := W_hid hl
                  replace hvj := W_hid hvj
                  replace hvq := W_hid hvq
                  replace hq := W_hid hq
                  go_wp2_with fail
                  go_quiet ((go_at_call 123; exact hL.out _))
                  go_wp2_with fail
                  go_roundw
                  case rel => exact ⟨i, c + 1, Y, rfl, by go_num, by omega, hi1, hi2, W_hid (hR.out.drewN nq), hS, hU, W_hid (hT.out.drew nq)⟩
                  case measure => first | (simp [intOf]; omega) | simp [intOf]
              · go_wp2_with fail
                go_roundw
                case rel => exact ⟨i, c + 1, Y, rfl, by go_num, by omega, hi1, hi2, hR, hS, hU, hT⟩
                case measure => first | (simp [intOf]; omega) | simp [intOf]
          · go_wp2_with fail
            go_roundw
            case rel => exact ⟨i, c + 1, Z2, rfl, by go_num, by omega, hi1, hi2, hRs, hSs, hUs, hTs⟩
            case measure => first | (simp [intOf]; omega) | simp [intOf]
    · go_wp2_with fail
      go_ret
      exact ⟨false, rfl, hT.out, Z, hR.out, hS.out, fun h => by cases h⟩
end IS
end Go.Proofs.YtbloiilinofklaaGreat

/- math/bits.Len: some number. -/
namespace Go.Proofs.YtbloiilinofklaaGreat
open Go.ChangeShapes Go.WideShapes Go.ChangeAt Go.RowKit
set_option linter.unusedVariables false
set_option linter.unusedSimpArgs false
namespace IS

theorem und_str : Tryz.prog.underlying 9 = some .string := by kernel_rfl
theorem str_at (s : ByteArray) (hs : s.size = 256) (k : Int) (hk : 0 ≤ k) (hk2 : k < 256) : ∃ t : Nat, t ≤ 255 ∧ ∀ w, (Instr.index 9 (.string s) (.int .u8 k)).run Tryz.prog w = .ok (.int .u8 (t : Int)) w := by
  have hlt : k.toNat < s.size := by omega
  refine ⟨(s[k.toNat]).toNat, by have := (s[k.toNat]).toNat_lt; omega, fun w => ?_⟩
  rw [run_index_string w _ s _ _ und_str, dif_pos ⟨by omega, by omega⟩]

set_option maxRecDepth 100000 in
set_option maxHeartbeats 4000000 in
theorem Len64_any (X : Int) (w : World) (h0 : 0 ≤ X) (hX : X < 65536) : Calls Tryz.prog 127 #[.int .u64 X] w fun e w' => (∃ k : Nat, e = .returned (.int .i64 (k : Int)) ∧ k ≤ 300) ∧ w' = w := by
  have d1 : X < 4294967296 := by omega
  go_enter Tryz.func127, Tryz.ntmps127
  generalize hT : Value.string _ = T
  have hI : ∀ k : Int, 0 ≤ k → k < 256 → ∃ t : Nat, t ≤ 255 ∧ ∀ w, (Instr.index 9 T (.int .u8 k)).run Tryz.prog w = .ok (.int .u8 (t : Int)) w := by
    intro k hk hk2
    rw [← hT]
    exact str_at _ (by rfl) k hk hk2
  clear hT
  by_cases h : 256 ≤ X
  · obtain ⟨t, ht, hi⟩ := hI (X / 256) (by omega) (by omega)
    clear hI
    have q0 : 0 ≤ X / 256 := by omega
    have q1 : X / 256 < 256 := by omega
    go_wp2_with fail
    go_ret
    exact ⟨⟨t + 8, by simp; omega, by omega⟩, rfl⟩
  · obtain ⟨t, ht, hi⟩ := hI X (by omega) (by omega)
    clear hI
    have h2 : X < 256 := by omega
    go_wp2_with fail
    go_ret
    exact ⟨⟨t, rfl, by omega⟩, rfl⟩

set_option maxRecDepth 100000 in
set_option maxHeartbeats 4000000 in
theorem Len_any (X : Int) (w : World) (h0 : 0 ≤ X) (hX : X < 65536) : Calls Tryz.prog 107 #[.int .u64 X] w fun e w' => (∃ k : Nat, e = .returned (.int .i64 (k : Int)) ∧ k ≤ 300) ∧ w' = w := by
  have c := Len64_any X w h0 hX
  go_enter Tryz.func107, Tryz.ntmps107
  go_wp2_with (go_at_call 127; refine c.mono ?_; rintro e w' ⟨⟨k, rfl, hk⟩, rfl⟩)
  go_ret
  exact ⟨⟨k, rfl, hk⟩, rfl⟩
end IS
end Go.Proofs.YtbloiilinofklaaGreat

/- slices.Sort of a dozen numbers at most. -/
namespace Go.Proofs.YtbloiilinofklaaGreat
open Go.ChangeShapes Go.WideShapes Go.ChangeAt Go.RowKit
set_option linter.unusedVariables false
set_option linter.unusedSimpArgs false
namespace IS

set_option maxRecDepth 100000 in
set_option maxHeartbeats 4000000 in
theorem pdq_small (g N cap k : Nat) (rest : List Value) (X : Nat → Nat) (w : World) (h : RW w g N X rest) (hN : N ≤ 12) (hcap : N ≤ cap) (hX : ∀ i, i < N → X i < 9223372036854775808) :
    Calls Tryz.prog 106 #[.slice (some ⟨g, 0, none⟩) N cap, .int .i64 0, .int .i64 (N : Int), .int .i64 (k : Int)] w fun e w' => e = .returned (.tuple #[]) ∧ Two g g w w' ∧ ∃ Y, RW w' g N Y rest ∧ SO.Sw 0 N X Y ∧ SO.Up Y 0 N := by
  have c := insert_any g N cap rest 0 N X w h (by omega) (by omega) (by omega) hcap hX
  go_enter Tryz.func106, Tryz.ntmps106
  go_wp2_with fail
  go_loopw [1, 2, 3, 8, 9] (fun a b l _ _ wr => a = .int .i64 0 ∧ b = .int .i64 (N : Int) ∧ l = .int .i64 (k : Int) ∧ wr = w) (fun _ _ _ _ _ _ => 0)
  case atStart => exact ⟨rfl, rfl, rfl, rfl⟩
  case round =>
    obtain ⟨rfl, rfl, rfl, rfl⟩ := hrel
    go_wp2_with (go_at_call 117; refine c.mono ?_; rintro e w' ⟨rfl, hT, Y, hR, hS, hU⟩)
    refine bodyPost_ret (results_none rfl _ _ _) rfl ?_
    exact ⟨rfl, hT, Y, hR, hS, hU⟩

set_option maxRecDepth 100000 in
set_option maxHeartbeats 4000000 in
theorem Sort_small (g N cap : Nat) (rest : List Value) (X : Nat → Nat) (w : World) (h : RW w g N X rest) (hN : N ≤ 12) (hcap : N ≤ cap) (hX : ∀ i, i < N → X i < 9223372036854775808) :
    Calls Tryz.prog 86 #[.slice (some ⟨g, 0, none⟩) N cap] w fun e w' => e = .returned (.tuple #[]) ∧ Two g g w w' ∧ ∃ Y, RW w' g N Y rest ∧ SO.Sw 0 N X Y ∧ SO.Up Y 0 N := by
  have cL := Len_any (N : Int) w (by omega) (by omega)
  have cP := W_hid (fun k : Nat => pdq_small g N cap k rest X w h hN hcap hX)
  clear h
  go_enter Tryz.func86, Tryz.ntmps86
  go_wp2_with (first
    | (go_at_call 107; refine cL.mono ?_; rintro e w' ⟨⟨k, rfl, hk⟩, rfl⟩)
    | (go_at_call 106; refine (cP.out _).mono ?_; rintro e w' ⟨rfl, hT, Y, hR, hS, hU⟩))
  go_end0
  exact ⟨rfl, hT, Y, hR, hS, hU⟩

/-- What Sort does to rows of so many numbers. -/
def Sorts (m : Nat) : Prop := ∀ (g N cap : Nat) (rest : List Value) (X : Nat → Nat) (w : World), N ≤ m → RW w g N X rest → N ≤ cap → (∀ i, i < N → X i < 9223372036854775808) →
  Calls Tryz.prog 86 #[.slice (some ⟨g, 0, none⟩) N cap] w fun e w' => e = .returned (.tuple #[]) ∧ Two g g w w' ∧ ∃ Y, RW w' g N Y rest ∧ SO.Sw 0 N X Y ∧ SO.Up Y 0 N
theorem sorts_small : Sorts 12 := fun g N cap rest X w hN h hcap hX => Sort_small g N cap rest X w h hN hcap hX

/-- A slice of the call's own that holds these numbers, rising. -/
structure Nlist (base : Nat) (w : World) (v : Value) (l : List Nat) : Prop where
  ex : ∃ (g cap : Nat) (rest : List Value), v = .slice (some ⟨g, 0, none⟩) l.length cap ∧ base ≤ g ∧ l.length ≤ cap ∧ Blk w g 3 (l.map nk ++ rest)
theorem Nlist.keep {base : Nat} {w w' : World} {v : Value} {l : List Nat} (h : Nlist base w v l) (hb : Below w.heap.size w w') : Nlist base w' v l := by
  obtain ⟨g, cap, rest, e, h1, h2, h3⟩ := h.ex
  exact ⟨⟨g, cap, rest, e, h1, h2, h3.keep hb⟩⟩

theorem lst_of (l : List Nat) : SO.lst (fun i => l.getD i 0) l.length = l := by
  apply List.ext_getElem?
  intro i
  by_cases h : i < l.length
  · rw [SO.lst_get _ _ _ h]; simp [List.getD, h]
  · rw [List.getElem?_eq_none (by rw [SO.lst_len]; omega), List.getElem?_eq_none (by omega)]

theorem up_pairwise {X : Nat → Nat} {N : Nat} (h : SO.Up X 0 N) : (SO.lst X N).Pairwise (· ≤ ·) := by
  unfold SO.lst
  rw [List.pairwise_map]
  rw [List.pairwise_iff_getElem]
  intro i j hi hj hij
  simp only [List.length_range] at hi hj
  simp only [List.getElem_range]
  exact h i j (by omega) hij hj

set_option maxRecDepth 100000 in
set_option maxHeartbeats 4000000 in
/-- slices.Sorted of what Keys handed back. -/
theorem Sorted_any (mx : Nat) (hs : Sorts mx) (Bm b : Nat) (M : Int → Option Nat) (w : World) (hBm : Bm < w.heap.size) (hb : b < w.heap.size) (hm : w.cell? ⟨Bm, 0, none⟩ = some (.map (some b))) (hMB : MB w b M)
    (hsm : ∀ ss, Nums M ss → ss.length ≤ mx) (hne : ∃ f : Nat, M f ≠ none) :
    Calls Tryz.prog 44 #[.func (.func 87) #[] #[.pointer (some ⟨Bm, 0, none⟩)]] w fun e w' => ∃ (v : Value) (l : List Nat), e = .returned v ∧ Nums M l ∧ l.Pairwise (· ≤ ·) ∧ Nlist w.heap.size w' v l ∧ Below w.heap.size w w' := by
  have cC := Collect_any Bm b M w hBm hb hm hMB
  have hlt := fun ss (h : Nums M ss) => h.lt hMB
  have hs := W_hid hs
  clear hm
  go_enter Tryz.func44, Tryz.ntmps44
  go_wp2_with (go_at_call 85; refine cC.mono ?_; rintro e w1 ⟨v, ss, rfl, hN, hown, hnil, hB⟩)
  have hne0 : ss ≠ [] := by
    obtain ⟨f, hf⟩ := hne
    intro e
    have := (hN.2 f).2 hf
    rw [e] at this
    cases this
  rcases hown.2 with ⟨h0, -⟩ | ⟨g, cap, cur, rfl, hbase, hg, h1, h2, h3, h4⟩
  · exact absurd (hnil.1 h0) hne0
  have hrw : RW w1 g ss.length (fun i => ss.getD i 0) (cur.toList.drop ss.length) := by
    refine ⟨?_⟩
    unfold Blk
    rw [hg, lst_of]
    have e : ss.map nk ++ cur.toList.drop ss.length = cur.toList := by
      rw [Nat.mul_one] at h4
      rw [← h4, List.take_append_drop]
    rw [e]
  have cS := W_hid (hs.out g ss.length cap _ _ w1 (hsm ss hN) hrw (by omega) (fun i hi => by
    have := hlt ss hN (ss.getD i 0) (by rw [List.getD, List.getElem?_eq_getElem hi]; exact List.getElem_mem _)
    omega))
  clear hrw h4 h3 hg
  go_wp2_with (go_at_call 86; refine cS.out.mono ?_; rintro e w2 ⟨rfl, hT, Y, hR, hS, hU⟩)
  go_ret
  refine ⟨_, SO.lst Y ss.length, rfl, ⟨?_, fun f => ?_⟩, up_pairwise hU, ⟨⟨g, cap, _, by rw [SO.lst_len]; rfl, hbase, by rw [SO.lst_len]; exact h1, hR.blk⟩⟩, hB.trans (hT.below hB.size hbase hbase)⟩
  · refine SO.lst_nodup _ _ (hS.inj (Nat.le_refl _) (SO.inj_of_nodup _ _ ?_))
    rw [lst_of]; exact hN.1
  · rw [hS.mem (Nat.le_refl _), lst_of, hN.2 f]


end IS
end Go.Proofs.YtbloiilinofklaaGreat

/- xorshift's Next, nextPowerOfTwo, breakPatternsOrdered, choosePivotOrdered. -/
namespace Go.Proofs.YtbloiilinofklaaGreat
open Go.ChangeShapes Go.WideShapes Go.ChangeAt Go.RowKit
set_option linter.unusedVariables false
set_option linter.unusedSimpArgs false
namespace IS

theorem wrapn (x : Nat) : ∃ y : Nat, y < 18446744073709551616 ∧ IntKind.u64.wrap (x : Int) = (y : Int) := ⟨x % 18446744073709551616, Nat.mod_lt _ (by decide), by rw [IntKind.wrap_u64]; omega⟩
theorem wrapm (m : Nat) (h : m ≤ 2 ^ 16) : IntKind.u64.wrap (m : Int) = (m : Int) := by rw [IntKind.wrap_u64]; omega
theorem xor_some (x y : Nat) (hx : x < 18446744073709551616) (hy : y < 18446744073709551616) : ∃ z : Nat, z < 18446744073709551616 ∧ bits BinOp.xor IntKind.u64 (x : Int) (y : Int) = (z : Int) :=
  ⟨x ^^^ y, Nat.xor_lt_two_pow (n := 64) hx hy, u64_xor_nat _ _ hx hy⟩
theorem shl_some (x : Nat) (c : Nat) (hx : x < 18446744073709551616) : ∃ z : Nat, z < 18446744073709551616 ∧ bits BinOp.xor IntKind.u64 (x : Int) (IntKind.u64.wrap ((x : Int) * (c : Int))) = (z : Int) := by
  obtain ⟨y, hy, e⟩ := wrapn (x * c)
  rw [show ((x * c : Nat) : Int) = (x : Int) * (c : Int) by push_cast; rfl] at e
  rw [e]
  exact xor_some x y hx hy
theorem shr_some (x : Nat) (hx : x < 18446744073709551616) : ∃ z : Nat, z < 18446744073709551616 ∧ bits BinOp.xor IntKind.u64 (x : Int) ((x : Int) / 128) = (z : Int) := by
  rw [show (x : Int) / 128 = ((x / 128 : Nat) : Int) by omega]
  exact xor_some x _ hx (by omega)

set_option maxRecDepth 100000 in
set_option maxHeartbeats 1000000 in
theorem Next_any (y x : Nat) (w : World) (hy : Blk w y 183 [.int .u64 (x : Int)]) (hx : x < 18446744073709551616) :
    Calls Tryz.prog 135 #[.pointer (some ⟨y, 0, none⟩)] w fun e w' => ∃ z : Nat, e = .returned (.int .u64 (z : Int)) ∧ z < 18446744073709551616 ∧ Blk w' y 183 [.int .u64 (z : Int)] ∧ Two y y w w' := by
  obtain ⟨x1, h1, e1⟩ : ∃ z : Nat, z < 18446744073709551616 ∧ bits BinOp.xor IntKind.u64 (x : Int) (IntKind.u64.wrap ((x : Int) * 8192)) = (z : Int) := shl_some x 8192 hx
  obtain ⟨x2, h2, e2⟩ := shr_some x1 h1
  obtain ⟨x3, h3, e3⟩ : ∃ z : Nat, z < 18446744073709551616 ∧ bits BinOp.xor IntKind.u64 (x2 : Int) (IntKind.u64.wrap ((x2 : Int) * 131072)) = (z : Int) := shl_some x2 131072 h2
  have c0 := hy.cell (j := 0) rfl
  have f0 := hy.fz
  have q1 := W_hid (hy.set 0 (.int .u64 (x1 : Int)))
  have t1 := W_hid ((Two.refl y y w).setCell (p := ⟨y, 0, none⟩) (.inl rfl) (.int .u64 (x1 : Int)))
  replace h3 := W_hid h3
  clear hx h1 h2 hy
  obtain ⟨w1, hw1⟩ : ∃ V, World.drew (w.setCell ⟨y, 0, none⟩ (.int .u64 (x1 : Int))) = V := ⟨_, rfl⟩
  have b1 : Blk w1 y 183 [.int .u64 (x1 : Int)] := by rw [← hw1]; exact q1.out
  have k1 : Two y y w w1 := by rw [← hw1]; exact ⟨t1.out.os, t1.out.tape, t1.out.output, t1.out.size, t1.out.block⟩
  obtain ⟨w2, hw2⟩ : ∃ V, World.drew (w1.setCell ⟨y, 0, none⟩ (.int .u64 (x2 : Int))) = V := ⟨_, rfl⟩
  have b2 : Blk w2 y 183 [.int .u64 (x2 : Int)] := by rw [← hw2]; exact b1.set 0 _
  have k2 : Two y y w w2 := by
    have t := k1.setCell (p := ⟨y, 0, none⟩) (.inl rfl) (.int .u64 (x2 : Int))
    rw [← hw2]; exact ⟨t.os, t.tape, t.output, t.size, t.block⟩
  obtain ⟨w3, hw3⟩ : ∃ V, World.drew (w2.setCell ⟨y, 0, none⟩ (.int .u64 (x3 : Int))) = V := ⟨_, rfl⟩
  have b3 : Blk w3 y 183 [.int .u64 (x3 : Int)] := by rw [← hw3]; exact b2.set 0 _
  have k3 : Two y y w w3 := by
    have t := k2.setCell (p := ⟨y, 0, none⟩) (.inl rfl) (.int .u64 (x3 : Int))
    rw [← hw3]; exact ⟨t.os, t.tape, t.output, t.size, t.block⟩
  have c1 := b1.cell (j := 0) rfl
  have f1 := b1.fz
  have c2 := b2.cell (j := 0) rfl
  have f2 := b2.fz
  have c3 := b3.cell (j := 0) rfl
  replace b3 := W_hid b3
  replace k3 := W_hid k3
  clear b1 b2 k1 k2 q1 t1
  go_enter Tryz.func135, Tryz.ntmps135
  go_wp2_with fail
  go_region
  try rw [hw1]
  go_wp2_with fail
  go_region
  try rw [hw2]
  go_wp2_with fail
  go_region
  try rw [hw3]
  go_wp2_with fail
  go_ret
  exact ⟨x3, rfl, h3.out, b3.out, k3.out⟩

def lenOk (t i : Nat) : Bool := decide (i < 2 ^ t) && (decide (i = 0) || decide (2 ^ t ≤ 2 * i)) && decide (t ≤ 8)
theorem len_at (s : ByteArray) (hs : s.size = 256) (hp : ∀ i : Fin 256, lenOk (s.get! i.val).toNat i.val = true) (k : Nat) (hk : k < 256) : ∃ t : Nat, k < 2 ^ t ∧ (k = 0 ∨ 2 ^ t ≤ 2 * k) ∧ t ≤ 8 ∧ ∀ w, (Instr.index 9 (.string s) (.int .u8 (k : Int))).run Tryz.prog w = .ok (.int .u8 (t : Int)) w := by
  have hlt : k < s.size := by omega
  have h1 := hp ⟨k, hk⟩
  have e : s.get! k = s[k] := by
    show s.data[k]! = s.data[k]
    exact getElem!_pos s.data k hlt
  rw [show s.get! (⟨k, hk⟩ : Fin 256).val = s[k] from e] at h1
  unfold lenOk at h1
  simp only [Bool.and_eq_true, Bool.or_eq_true, decide_eq_true_eq] at h1
  refine ⟨(s[k]).toNat, h1.1.1, h1.1.2, h1.2, fun w => ?_⟩
  rw [run_index_string w _ s _ _ und_str, dif_pos ⟨by omega, by omega⟩]
  rfl

set_option maxRecDepth 100000 in
set_option maxHeartbeats 4000000 in
theorem Len64_fine (X : Nat) (w : World) (h0 : 1 ≤ X) (hX : X < 65536) : Calls Tryz.prog 127 #[.int .u64 (X : Int)] w fun e w' => (∃ k : Nat, e = .returned (.int .i64 (k : Int)) ∧ k ≤ 16 ∧ X < 2 ^ k ∧ 2 ^ k ≤ 2 * X) ∧ w' = w := by
  obtain ⟨Y, hY⟩ : ∃ Y : Int, Y = (X : Int) := ⟨_, rfl⟩
  have d0 : 0 ≤ Y := by omega
  have d1 : Y < 4294967296 := by omega
  have d2 : Y < 65536 := by omega
  rw [← hY]
  go_enter Tryz.func127, Tryz.ntmps127
  generalize hT : Value.string _ = T
  have hI : ∀ k : Nat, k < 256 → ∃ t : Nat, k < 2 ^ t ∧ (k = 0 ∨ 2 ^ t ≤ 2 * k) ∧ t ≤ 8 ∧ ∀ w, (Instr.index 9 T (.int .u8 (k : Int))).run Tryz.prog w = .ok (.int .u8 (t : Int)) w := by
    intro k hk
    rw [← hT]
    exact len_at _ (by rfl) (by decide +kernel) k hk
  clear hT
  by_cases h : 256 ≤ X
  · obtain ⟨t, ht1, ht2, ht3, hi⟩ := hI (X / 256) (by omega)
    have hfin : Hid (t + 8 ≤ 16 ∧ X < 2 ^ (t + 8) ∧ 2 ^ (t + 8) ≤ 2 * X) := by
      show _ ∧ _ ∧ _
      rw [Nat.pow_add]
      have : 2 ^ 8 = 256 := rfl
      omega
    obtain ⟨Q, hQ⟩ : ∃ Q : Int, Q = ((X / 256 : Nat) : Int) := ⟨_, rfl⟩
    have hYQ : Y / 256 = Q := by omega
    have hq : 0 ≤ Q ∧ Q < 256 := by omega
    have hy : 256 ≤ Y := by omega
    rw [← hQ] at hi
    have ht4 : t ≤ 8 := ht3
    clear hI ht1 ht2 ht3 hQ hY h0 hX h
    go_wp2_with fail
    go_ret
    exact ⟨⟨t + 8, by simp; omega, hfin.out⟩, rfl⟩
  · obtain ⟨t, ht1, ht2, ht3, hi⟩ := hI X (by omega)
    have hfin : Hid (t ≤ 16 ∧ X < 2 ^ t ∧ 2 ^ t ≤ 2 * X) := by
      show _ ∧ _ ∧ _
      omega
    have h2 : Y < 256 := by omega
    have ht4 : t ≤ 8 := ht3
    rw [← hY] at hi
    clear hI ht1 ht2 ht3 hY h0 hX h
    go_wp2_with fail
    go_ret
    exact ⟨⟨t, rfl, hfin.out⟩, rfl⟩

set_option maxRecDepth 100000 in
set_option maxHeartbeats 4000000 in
theorem Len_fine (X : Nat) (w : World) (h0 : 1 ≤ X) (hX : X < 65536) : Calls Tryz.prog 107 #[.int .u64 (X : Int)] w fun e w' => (∃ k : Nat, e = .returned (.int .i64 (k : Int)) ∧ k ≤ 16 ∧ X < 2 ^ k ∧ 2 ^ k ≤ 2 * X) ∧ w' = w := by
  have c := W_hid (Len64_fine X w h0 hX)
  clear h0 hX
  go_enter Tryz.func107, Tryz.ntmps107
  go_wp2_with (go_at_call 127; refine c.out.mono ?_; rintro e w' ⟨⟨k, rfl, hk⟩, rfl⟩)
  go_ret
  exact ⟨⟨k, rfl, hk⟩, rfl⟩

set_option maxRecDepth 100000 in
set_option maxHeartbeats 4000000 in
theorem power_any (X : Nat) (w : World) (h0 : 1 ≤ X) (hX : X < 65536) : Calls Tryz.prog 134 #[.int .i64 (X : Int)] w fun e w' => (∃ m : Nat, e = .returned (.int .u64 (m : Int)) ∧ X < m ∧ m ≤ 2 * X) ∧ w' = w := by
  have c := W_hid (Len_fine X w h0 hX)
  have hsh : Hid (∀ (k : Nat), k ≤ 16 → IntKind.u64.wrap ((2 : Int) ^ k) = ((2 ^ k : Nat) : Int)) := by
    intro k hk
    have hp : 2 ^ k ≤ 2 ^ 16 := Nat.pow_le_pow_right (by decide) hk
    rw [show ((2 : Int) ^ k) = ((2 ^ k : Nat) : Int) by push_cast; rfl]
    exact wrapm _ hp
  have hx1 : (X : Int) < 65536 := by omega
  clear h0 hX
  go_enter Tryz.func134, Tryz.ntmps134
  go_wp2_with fail
  refine c.out.mono ?_
  rintro e w' ⟨⟨k, rfl, hk, hk1, hk2⟩, rfl⟩
  have hs := hsh.out k hk
  obtain ⟨m, hm⟩ : ∃ m, 2 ^ k = m := ⟨_, rfl⟩
  rw [hm] at hs hk1 hk2
  replace hm := W_hid hm
  replace hs := W_hid hs
  go_wp2_with fail
  go_ret
  exact ⟨⟨m, ret_u64 hs.out, hk1, hk2⟩, rfl⟩
end IS
end Go.Proofs.YtbloiilinofklaaGreat

/- breakPatternsOrdered, choosePivotOrdered. -/
namespace Go.Proofs.YtbloiilinofklaaGreat
open Go.ChangeShapes Go.WideShapes Go.ChangeAt Go.RowKit
set_option linter.unusedVariables false
set_option linter.unusedSimpArgs false
namespace IS

theorem Two.own {g y : Nat} {w w' : World} (h : Two g y w w') (hy : w.heap.size ≤ y) : Two g g w w' := ⟨h.os, h.tape, h.output, h.size, fun k hk h1 _ => h.block k hk h1 (by omega)⟩
theorem Two.swap' {g y : Nat} {w w' : World} (h : Two y g w w') : Two g y w w' := ⟨h.os, h.tape, h.output, h.size, fun k hk h1 h2 => h.block k hk h2 h1⟩
theorem Two.wider {g y : Nat} {w w' : World} (h : Two y y w w') : Two g y w w' := ⟨h.os, h.tape, h.output, h.size, fun k hk h1 h2 => h.block k hk h2 h2⟩
theorem RW.two {w w' : World} {g y N : Nat} {X : Nat → Nat} {rest : List Value} (h : RW w g N X rest) (t : Two y y w w') (hne : g ≠ y) : RW w' g N X rest := ⟨h.blk.two t hne hne⟩
theorem and_some (x m n : Nat) (hx : x < 18446744073709551616) (h1 : n < m) (h2 : m ≤ 2 * n) (hn : n ≤ 65536) : ∃ r : Nat, r < 2 * n ∧ bits BinOp.and IntKind.u64 (x : Int) ((m : Int) - 1) = (r : Int) := by
  have e : (m : Int) - 1 = ((m - 1 : Nat) : Int) := by omega
  have h3 : x &&& (m - 1) ≤ m - 1 := Nat.and_le_right
  exact ⟨x &&& (m - 1), by omega, by rw [e]; exact u64_and_nat _ _ hx (by omega)⟩

set_option maxRecDepth 100000 in
set_option maxHeartbeats 4000000 in
theorem break_any (g N cap : Nat) (rest : List Value) (a b : Nat) (X : Nat → Nat) (w : World) (h : RW w g N X rest) (hab : a + 8 ≤ b) (hb : b ≤ N) (hN : N < 65536) (hcap : N ≤ cap) :
    Calls Tryz.prog 119 #[.slice (some ⟨g, 0, none⟩) N cap, .int .i64 (a : Int), .int .i64 (b : Int)] w fun e w' => e = .returned (.tuple #[]) ∧ Two g g w w' ∧ ∃ Y, RW w' g N Y rest ∧ SO.Sw a b X Y := by
  have hgl := h.lt
  have h := W_hid h
  obtain ⟨n, hn⟩ : ∃ n, b - a = n := ⟨_, rfl⟩
  have hni : (b : Int) - (a : Int) = (n : Int) := by omega
  have hn8 : 8 ≤ n := by omega
  have hnN : n < 65536 := by omega
  obtain ⟨d, hd⟩ : ∃ d, n / 4 = d := ⟨_, rfl⟩
  have hdi : (n : Int).tdiv 4 = (d : Int) := by rw [← hd]; rfl
  obtain ⟨d2, hd2⟩ : ∃ d2, d * 2 = d2 := ⟨_, rfl⟩
  have hd2i : (d : Int) * 2 = (d2 : Int) := by omega
  obtain ⟨s1, hs1⟩ : ∃ s, a + d2 = s := ⟨_, rfl⟩
  have hs1i : (a : Int) + (d2 : Int) = (s1 : Int) := by omega
  obtain ⟨s0, hs0⟩ : ∃ s, s1 - 1 = s := ⟨_, rfl⟩
  have hs0i : (s1 : Int) - 1 = (s0 : Int) := by omega
  have hbd : Hid (a ≤ s0 ∧ s1 + 1 < b ∧ s0 + 1 = s1 ∧ a + n = b) := by show _ ∧ _ ∧ _ ∧ _; omega
  have hsm : s1 ≤ 65536 ∧ s0 ≤ 65536 ∧ d2 ≤ 65536 ∧ d ≤ 65536 := by omega
  have cP := W_hid (fun w => power_any n w (by omega) hnN)
  have b1 : Below w.heap.size w (w.alloc (.cells #[.int .u64 (n : Int)] 183)) := (Below.refl _ _).alloc (Nat.le_refl _) _
  have hY := W_hid (Blk.new w 183 [.int .u64 (n : Int)] rfl)
  have hR1 := W_hid (h.out.keep b1)
  have hT1 : Hid (Two g w.heap.size w (w.alloc (.cells #[.int .u64 (n : Int)] 183))) := Two.of b1
  have hgy : ¬ g = w.heap.size := by omega
  replace hd := W_hid hd
  replace hd2 := W_hid hd2
  replace hs1 := W_hid hs1
  replace hs0 := W_hid hs0
  replace hn := W_hid hn
  clear b1
  go_enter Tryz.func119, Tryz.ntmps119
  go_wp2_with fail
  refine (cP.out _).mono ?_
  rintro e w1 ⟨⟨m, rfl, hm1, hm2⟩, rfl⟩
  have hmi : 0 ≤ (m : Int) - 1 ∧ (m : Int) - 1 ≤ 131072 := by omega
  replace hm1 := W_hid hm1
  replace hm2 := W_hid hm2
  go_wp2_with fail
  obtain ⟨W1, hW1⟩ : ∃ W, w.alloc (.cells #[.int .u64 (n : Int)] 183) = W := ⟨_, rfl⟩
  rw [hW1] at hY hR1 hT1 ⊢
  go_loopw [9] (fun v wr => ∃ (q x : Nat) (Z : Nat → Nat), v = .int .i64 (q : Int) ∧ s0 ≤ q ∧ q ≤ s1 + 2 ∧ Hid (x < 18446744073709551616) ∧ Hid (Blk wr w.heap.size 183 [.int .u64 (x : Int)]) ∧ Hid (RW wr g N Z rest) ∧ Hid (SO.Sw a b X Z) ∧ Hid (Two g w.heap.size w wr)) (fun v _ => s1 + 2 - (intOf v).toNat)
  case atStart => exact ⟨s0, n, X, rfl, Nat.le_refl _, by have := hbd.out; omega, (show n < 18446744073709551616 by omega), hY, hR1, W_hid .refl, hT1⟩
  case round =>
    clear hY hR1 hT1
    obtain ⟨q, x, Z, rfl, hq1, hq2, hx, hY, hR, hS, hT⟩ := hrel
    by_cases hle : q ≤ s1 + 1
    · have hlei : (q : Int) ≤ (s1 : Int) + 1 := by omega
      have cN := W_hid (Next_any w.heap.size x wr hY.out hx.out)
      go_wp2_with fail
      refine cN.out.mono ?_
      rintro e w2 ⟨z, rfl, hz, hY2, hT2⟩
      obtain ⟨r, hr1, hr2⟩ := and_some z m n hz hm1.out hm2.out (by omega)
      have hR2 := W_hid (hR.out.two hT2 hgy)
      have hT3 := W_hid (hT.out.trans (Two.wider hT2))
      replace hz := W_hid hz
      replace hY2 := W_hid hY2
      have hrb : r ≤ 131072 := by omega
      clear hY hR hT hT2 cN
      obtain ⟨o, ho, hor⟩ : ∃ o : Nat, o < n ∧ ((r < n ∧ o = r) ∨ (n ≤ r ∧ (r : Int) - (n : Int) = (o : Int))) := by
        by_cases hh : r < n
        · exact ⟨r, hh, .inl ⟨hh, rfl⟩⟩
        · exact ⟨r - n, by omega, .inr ⟨by omega, by omega⟩⟩
      obtain ⟨p, hp⟩ : ∃ p, a + o = p := ⟨_, rfl⟩
      have hpi : (a : Int) + (o : Int) = (p : Int) := by omega
      have hpb : a ≤ p ∧ p < b ∧ p < N := by have := hbd.out; omega
      have hqb : a ≤ q ∧ q < b ∧ q < N := by have := hbd.out; omega
      have dq := hR2.out.cell q hqb.2.2
      have dp := hR2.out.cell p hpb.2.2
      have gz := hR2.out.fz
      obtain ⟨vq, hvq⟩ : ∃ v, Z q = v := ⟨_, rfl⟩
      obtain ⟨vp, hvp⟩ : ∃ v, Z p = v := ⟨_, rfl⟩
      have hR4 := W_hid (hR2.out.swap q p hqb.2.2 hpb.2.2)
      have hT4 := W_hid ((hT3.out.setCell (p := ⟨g, q, none⟩) (.inl rfl) (.int .i64 (Z p : Int))).setCell (p := ⟨g, p, none⟩) (.inl rfl) (.int .i64 (Z q : Int)))
      have hS4 := W_hid (hS.out.step (i := q) (j := p) hqb.1 hqb.2.1 hpb.1 hpb.2.1)
      have hY4 := W_hid ((hY2.out.far (p := ⟨g, q, none⟩) (fun e => hgy e.symm) (.int .i64 (vp : Int))).far (p := ⟨g, p, none⟩) (fun e => hgy e.symm) (.int .i64 (vq : Int)))
      rw [hvq, hvp] at hR4 hT4
      rw [hvq] at dq
      rw [hvp] at dp
      replace hvq := W_hid hvq
      replace hvp := W_hid hvp
      replace hp := W_hid hp
      obtain ⟨V, hV⟩ : ∃ V, World.drew ((w2.setCell ⟨g, q, none⟩ (.int .i64 (vp : Int))).setCell ⟨g, p, none⟩ (.int .i64 (vq : Int))) = V := ⟨_, rfl⟩
      have hR5 : RW V g N (SO.swp Z q p) rest := by rw [← hV]; exact hR4.out.drew
      have hT5 : Two g w.heap.size w V := by rw [← hV]; exact ⟨hT4.out.os, hT4.out.tape, hT4.out.output, hT4.out.size, hT4.out.block⟩
      have hY5 : Blk V w.heap.size 183 [.int .u64 (z : Int)] := by rw [← hV]; exact hY4.out
      replace hR5 := W_hid hR5
      replace hT5 := W_hid hT5
      replace hY5 := W_hid hY5
      clear hR2 hT3 hY2 hR4 hT4 hY4 hS
      obtain ⟨qn, hqn⟩ : ∃ x, q + 1 = x := ⟨_, rfl⟩
      have hqi : (q : Int) + 1 = (qn : Int) := by omega
      have hqs : s0 ≤ qn ∧ qn ≤ s1 + 2 := by omega
      have hqm : Hid (s1 + 2 - qn < s1 + 2 - q) := by show _ < _; omega
      replace hqn := W_hid hqn
      rcases hor with ⟨hr, rfl⟩ | ⟨hr, hro⟩
      all_goals
        have hcs : p = q ∨ ¬ p = q := by omega
        rcases hcs with hqa | hne
        case' inl =>
          obtain rfl : vq = vp := hvq.out.symm.trans (by rw [← hqa]; exact hvp.out)
          subst hqa
        case' inr => have hne2 : ¬ q = p := fun e => hne e.symm
        all_goals
          go_wp2_with fail
          go_region
          try rw [hV]
          clear hV dq dp gz
          go_wp2_with fail
          go_roundw
          case rel => exact ⟨qn, z, _, rfl, hqs.1, hqs.2, hz, hY5, hR5, hS4, hT5⟩
          case measure => (have := hqm.out); first | (simp [intOf]; omega) | simp [intOf]
    · have hlei : ¬ (q : Int) ≤ (s1 : Int) + 1 := by omega
      go_wp2_with fail
      go_end0
      exact ⟨rfl, Two.own hT.out (Nat.le_refl _), Z, hR.out, hS.out⟩

set_option maxRecDepth 100000 in
set_option maxHeartbeats 4000000 in
theorem pivot_any (g N cap : Nat) (rest : List Value) (a b : Nat) (X : Nat → Nat) (w : World) (h : RW w g N X rest) (hab : a + 8 ≤ b) (hb : b ≤ N) (hN : N < 65536) (hcap : N ≤ cap) :
    Calls Tryz.prog 120 #[.slice (some ⟨g, 0, none⟩) N cap, .int .i64 (a : Int), .int .i64 (b : Int)] w fun e w' => ∃ p c : Nat, e = .returned (.tuple #[.int .i64 (p : Int), .int .i64 (c : Int)]) ∧ a ≤ p ∧ p < b ∧ c ≤ 2 ∧ Two g g w w' ∧ RW w' g N X rest := by
  have hgl := h.lt
  have hN' : N ≤ 65536 := by omega
  obtain ⟨n, hn⟩ : ∃ n, b - a = n := ⟨_, rfl⟩
  have hni : (b : Int) - (a : Int) = (n : Int) := by omega
  have hn8 : 8 ≤ n := by omega
  have hnN : n < 65536 := by omega
  obtain ⟨d, hd⟩ : ∃ d, n / 4 = d := ⟨_, rfl⟩
  have hdi : (n : Int).tdiv 4 = (d : Int) := by rw [← hd]; rfl
  obtain ⟨d2, hd2⟩ : ∃ d2, d * 2 = d2 := ⟨_, rfl⟩
  have hd2i : (d : Int) * 2 = (d2 : Int) := by omega
  obtain ⟨d3, hd3⟩ : ∃ d3, d * 3 = d3 := ⟨_, rfl⟩
  have hd3i : (d : Int) * 3 = (d3 : Int) := by omega
  obtain ⟨i, hi⟩ : ∃ s, a + d = s := ⟨_, rfl⟩
  have hii : (a : Int) + (d : Int) = (i : Int) := by omega
  obtain ⟨j, hj⟩ : ∃ s, a + d2 = s := ⟨_, rfl⟩
  have hji : (a : Int) + (d2 : Int) = (j : Int) := by omega
  obtain ⟨k, hk⟩ : ∃ s, a + d3 = s := ⟨_, rfl⟩
  have hki : (a : Int) + (d3 : Int) = (k : Int) := by omega
  have hsm : i < 65536 ∧ j < 65536 ∧ k < 65536 ∧ d ≤ 65536 ∧ d2 ≤ 65536 ∧ d3 ≤ 65536 := by omega
  have hbd : Hid (a ≤ i ∧ i < b ∧ a ≤ j ∧ j < b ∧ a ≤ k ∧ k < b) := by show _ ∧ _ ∧ _ ∧ _ ∧ _ ∧ _; omega
  have hbd2 : Hid (50 ≤ n → a + 1 ≤ i ∧ i + 1 < b ∧ a + 1 ≤ j ∧ j + 1 < b ∧ a + 1 ≤ k ∧ k + 1 < b) := by intro _; omega
  have b1 : Below w.heap.size w (w.alloc (.cells #[.int .i64 0] 3)) := (Below.refl _ _).alloc (Nat.le_refl _) _
  have hY := Blk.new w 3 [.int .i64 0] rfl
  have hR1 := h.keep b1
  have hT1 : Two w.heap.size w.heap.size w (w.alloc (.cells #[.int .i64 0] 3)) := Two.of b1
  have hgy : w.heap.size ≠ g := by omega
  obtain ⟨W1, hW1⟩ : ∃ W, w.alloc (.cells #[.int .i64 0] 3) = W := ⟨_, rfl⟩
  rw [hW1] at hY hR1 hT1
  -- the three places
  have hmed := W_hid (fun a b c s (V : World) h h1 h2 h3 h4 h5 => median_any g N cap rest a b c w.heap.size s X V h h1 h2 h3 hN' hcap h4 hgy h5)
  have hadj := W_hid (fun a s (V : World) h h1 h2 h4 h5 => adjacent_any g N cap rest a w.heap.size s X V h h1 h2 hN' hcap h4 hgy h5)
  replace hn := W_hid hn
  replace hd := W_hid hd
  replace hd2 := W_hid hd2
  replace hd3 := W_hid hd3
  replace hi := W_hid hi
  replace hj := W_hid hj
  replace hk := W_hid hk
  replace hgy := W_hid hgy
  replace hY := W_hid hY
  replace hR1 := W_hid hR1
  replace hT1 := W_hid hT1
  clear b1 h
  go_enter Tryz.func120, Tryz.ntmps120
  by_cases h50 : 50 ≤ n
  · have hb2 := hbd2.out h50
    have hA1 := W_hid (hadj.out i 0 W1 hR1.out (by omega) (by omega) hY.out (by omega))
    go_wp2_with fail
    try rw [hW1]
    clear hW1
    refine hA1.out.mono ?_
    rintro e w2 ⟨p1, rfl, hp1, hp1', k1⟩
    obtain ⟨s1, l1, u1, y1⟩ := k1.ex
    have hA2 := W_hid (hadj.out j s1 w2 k1.row (by omega) (by omega) y1 (by omega))
    replace k1 := W_hid k1
    clear y1 hA1 hR1 hY
    go_wp2_with fail
    refine hA2.out.mono ?_
    rintro e w3 ⟨p2, rfl, hp2, hp2', k2⟩
    obtain ⟨s2, l2, u2, y2⟩ := k2.ex
    have hA3 := W_hid (hadj.out k s2 w3 k2.row (by omega) (by omega) y2 (by omega))
    replace k2 := W_hid k2
    clear y2 hA2
    go_wp2_with fail
    refine hA3.out.mono ?_
    rintro e w4 ⟨p3, rfl, hp3, hp3', k3⟩
    obtain ⟨s3, l3, u3, y3⟩ := k3.ex
    have hA4 := W_hid (hmed.out p1 p2 p3 s3 w4 k3.row (by omega) (by omega) (by omega) y3 (by omega))
    replace k3 := W_hid k3
    clear y3 hA3
    go_wp2_with fail
    refine hA4.out.mono ?_
    rintro e w5 ⟨p4, rfl, hp4, k4⟩
    obtain ⟨s4, l4, u4, y4⟩ := k4.ex
    have hfin : Hid (a ≤ p4 ∧ p4 < b ∧ Two g g w w5 ∧ RW w5 g N X rest) := ⟨by omega, by omega, Two.own (g := g) (Two.wider ((((hT1.out.trans k1.out.two).trans k2.out.two).trans k3.out.two).trans k4.two)) (Nat.le_refl _), k4.row⟩
    have c4 := y4.cell (j := 0) rfl
    have hs4 : s4 ≤ 12 := by omega
    clear k1 k2 k3 k4 hA4 y4 l1 l2 l3 l4 u1 u2 u3 u4 hb2 hp1 hp1' hp2 hp2' hp3 hp3' hp4 hT1
    have hcs : s4 = 0 ∨ s4 = 12 ∨ (¬ s4 = 0 ∧ ¬ s4 = 12) := by omega
    rcases hcs with rfl | rfl | ⟨q1, q2⟩
    · go_wp2_with fail
      go_ret2
      exact ⟨p4, 1, rfl, hfin.out.1, hfin.out.2.1, by omega, hfin.out.2.2⟩
    · go_wp2_with fail
      go_ret2
      exact ⟨p4, 2, rfl, hfin.out.1, hfin.out.2.1, by omega, hfin.out.2.2⟩
    · have z1 : ((s4 : Int) == 0) = false := by simp; omega
      have z2 : ((s4 : Int) == 12) = false := by simp; omega
      go_wp2_with fail
      go_ret2
      exact ⟨p4, 0, rfl, hfin.out.1, hfin.out.2.1, by omega, hfin.out.2.2⟩
  · have hb2 := hbd.out
    have hA4 := W_hid (hmed.out i j k 0 W1 hR1.out (by omega) (by omega) (by omega) hY.out (by omega))
    go_wp2_with fail
    try rw [hW1]
    clear hW1
    refine hA4.out.mono ?_
    rintro e w5 ⟨p4, rfl, hp4, k4⟩
    obtain ⟨s4, l4, u4, y4⟩ := k4.ex
    have hfin : Hid (a ≤ p4 ∧ p4 < b ∧ Two g g w w5 ∧ RW w5 g N X rest) := ⟨by omega, by omega, Two.own (g := g) (Two.wider (hT1.out.trans k4.two)) (Nat.le_refl _), k4.row⟩
    have c4 := y4.cell (j := 0) rfl
    have hs4 : s4 ≤ 12 := by omega
    clear k4 hA4 y4 l4 u4 hb2 hp4 hT1 hR1 hY
    have hcs : s4 = 0 ∨ s4 = 12 ∨ (¬ s4 = 0 ∧ ¬ s4 = 12) := by omega
    rcases hcs with rfl | rfl | ⟨q1, q2⟩
    · go_wp2_with fail
      go_ret2
      exact ⟨p4, 1, rfl, hfin.out.1, hfin.out.2.1, by omega, hfin.out.2.2⟩
    · go_wp2_with fail
      go_ret2
      exact ⟨p4, 2, rfl, hfin.out.1, hfin.out.2.1, by omega, hfin.out.2.2⟩
    · have z1 : ((s4 : Int) == 0) = false := by simp; omega
      have z2 : ((s4 : Int) == 12) = false := by simp; omega
      go_wp2_with fail
      go_ret2
      exact ⟨p4, 0, rfl, hfin.out.1, hfin.out.2.1, by omega, hfin.out.2.2⟩
end IS
end Go.Proofs.YtbloiilinofklaaGreat

/- pdqsortOrdered, slices.Sort: rows of any length below 65536, where no number stands twice. -/
namespace Go.Proofs.YtbloiilinofklaaGreat
open Go.ChangeShapes Go.WideShapes Go.ChangeAt Go.RowKit
set_option linter.unusedVariables false
set_option linter.unusedSimpArgs false
namespace IS

/-- What the sort does to a range of so many. -/
def PdqAt (g N cap : Nat) (rest : List Value) (L : Nat) : Prop := ∀ (a b k : Nat) (X : Nat → Nat) (w : World), b - a = L → a ≤ b → b ≤ N → k ≤ 1000 → RW w g N X rest → SO.Bel X a b → SO.Inj X N → (∀ i, i < N → X i < 9223372036854775808) →
  Calls Tryz.prog 106 #[.slice (some ⟨g, 0, none⟩) N cap, .int .i64 (a : Int), .int .i64 (b : Int), .int .i64 (k : Int)] w fun e w' => e = .returned (.tuple #[]) ∧ Two g g w w' ∧ ∃ Y, RW w' g N Y rest ∧ SO.Sw a b X Y ∧ SO.Up Y a b

set_option maxRecDepth 100000 in
set_option maxHeartbeats 16000000 in
theorem pdq_step (g N cap : Nat) (rest : List Value) (hN : N < 65536) (hcap : N ≤ cap) (L : Nat) (IH : ∀ L', L' < L → PdqAt g N cap rest L') : PdqAt g N cap rest L := by
  intro a b k X w hL hab hb hk h hBel hInj hX
  have hN' : N ≤ 65536 := by omega
  have h := W_hid h
  have hBel := W_hid hBel
  have hInj := W_hid hInj
  have hX := W_hid hX
  have hIH := W_hid IH
  have hLf0 : Hid (SO.Left X a b a b) := SO.left_begin X a b
  have hXs : Hid (∀ Z : Nat → Nat, SO.Sw a b X Z → ∀ i, i < N → Z i < 9223372036854775808) := fun Z s i hi => (s.wide (Nat.zero_le a) hb).all (P := fun v => v < 9223372036854775808) (fun p _ hp => hX.out p hp) i (Nat.zero_le _) hi
  clear IH hX
  replace hL := W_hid hL
  go_enter Tryz.func106, Tryz.ntmps106
  go_wp2_with fail
  go_loopw [1, 2, 3, 8, 9] (fun u v l x y wr => ∃ (a1 b1 k1 : Nat) (t1 t2 : Bool) (Y : Nat → Nat), u = .int .i64 (a1 : Int) ∧ v = .int .i64 (b1 : Int) ∧ l = .int .i64 (k1 : Int) ∧ x = .bool t1 ∧ y = .bool t2 ∧ a ≤ a1 ∧ a1 ≤ b1 ∧ b1 ≤ b ∧ k1 ≤ 1000 ∧ Hid (RW wr g N Y rest) ∧ Hid (SO.Sw a b X Y) ∧ Hid (SO.Bel Y a1 b1) ∧ Hid (SO.Left Y a b a1 b1) ∧ Hid (Two g g w wr)) (fun u v _ _ _ _ => (intOf v - intOf u).toNat)
  case atStart => exact ⟨a, b, k, true, true, X, rfl, rfl, rfl, rfl, rfl, Nat.le_refl _, hab, Nat.le_refl _, hk, h, W_hid .refl, hBel, hLf0, W_hid (Two.refl _ _ _)⟩
  case round =>
    clear h hBel hLf0
    obtain ⟨a1, b1, k1, t1, t2, Y, rfl, rfl, rfl, rfl, rfl, q1, q2, q3, qk, hR, hS, hB, hLf, hT⟩ := hrel
    obtain ⟨n, hn⟩ : ∃ n, b1 - a1 = n := ⟨_, rfl⟩
    have hni : (b1 : Int) - (a1 : Int) = (n : Int) := by omega
    have hnb : n ≤ 65536 := by omega
    have hb1N : b1 ≤ N := by omega
    by_cases h12 : n ≤ 12
    · have c := W_hid (insert_any g N cap rest a1 b1 Y wr hR.out q2 hb1N hN' hcap (hXs.out Y hS.out))
      replace hn := W_hid hn
      go_wp2_with fail
      refine c.out.mono ?_
      rintro e w5 ⟨rfl, hT5, Z, hR5, hS5, hU5⟩
      have hfin : Hid (Two g g w w5 ∧ ∃ Y, RW w5 g N Y rest ∧ SO.Sw a b X Y ∧ SO.Up Y a b) := ⟨hT.out.trans hT5, Z, hR5, hS.out.trans (hS5.wide q1 q3), SO.left_done (SO.left_sw hLf.out hS5 q1 q3) hU5⟩
      clear c hT5 hR5 hS5 hU5
      go_wp2_with fail
      refine bodyPost_ret (results_none rfl _ _ _) rfl ?_
      exact ⟨rfl, hfin.out⟩
    · have hlt : a1 + 12 < b1 := by omega
      by_cases hk0 : k1 = 0
      · have c := W_hid (heap_any g N cap rest a1 b1 Y wr hR.out (by omega) hb1N hN' hcap)
        subst hk0
        replace hn := W_hid hn
        go_wp2_with fail
        refine c.out.mono ?_
        rintro e w5 ⟨rfl, hT5, Z, hR5, hS5, hU5⟩
        have hfin : Hid (Two g g w w5 ∧ ∃ Y, RW w5 g N Y rest ∧ SO.Sw a b X Y ∧ SO.Up Y a b) := ⟨hT.out.trans hT5, Z, hR5, hS.out.trans (hS5.wide q1 q3), SO.left_done (SO.left_sw hLf.out hS5 q1 q3) hU5⟩
        clear c hT5 hR5 hS5 hU5
        go_wp2_with fail
        refine bodyPost_ret (results_none rfl _ _ _) rfl ?_
        exact ⟨rfl, hfin.out⟩
      · have hkz : ((k1 : Int) == 0) = false := by simp; omega
        obtain ⟨kk, hkk⟩ : ∃ kk, k1 - 1 = kk := ⟨_, rfl⟩
        have hkki : (k1 : Int) - 1 = (kk : Int) := by omega
        have hkb : kk ≤ 1000 := by omega
        have cB := W_hid (break_any g N cap rest a1 b1 Y wr hR.out (by omega) hb1N hN hcap)
        replace hn := W_hid hn
        replace hkk := W_hid hkk
        -- the patterns
        go_upto_if 35 with fail
        go_cut [3] from 19 to 133 (fun l wx => ∃ (k2 : Nat) (Z : Nat → Nat), l = .int .i64 (k2 : Int) ∧ k2 ≤ 1000 ∧ Hid (RW wx g N Z rest) ∧ Hid (SO.Sw a1 b1 Y Z) ∧ Hid (Two g g w wx))
        case first =>
          cases t1 with
          | true =>
            go_wp2_with fail
            go_meet
            exact ⟨k1, Y, rfl, qk, hR, W_hid .refl, hT⟩
          | false =>
            go_wp2_with fail
            refine cB.out.mono ?_
            rintro e w5 ⟨rfl, hT5, Z, hR5, hS5⟩
            replace hT5 := W_hid (hT.out.trans hT5)
            replace hR5 := W_hid hR5
            replace hS5 := W_hid hS5
            go_wp2_with fail
            go_meet
            exact ⟨kk, Z, rfl, hkb, hR5, hS5, hT5⟩
        case rest =>
        clear hR hT cB
        obtain ⟨k2, Z, rfl, qk2, hR, hS2, hT⟩ := hcut
        have cV := W_hid (pivot_any g N cap rest a1 b1 Z wc hR.out (by omega) hb1N hN hcap)
        go_wp2_with fail
        refine cV.out.mono ?_
        rintro e w5 ⟨p, c, rfl, hp1, hp2, hc, hT5, hR5⟩
        replace hT := W_hid (hT.out.trans hT5)
        replace hR := W_hid hR5
        have cR := W_hid (reverse_any g N cap rest a1 b1 Z w5 hR5 (by omega) hb1N hN' hcap)
        obtain ⟨p2, hp2e⟩ : ∃ p2, b1 - 1 - (p - a1) = p2 := ⟨_, rfl⟩
        obtain ⟨b2, hb2e⟩ : ∃ b2, b1 - 1 = b2 := ⟨_, rfl⟩
        obtain ⟨p3, hp3e⟩ : ∃ p3, p - a1 = p3 := ⟨_, rfl⟩
        have e1 : (b1 : Int) - 1 = (b2 : Int) := by omega
        have e2 : (p : Int) - (a1 : Int) = (p3 : Int) := by omega
        have e3 : (b2 : Int) - (p3 : Int) = (p2 : Int) := by omega
        have hpb : Hid (a1 ≤ p2 ∧ p2 < b1) := by show _ ∧ _; omega
        have hpsm : p2 ≤ 65536 ∧ b2 ≤ 65536 ∧ p3 ≤ 65536 := by omega
        replace hp2e := W_hid hp2e
        replace hb2e := W_hid hb2e
        replace hp3e := W_hid hp3e
        clear cV hT5 hR5
        go_upto_if 50 with fail
        go_cut [11, 12] from 19 to 133 (fun u v wx => ∃ (p c : Nat) (Z2 : Nat → Nat), u = .int .i64 (p : Int) ∧ v = .int .i64 (c : Int) ∧ a1 ≤ p ∧ p < b1 ∧ Hid (RW wx g N Z2 rest) ∧ Hid (SO.Sw a1 b1 Z Z2) ∧ Hid (Two g g w wx))
        case first =>
          by_cases hc2 : c = 2
          · subst hc2
            go_wp2_with fail
            refine cR.out.mono ?_
            rintro e w6 ⟨rfl, hT6, Z2, hR6, hS6⟩
            replace hT6 := W_hid (hT.out.trans hT6)
            replace hR6 := W_hid hR6
            replace hS6 := W_hid hS6
            go_wp2_with fail
            go_meet
            exact ⟨p2, 1, Z2, rfl, rfl, hpb.out.1, hpb.out.2, hR6, hS6, hT6⟩
          · have hcz : ((c : Int) == 2) = false := by simp; omega
            go_wp2_with fail
            go_meet
            exact ⟨p, c, Z, rfl, rfl, hp1, hp2, hR, W_hid .refl, hT⟩
        case rest =>
        clear hR hT cR hp1 hp2 hc hpb hpsm e1 e2 e3 hp2e hb2e hp3e
        obtain ⟨p, c, Z2, rfl, rfl, hp1, hp2, hR, hS3, hT⟩ := hcut
        obtain ⟨W2, hW2⟩ : ∃ W, W = wc := ⟨wc, rfl⟩
        go_upto_region 15 with fail
        go_cut [68] from 19 to 133 (fun v wx => (∃ t : Bool, v = .bool t) ∧ wx = W2)
        case first =>
          have hce : c = 1 ∨ ¬ c = 1 := by omega
          rcases hce with rfl | hc1
          case' inr => have hcz : ((c : Int) == 1) = false := by simp; omega
          all_goals
            cases t1 <;> cases t2
          all_goals
            go_wp2_with fail
            go_meet
            exact ⟨⟨_, rfl⟩, hW2.symm⟩
        case rest =>
        obtain ⟨⟨t, rfl⟩, hwc⟩ := hcut
        rw [hwc]
        rw [← hW2] at hR hT
        clear hW2 hwc
        have hS23 := W_hid (hS2.out.trans hS3.out)
        have cI := W_hid (partins_any g N cap rest a1 b1 Z2 W2 hR.out (by omega) hb1N hN' hcap (SO.bel_sw (SO.bel_sw hB.out hS2.out) hS3.out))
        go_upto_if 68 with fail
        go_cut [] from 19 to 133 (fun wx => ∃ (Z4 : Nat → Nat), Hid (RW wx g N Z4 rest) ∧ Hid (SO.Sw a1 b1 Y Z4) ∧ Hid (Two g g w wx))
        case first =>
          cases t with
          | true =>
            go_wp2_with fail
            refine cI.out.mono ?_
            rintro e w6 ⟨tt, rfl, hT6, Z4, hR6, hS6, hU6⟩
            replace hT6 := W_hid (hT.out.trans hT6)
            replace hR6 := W_hid hR6
            replace hS6 := W_hid (hS23.out.trans hS6)
            cases tt with
            | true =>
              have hfin : Hid (Two g g w w6 ∧ ∃ Y, RW w6 g N Y rest ∧ SO.Sw a b X Y ∧ SO.Up Y a b) := ⟨hT6.out, Z4, hR6.out, hS.out.trans (hS6.out.wide q1 q3), SO.left_done (SO.left_sw hLf.out hS6.out q1 q3) (hU6 rfl)⟩
              clear hU6
              go_wp2_with fail
              refine bodyPost_ret (results_none rfl _ _ _) rfl ?_
              exact ⟨rfl, hfin.out⟩
            | false =>
              clear hU6
              go_wp2_with fail
              go_meet
              exact ⟨Z4, hR6, hS6, hT6⟩
          | false =>
            go_wp2_with fail
            go_meet
            exact ⟨Z2, hR, hS23, hT⟩
        case rest =>
        clear hR hT hS2 hS3 hS23 cI
        obtain ⟨Z4, hR, hS4, hT⟩ := hcut
        have hB4 := W_hid (SO.bel_sw hB.out hS4.out)
        have hS5 := W_hid (hS.out.trans (hS4.out.wide q1 q3))
        have hI5 := W_hid (hS5.out.inj hb hInj.out)
        have hLf5 := W_hid (SO.left_sw hLf.out hS4.out q1 q3)
        clear hLf hB hS hS4
        go_upto_region 17 with fail
        go_cut [87] from 19 to 133 (fun v wx => v = .bool false ∧ Hid (RW wx g N Z4 rest) ∧ Hid (Two g g w wx))
        case first =>
          rename_i J1 K1 hJ1 hK1
          by_cases ha0 : a1 = 0
          · subst ha0
            go_quiet (fail)
            refine hK1 _ _ (Met.intro (hJ1 _ _ ?_))
            repeat apply Exists.intro
            exact ⟨⟨rfl, W_hid (hR.out.drewN nq), W_hid (hT.out.drew nq)⟩, rfl⟩
          · obtain ⟨a0, ha⟩ : ∃ a0, a1 = a0 + 1 := ⟨a1 - 1, by omega⟩
            have ea : (a1 : Int) - 1 = (a0 : Int) := by omega
            have hpos : 0 < a1 := by omega
            have hb0 : a0 < N ∧ p < N := by omega
            have da := hR.out.cell a0 hb0.1
            have dp := hR.out.cell p hb0.2
            obtain ⟨va, hva⟩ : ∃ v, Z4 a0 = v := ⟨_, rfl⟩
            obtain ⟨vp, hvp⟩ : ∃ v, Z4 p = v := ⟨_, rfl⟩
            have hless : va < vp := by
              rcases hB4.out with h0 | h0
              · omega
              · have h1 := h0 p hp1 hp2
                rw [show a1 - 1 = a0 by omega, hva, hvp] at h1
                rcases Nat.lt_or_ge va vp with hh | hh
                · exact hh
                · have h2 := hI5.out a0 p hb0.1 hb0.2 (by rw [hva, hvp]; omega)
                  omega
            rw [hva] at da
            rw [hvp] at dp
            have hL := W_hid (fun t => Calls.quiet_of_same (Less_any va vp (wc.drewN t)))
            rw [show decide (va < vp) = true by simp [hless]] at hL
            replace ha := W_hid ha
            replace hva := W_hid hva
            replace hvp := W_hid hvp
            replace hless := W_hid hless
            go_quiet ((go_at_call 123; exact hL.out _))
            refine hK1 _ _ (Met.intro (hJ1 _ _ ?_))
            repeat apply Exists.intro
            exact ⟨⟨rfl, W_hid (hR.out.drewN nq), W_hid (hT.out.drew nq)⟩, rfl⟩
        case rest =>
        clear hR hT
        obtain ⟨rfl, hR, hT⟩ := hcut
        have cP := W_hid (partition_any g N cap rest a1 b1 p Z4 wc hR.out hp1 hp2 hb1N hN' hcap)
        go_wp2_with fail
        refine cP.out.mono ?_
        rintro e w7 ⟨m, t3, rfl, hm1, hm2, hT7, Z5, hR7, hS7, hP7⟩
        replace hT7 := W_hid (hT.out.trans hT7)
        have hB7 := W_hid (SO.bel_sw hB4.out hS7)
        have hS8 := W_hid (hS5.out.trans (hS7.wide q1 q3))
        have hI8 := W_hid (hS8.out.inj hb hInj.out)
        have hLf8 := W_hid (SO.left_sw hLf5.out hS7 q1 q3)
        replace hR7 := W_hid hR7
        replace hP7 := W_hid hP7
        obtain ⟨l1, hl1⟩ : ∃ l, m - a1 = l := ⟨_, rfl⟩
        obtain ⟨l2, hl2⟩ : ∃ l, b1 - m = l := ⟨_, rfl⟩
        obtain ⟨th, hth⟩ : ∃ t, n / 8 = t := ⟨_, rfl⟩
        have f1 : (m : Int) - (a1 : Int) = (l1 : Int) := by omega
        have f2 : (b1 : Int) - (m : Int) = (l2 : Int) := by omega
        have f3 : (n : Int).tdiv 8 = (th : Int) := by rw [← hth]; rfl
        have hlb : l1 ≤ 65536 ∧ l2 ≤ 65536 ∧ th ≤ 65536 := by omega
        obtain ⟨m1, hm1e⟩ : ∃ x, m + 1 = x := ⟨_, rfl⟩
        have f4 : (m : Int) + 1 = (m1 : Int) := by omega
        have hLL : Hid (l1 < L ∧ b1 - m1 < L ∧ m1 ≤ b1) := by
          have := hL.out
          show _ ∧ _ ∧ _
          omega
        have cL := W_hid (hIH.out l1 hLL.out.1 a1 m k2 Z5 w7 hl1 hm1 (by omega) qk2 hR7.out (SO.bel_left hB7.out (by omega)) hI8.out (hXs.out Z5 hS8.out))
        have cU := W_hid (hIH.out (b1 - m1) hLL.out.2.1 m1 b1 k2 Z5 w7 rfl hLL.out.2.2 hb1N qk2 hR7.out (by rw [← hm1e]; exact SO.bel_right hP7.out) hI8.out (hXs.out Z5 hS8.out))
        replace hl1 := W_hid hl1
        replace hl2 := W_hid hl2
        replace hth := W_hid hth
        clear cP hR hT hS7 hB4 hI5 hLf5 hS5
        by_cases hll : l1 < l2
        · clear cU
          go_wp2_with fail
          refine cL.out.mono ?_
          rintro e w8 ⟨rfl, hT8, Z6, hR8, hS9, hU9⟩
          have hP9 := SO.parted_left hP7.out hS9 hm2
          have hS9w := hS9.wide (a' := a1) (b' := b1) (Nat.le_refl _) (by omega)
          have hfin : Hid (RW w8 g N Z6 rest ∧ SO.Sw a b X Z6 ∧ SO.Bel Z6 m1 b1 ∧ SO.Left Z6 a b m1 b1 ∧ Two g g w w8) := by
            rw [← hm1e]
            exact ⟨hR8, hS8.out.trans (hS9.wide q1 (by omega)), SO.bel_right hP9, SO.left_lower (SO.left_sw hLf8.out hS9w q1 q3) hP9 hm1 hm2 hU9, hT7.out.trans hT8⟩
          have hmb : Hid (a ≤ m1 ∧ m1 ≤ b1 ∧ b1 - m1 < b1 - a1) := by show _ ∧ _ ∧ _; omega
          replace hm1e := W_hid hm1e
          clear hT8 hR8 hS9 hU9 hP9 hS9w cL
          go_wp2_with fail
          go_roundw
          case rel => exact ⟨m1, b1, k2, _, t3, Z6, rfl, rfl, rfl, rfl, rfl, hmb.out.1, hmb.out.2.1, q3, qk2, W_hid hfin.out.1, W_hid hfin.out.2.1, W_hid hfin.out.2.2.1, W_hid hfin.out.2.2.2.1, W_hid hfin.out.2.2.2.2⟩
          case measure => (have := hmb.out.2.2); first | (simp [intOf]; omega) | simp [intOf]
        · clear cL
          go_wp2_with fail
          refine cU.out.mono ?_
          rintro e w8 ⟨rfl, hT8, Z6, hR8, hS9, hU9⟩
          have hfin : Hid (RW w8 g N Z6 rest ∧ SO.Sw a b X Z6 ∧ SO.Bel Z6 a1 m ∧ SO.Left Z6 a b a1 m ∧ Two g g w w8) := by
            rw [← hm1e] at hS9 hU9
            have hP9 := SO.parted_right hP7.out hS9
            have hS9w := hS9.wide (a' := a1) (b' := b1) (by omega) (Nat.le_refl _)
            exact ⟨hR8, hS8.out.trans (hS9.wide (by omega) q3), SO.bel_left (SO.bel_sw hB7.out hS9w) (by omega), SO.left_upper (SO.left_sw hLf8.out hS9w q1 q3) hP9 hm1 hm2 hU9, hT7.out.trans hT8⟩
          have hmb : Hid (m ≤ b ∧ m - a1 < b1 - a1) := by show _ ∧ _; omega
          replace hm1e := W_hid hm1e
          clear hT8 hR8 hS9 hU9 cU
          go_wp2_with fail
          go_roundw
          case rel => exact ⟨a1, m, k2, _, t3, Z6, rfl, rfl, rfl, rfl, rfl, q1, hm1, hmb.out.1, qk2, W_hid hfin.out.1, W_hid hfin.out.2.1, W_hid hfin.out.2.2.1, W_hid hfin.out.2.2.2.1, W_hid hfin.out.2.2.2.2⟩
          case measure => (have := hmb.out.2); first | (simp [intOf]; omega) | simp [intOf]

theorem pdq_all (g N cap : Nat) (rest : List Value) (hN : N < 65536) (hcap : N ≤ cap) (L : Nat) : PdqAt g N cap rest L := by
  induction L using Nat.strongRecOn with
  | ind L ih => exact pdq_step g N cap rest hN hcap L ih

set_option maxRecDepth 100000 in
set_option maxHeartbeats 4000000 in
/-- slices.Sort of a row in which no number stands twice. -/
theorem Sort_all (g N cap : Nat) (rest : List Value) (X : Nat → Nat) (w : World) (h : RW w g N X rest) (hN : N < 65536) (hcap : N ≤ cap) (hX : ∀ i, i < N → X i < 9223372036854775808) (hI : SO.Inj X N) :
    Calls Tryz.prog 86 #[.slice (some ⟨g, 0, none⟩) N cap] w fun e w' => e = .returned (.tuple #[]) ∧ Two g g w w' ∧ ∃ Y, RW w' g N Y rest ∧ SO.Sw 0 N X Y ∧ SO.Up Y 0 N := by
  have cL := Len_any (N : Int) w (by omega) (by omega)
  have cP := W_hid (fun (k : Nat) hk => pdq_all g N cap rest hN hcap N 0 N k X w (by omega) (Nat.zero_le _) (Nat.le_refl _) hk h (.inl rfl) hI hX)
  clear h
  go_enter Tryz.func86, Tryz.ntmps86
  go_wp2_with (first
    | (go_at_call 107; refine cL.mono ?_; rintro e w' ⟨⟨k, rfl, hk⟩, rfl⟩)
    | (go_at_call 106; refine (cP.out _ (by omega)).mono ?_; rintro e w' ⟨rfl, hT, Y, hR, hS, hU⟩))
  go_end0
  exact ⟨rfl, hT, Y, hR, hS, hU⟩
end IS
end Go.Proofs.YtbloiilinofklaaGreat

namespace Go.Proofs.YtbloiilinofklaaGreat
open Go.ChangeShapes Go.WideShapes Go.ChangeAt Go.RowKit
set_option linter.unusedVariables false
set_option linter.unusedSimpArgs false
namespace IS

set_option maxRecDepth 100000 in
set_option maxHeartbeats 4000000 in
/-- slices.Sorted of what Keys handed back. -/
theorem Sorted_all (Bm b : Nat) (M : Int → Option Nat) (w : World) (hBm : Bm < w.heap.size) (hb : b < w.heap.size) (hm : w.cell? ⟨Bm, 0, none⟩ = some (.map (some b))) (hMB : MB w b M)
    (hsm : ∀ ss, Nums M ss → ss.length < 65536) (hne : ∃ f : Nat, M f ≠ none) :
    Calls Tryz.prog 44 #[.func (.func 87) #[] #[.pointer (some ⟨Bm, 0, none⟩)]] w fun e w' => ∃ (v : Value) (l : List Nat), e = .returned v ∧ Nums M l ∧ l.Pairwise (· ≤ ·) ∧ Nlist w.heap.size w' v l ∧ Below w.heap.size w w' := by
  have cC := Collect_any Bm b M w hBm hb hm hMB
  have hlt := fun ss (h : Nums M ss) => h.lt hMB
  clear hm
  go_enter Tryz.func44, Tryz.ntmps44
  go_wp2_with (go_at_call 85; refine cC.mono ?_; rintro e w1 ⟨v, ss, rfl, hN, hown, hnil, hB⟩)
  have hne0 : ss ≠ [] := by
    obtain ⟨f, hf⟩ := hne
    intro e
    have := (hN.2 f).2 hf
    rw [e] at this
    cases this
  rcases hown.2 with ⟨h0, -⟩ | ⟨g, cap, cur, rfl, hbase, hg, h1, h2, h3, h4⟩
  · exact absurd (hnil.1 h0) hne0
  have hrw : RW w1 g ss.length (fun i => ss.getD i 0) (cur.toList.drop ss.length) := by
    refine ⟨?_⟩
    unfold Blk
    rw [hg, lst_of]
    have e : ss.map nk ++ cur.toList.drop ss.length = cur.toList := by
      rw [Nat.mul_one] at h4
      rw [← h4, List.take_append_drop]
    rw [e]
  have cS := W_hid (Sort_all g ss.length cap _ _ w1 hrw (hsm ss hN) (by omega) (fun i hi => by
    have := hlt ss hN (ss.getD i 0) (by rw [List.getD, List.getElem?_eq_getElem hi]; exact List.getElem_mem _)
    omega) (SO.inj_of_nodup _ _ (by rw [lst_of]; exact hN.1)))
  clear hrw h4 h3 hg
  go_wp2_with (go_at_call 86; refine cS.out.mono ?_; rintro e w2 ⟨rfl, hT, Y, hR, hS, hU⟩)
  go_ret
  refine ⟨_, SO.lst Y ss.length, rfl, ⟨?_, fun f => ?_⟩, up_pairwise hU, ⟨⟨g, cap, _, by rw [SO.lst_len]; rfl, hbase, by rw [SO.lst_len]; exact h1, hR.blk⟩⟩, hB.trans (hT.below hB.size hbase hbase)⟩
  · refine SO.lst_nodup _ _ (hS.inj (Nat.le_refl _) (SO.inj_of_nodup _ _ ?_))
    rw [lst_of]; exact hN.1
  · rw [hS.mem (Nat.le_refl _), lst_of, hN.2 f]


end IS
end Go.Proofs.YtbloiilinofklaaGreat

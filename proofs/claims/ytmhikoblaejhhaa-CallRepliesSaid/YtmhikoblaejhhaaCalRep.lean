/- EncodeReply and DecodeReply, the program's and the document's. -/
import Derived.Test.YtmhikoblaejhhaaCalAll
namespace Go.Proofs.Ytmhikoblaejhhaa
open Go.ChangeShapes Go.WideShapes Go.ChangeAt Go.RowKit Go.Maps
set_option linter.unusedVariables false
set_option linter.unusedSimpArgs false
set_option maxRecDepth 100000
namespace CA
def rv (c n : Int) (s : ByteArray) : List Value := [.int .i64 c, .int .i64 n, .string s]
def zr : List Value := rv 0 0 ByteArray.empty
def rfit (c : Int) (s : ByteArray) : Bool := decide (0 ≤ c ∧ s.size ≤ 1048576)
def rbody (c n : Int) (s : ByteArray) : List UInt8 := le 8 (un c) ++ (le 8 (un n) ++ (le 4 s.size ++ s.data.toList))
def repS (c n : Int) (s : ByteArray) : ByteArray := if rfit c s = true then strOf (rbody c n s) else ByteArray.empty
def repE (c : Int) (s : ByteArray) : Int := if rfit c s = true then 0 else 2
theorem conv_err (z : Int) (w : World) : (convert 29 49 (.int .i64 z)).run Try.prog w = .ok (.int .u64 ((un z : Nat) : Int)) w := by
  have h : (convert 29 49 (.int .i64 z)).run Try.prog w = .ok (.int .u64 (IntKind.u64.wrap z)) w := by simp [go_sem]
  rw [h, un_wrap]
theorem res_rep {fn : Func} {r t : Tmp} (hres : fn.results = #[.cell r 37, .tmp t]) (tmps : Array Value) (w : World) {g : Nat} {a b c : Value} (hr : tmps.getD r undef = .pointer (some ⟨g, 0, none⟩)) (hp : Blk w g 37 [a, b, c]) :
    (results fn tmps).run Try.prog w = .ok (.tuple #[.agg #[a, b, c], tmps.getD t undef]) w := by
  have c0 := hp.cell (j := 0) rfl
  have c1 := hp.cell (j := 1) rfl
  have c2 := hp.cell (j := 2) rfl
  rw [Array.getD_eq_getD_getElem?] at hr
  simp [results, hres, go_sem, hr, c0, c1, c2]
def three_set (w : World) (r : Nat) (a b c : Value) : World := ((w.setCell ⟨r, 0, none⟩ a).setCell ⟨r, 1, none⟩ b).setCell ⟨r, 2, none⟩ c
theorem three_blk {w : World} {r : Nat} {t : TypeId} {x0 x1 x2 : Value} (h : Blk w r t [x0, x1, x2]) (a b c : Value) : Blk (three_set w r a b c) r t [a, b, c] := ((h.set 0 a).set 1 b).set 2 c
theorem three_below {w0 w : World} {r B : Nat} (h : Below B w0 w) (hr : B ≤ r) (a b c : Value) : Below B w0 (three_set w r a b c) :=
  ((h.setCell (p := ⟨r, 0, none⟩) hr _).setCell (p := ⟨r, 1, none⟩) hr _).setCell (p := ⟨r, 2, none⟩) hr _

set_option maxRecDepth 100000 in
set_option maxHeartbeats 4000000 in
theorem ERep_any (c n : Int) (s : ByteArray) (hs : s.size ≤ maxLen) (w : World) :
    Calls Try.prog 15 #[.agg (rv c n s).toArray] w fun e w' => e = .returned (.tuple #[.string (repS c n s), .int .i64 (repE c s)]) ∧ Below w.heap.size w w' := by
  have bb : Below w.heap.size w (w.alloc (.cells (rv c n s).toArray 37)) := (Below.refl _ _).alloc (Nat.le_refl _) _
  have hB : Blk (w.alloc (.cells (rv c n s).toArray 37)) w.heap.size 37 (rv c n s) := Blk.new w _ _ rfl
  have hss : s.size ≤ 9223372036854775807 := by unfold maxLen at hs; exact hs
  unfold rv at *
  by_cases hc : c < 0
  · have hA : Hid (repS c n s = ByteArray.empty ∧ repE c s = 2) := by
      have hf : rfit c s = false := by unfold rfit; exact decide_eq_false (by omega)
      refine W_hid ⟨?_, ?_⟩
      · unfold repS; rw [hf]; rfl
      · unfold repE; rw [hf]; rfl
    replace bb := W_hid bb
    go_enter Try.func15, Try.ntmps15
    go_wp2_with fail
    go_ret2
    exact ⟨by rw [hA.out.1, hA.out.2]; rfl, bb.out⟩
  have ce := conv_err c
  have cn := conv_u64' n
  have hNum : ∀ (W : World) (g2 : Nat), OB W g2 8 (le 8 (un c)) → Calls Try.prog 20 #[.slice (some ⟨g2, 0, none⟩) 8 8, .int .u64 ((un n : Nat) : Int)] W fun e w' => ∃ g', e = .returned (.slice (some ⟨g', 0, none⟩) 16 16) ∧ OB w' g' 16 (le 8 (un c) ++ le 8 (un n)) ∧ W.heap.size ≤ g' ∧ Below W.heap.size W w' :=
    fun W g2 h => Num_next h (un n) (un_lt n) (by decide) 16 rfl
  replace hNum := W_hid hNum
  by_cases hb : 1048576 < s.size
  · have hA : Hid (repS c n s = ByteArray.empty ∧ repE c s = 2) := by
      have hf : rfit c s = false := by unfold rfit; exact decide_eq_false (by omega)
      refine W_hid ⟨?_, ?_⟩
      · unfold repS; rw [hf]; rfl
      · unfold repE; rw [hf]; rfl
    have hTxt : ∀ (W : World) (g3 : Nat), OB W g3 16 (le 8 (un c) ++ le 8 (un n)) → Calls Try.prog 21 #[.slice (some ⟨g3, 0, none⟩) 16 16, .string s] W fun e w' => e = .returned (.tuple #[.slice none 0 0, .int .i64 2]) ∧ Below W.heap.size W w' :=
      fun W g3 h => Txt_no h s hb hs
    replace hTxt := W_hid hTxt
    go_enter Try.func15, Try.ntmps15
    go_wp2_with fail
    refine (Num_first _ (un_lt c) _).mono ?_
    rintro e w2 ⟨g2, rfl, hO, bel2⟩
    replace hB := hB.keep bel2
    have b2 := bb.trans (bel2.mono bb.size)
    have hK : ∀ W, Below w2.heap.size w2 W → W.cell? ⟨w.heap.size, 1, none⟩ = some (.int .i64 n) ∧ W.cell? ⟨w.heap.size, 2, none⟩ = some (.string s) ∧ Below w2.heap.size w2 W := fun W b => ⟨(hB.keep b).cell (j := 1) rfl, (hB.keep b).cell (j := 2) rfl, b⟩
    have hk2 := hK w2 (Below.refl _ _)
    have c1 := hk2.1
    have c2 := hk2.2.1
    clear hk2
    replace hK := W_hid hK
    replace b2 := W_hid b2
    clear bb bel2 hB
    go_wp2_with fail
    have hN2 : ∀ W, Below w2.heap.size w2 W → Calls Try.prog 20 #[.slice (some ⟨g2, 0, none⟩) 8 8, .int .u64 ((un n : Nat) : Int)] W fun e w' => ∃ g', e = .returned (.slice (some ⟨g', 0, none⟩) 16 16) ∧ OB w' g' 16 (le 8 (un c) ++ le 8 (un n)) ∧ Below w2.heap.size w2 w' := fun W hW => by
      refine (hNum.out W g2 (hO.keep hW)).mono ?_
      rintro e w' ⟨g', rfl, ho, -, hb'⟩
      exact ⟨g', rfl, ho, hW.trans (hb'.mono hW.size)⟩
    have hT2 : ∀ W g3, Below w2.heap.size w2 W → OB W g3 16 (le 8 (un c) ++ le 8 (un n)) → Calls Try.prog 21 #[.slice (some ⟨g3, 0, none⟩) 16 16, .string s] W fun e w' => e = .returned (.tuple #[.slice none 0 0, .int .i64 2]) ∧ Below w2.heap.size w2 w' := fun W g3 hW ho => by
      refine (hTxt.out W g3 ho).mono ?_
      rintro e w' ⟨rfl, hb'⟩
      exact ⟨rfl, hW.trans (hb'.mono hW.size)⟩
    replace hN2 := W_hid hN2
    replace hT2 := W_hid hT2
    go_region_held3 (fun w' => w'.cell? ⟨w.heap.size, 1, none⟩ = some (.int .i64 n) ∧ w'.cell? ⟨w.heap.size, 2, none⟩ = some (.string s) ∧ Below w2.heap.size w2 w') (first | exact hK.out _ (Below.refl _ _) | exact hK.out _ (Below.refl _ _).drew | exact hK.out _ (by assumption) | go_keep)
      (first
        | (go_at_call 20; refine (hN2.out _ (by first | assumption | exact (Below.refl _ _).drew | exact Below.refl _ _)).mono ?_; rintro e w3 ⟨g3, rfl, hO3, bel3⟩)
        | (go_at_call 21; refine (hT2.out _ g3 bel3 hO3).mono ?_; rintro e w4 ⟨rfl, bel4⟩))
    go_wp2_with fail
    go_ret2
    exact ⟨by rw [hA.out.1, hA.out.2]; rfl, b2.out.trans (bel4.mono b2.out.size)⟩
  have hA : Hid (repS c n s = strOf (rbody c n s) ∧ repE c s = 0) := by
    have hf : rfit c s = true := by unfold rfit; exact decide_eq_true (by omega)
    refine W_hid ⟨?_, ?_⟩
    · unfold repS; rw [hf]; rfl
    · unfold repE; rw [hf]; rfl
  obtain ⟨N, hN⟩ : ∃ N, N = 16 + (4 + s.size) := ⟨_, rfl⟩
  have hTxt : ∀ (W : World) (g3 : Nat), OB W g3 16 (le 8 (un c) ++ le 8 (un n)) → Calls Try.prog 21 #[.slice (some ⟨g3, 0, none⟩) 16 16, .string s] W fun e w' => ∃ g', e = .returned (.tuple #[.slice (some ⟨g', 0, none⟩) N N, .int .i64 0]) ∧ OB w' g' N (rbody c n s) ∧ W.heap.size ≤ g' ∧ Below W.heap.size W w' :=
    fun W g3 h => by
      refine (Txt_yes h s (by omega) (by omega) N hN).mono ?_
      rintro e w' ⟨g', rfl, ho, hg, hb'⟩
      exact ⟨g', rfl, by unfold rbody; rw [← List.append_assoc]; exact ho, hg, hb'⟩
  clear hN
  replace hTxt := W_hid hTxt
  go_enter Try.func15, Try.ntmps15
  go_wp2_with fail
  refine (Num_first _ (un_lt c) _).mono ?_
  rintro e w2 ⟨g2, rfl, hO, bel2⟩
  replace hB := hB.keep bel2
  have b2 := bb.trans (bel2.mono bb.size)
  have hK : ∀ W, Below w2.heap.size w2 W → W.cell? ⟨w.heap.size, 1, none⟩ = some (.int .i64 n) ∧ W.cell? ⟨w.heap.size, 2, none⟩ = some (.string s) ∧ Below w2.heap.size w2 W := fun W b => ⟨(hB.keep b).cell (j := 1) rfl, (hB.keep b).cell (j := 2) rfl, b⟩
  have hk2 := hK w2 (Below.refl _ _)
  have c1 := hk2.1
  have c2 := hk2.2.1
  clear hk2
  replace hK := W_hid hK
  replace b2 := W_hid b2
  clear bb bel2 hB
  go_wp2_with fail
  have hN2 : ∀ W, Below w2.heap.size w2 W → Calls Try.prog 20 #[.slice (some ⟨g2, 0, none⟩) 8 8, .int .u64 ((un n : Nat) : Int)] W fun e w' => ∃ g', e = .returned (.slice (some ⟨g', 0, none⟩) 16 16) ∧ OB w' g' 16 (le 8 (un c) ++ le 8 (un n)) ∧ Below w2.heap.size w2 w' := fun W hW => by
    refine (hNum.out W g2 (hO.keep hW)).mono ?_
    rintro e w' ⟨g', rfl, ho, -, hb'⟩
    exact ⟨g', rfl, ho, hW.trans (hb'.mono hW.size)⟩
  have hT2 : ∀ W g3, Below w2.heap.size w2 W → OB W g3 16 (le 8 (un c) ++ le 8 (un n)) → Calls Try.prog 21 #[.slice (some ⟨g3, 0, none⟩) 16 16, .string s] W fun e w' => ∃ g', e = .returned (.tuple #[.slice (some ⟨g', 0, none⟩) N N, .int .i64 0]) ∧ OB w' g' N (rbody c n s) ∧ Below w2.heap.size w2 w' := fun W g3 hW ho => by
    refine (hTxt.out W g3 ho).mono ?_
    rintro e w' ⟨g', rfl, ho', -, hb'⟩
    exact ⟨g', rfl, ho', hW.trans (hb'.mono hW.size)⟩
  replace hN2 := W_hid hN2
  replace hT2 := W_hid hT2
  go_region_held3 (fun w' => w'.cell? ⟨w.heap.size, 1, none⟩ = some (.int .i64 n) ∧ w'.cell? ⟨w.heap.size, 2, none⟩ = some (.string s) ∧ Below w2.heap.size w2 w') (first | exact hK.out _ (Below.refl _ _) | exact hK.out _ (Below.refl _ _).drew | exact hK.out _ (by assumption) | go_keep)
    (first
      | (go_at_call 20; refine (hN2.out _ (by first | assumption | exact (Below.refl _ _).drew | exact Below.refl _ _)).mono ?_; rintro e w3 ⟨g3, rfl, hO3, bel3⟩)
      | (go_at_call 21; refine (hT2.out _ g3 bel3 hO3).mono ?_; rintro e w4 ⟨g4, rfl, hO4, bel4⟩))
  have hcv := conv_str hO4
  go_wp2_with fail
  go_ret2
  exact ⟨by rw [hA.out.1, hA.out.2]; rfl, b2.out.trans (bel4.mono b2.out.size)⟩

set_option maxRecDepth 100000 in
set_option maxHeartbeats 4000000 in
theorem rERep_any (c n : Int) (s : ByteArray) (hs : s.size ≤ maxLen) (w : World) :
    Calls Try.prog 16 #[.agg (rv c n s).toArray] w fun e w' => e = .returned (.tuple #[.string (repS c n s), .int .i64 (repE c s)]) ∧ Below w.heap.size w w' := by
  have bb : Below w.heap.size w (w.alloc (.cells (rv c n s).toArray 37)) := (Below.refl _ _).alloc (Nat.le_refl _) _
  have hB : Blk (w.alloc (.cells (rv c n s).toArray 37)) w.heap.size 37 (rv c n s) := Blk.new w _ _ rfl
  have hss : s.size ≤ 9223372036854775807 := by unfold maxLen at hs; exact hs
  unfold rv at *
  by_cases hc : c < 0
  · have hA : Hid (repS c n s = ByteArray.empty ∧ repE c s = 2) := by
      have hf : rfit c s = false := by unfold rfit; exact decide_eq_false (by omega)
      refine W_hid ⟨?_, ?_⟩
      · unfold repS; rw [hf]; rfl
      · unfold repE; rw [hf]; rfl
    replace bb := W_hid bb
    go_enter Try.func16, Try.ntmps16
    go_wp2_with fail
    go_ret2
    exact ⟨by rw [hA.out.1, hA.out.2]; rfl, bb.out⟩
  by_cases hb : 1048576 < s.size
  · have hA : Hid (repS c n s = ByteArray.empty ∧ repE c s = 2) := by
      have hf : rfit c s = false := by unfold rfit; exact decide_eq_false (by omega)
      refine W_hid ⟨?_, ?_⟩
      · unfold repS; rw [hf]; rfl
      · unfold repE; rw [hf]; rfl
    replace bb := W_hid bb
    go_enter Try.func16, Try.ntmps16
    go_wp2_with fail
    go_ret2
    exact ⟨by rw [hA.out.1, hA.out.2]; rfl, bb.out⟩
  have hA : Hid (repS c n s = strOf (rbody c n s) ∧ repE c s = 0) := by
    have hf : rfit c s = true := by unfold rfit; exact decide_eq_true (by omega)
    refine W_hid ⟨?_, ?_⟩
    · unfold repS; rw [hf]; rfl
    · unfold repE; rw [hf]; rfl
  have ce := conv_err c
  have cn := conv_u64' n
  obtain ⟨W0, hW0⟩ : ∃ W0, w.alloc (.cells #[.int .i64 c, .int .i64 n, .string s] 37) = W0 := ⟨_, rfl⟩
  have hB0 : Blk W0 w.heap.size 37 [.int .i64 c, .int .i64 n, .string s] := by rw [← hW0]; exact hB
  have b0 : Below w.heap.size w W0 := by rw [← hW0]; exact bb
  have hK : ∀ W, Below W0.heap.size W0 W → W.cell? ⟨w.heap.size, 0, none⟩ = some (.int .i64 c) ∧ W.cell? ⟨w.heap.size, 1, none⟩ = some (.int .i64 n) ∧ Below W0.heap.size W0 W := fun W b => ⟨(hB0.keep b).cell (j := 0) rfl, (hB0.keep b).cell (j := 1) rfl, b⟩
  have c0 := (hK W0 (Below.refl _ _)).1
  have c1 := (hK W0 (Below.refl _ _)).2.1
  have c2 := hB0.cell (j := 2) rfl
  have hN1 : ∀ W, Below W0.heap.size W0 W → Calls Try.prog 23 #[.slice none 0 0, .int .u64 ((un c : Nat) : Int)] W fun e w' => ∃ g', e = .returned (.slice (some ⟨g', 0, none⟩) 8 8) ∧ OC w' g' 8 8 (le 8 (un c)) ∧ Below W0.heap.size W0 w' := fun W hW => by
    refine (rNum_first (un c) (un_lt c) W).mono ?_
    rintro e w' ⟨g', rfl, ho, -, hb'⟩
    exact ⟨g', rfl, ho, hW.trans (hb'.mono hW.size)⟩
  have hN2 : ∀ W g1, Below W0.heap.size W0 W → OC W g1 8 8 (le 8 (un c)) → Calls Try.prog 23 #[.slice (some ⟨g1, 0, none⟩) 8 8, .int .u64 ((un n : Nat) : Int)] W fun e w' => ∃ g', e = .returned (.slice (some ⟨g', 0, none⟩) 16 16) ∧ OC w' g' 16 16 (le 8 (un c) ++ le 8 (un n)) ∧ Below W0.heap.size W0 w' := fun W g1 hW ho => by
    refine (rNum_next ho (un n) (un_lt n) (by decide) 16 rfl).mono ?_
    rintro e w' ⟨g', rfl, ho', -, hb'⟩
    exact ⟨g', rfl, ho', hW.trans (hb'.mono hW.size)⟩
  replace hK := W_hid hK
  replace hN1 := W_hid hN1
  replace hN2 := W_hid hN2
  replace hB0 := W_hid hB0
  replace b0 := W_hid b0
  clear bb hB
  replace hW0 := W_hid hW0
  go_enter Try.func16, Try.ntmps16
  go_wp2_with fail
  rw [hW0.out]
  go_region_held3 (fun w' => w'.cell? ⟨w.heap.size, 0, none⟩ = some (.int .i64 c) ∧ w'.cell? ⟨w.heap.size, 1, none⟩ = some (.int .i64 n) ∧ Below W0.heap.size W0 w') (first | exact hK.out _ (Below.refl _ _) | exact hK.out _ (Below.refl _ _).drew | exact hK.out _ (by assumption) | go_keep)
    (first
      | (go_at_call 23; refine (hN1.out _ (by first | assumption | exact (Below.refl _ _).drew | exact Below.refl _ _)).mono ?_; rintro e w3 ⟨g3, rfl, hO3, bel3⟩)
      | (go_at_call 23; refine (hN2.out _ g3 bel3 hO3).mono ?_; rintro e w4 ⟨g4, rfl, hO4, bel4⟩))
  have c2' := (hB0.out.keep bel4).cell (j := 2) rfl
  go_wp2_with fail
  refine (rTxt_yes hO4 s (by omega) (by decide) _ rfl).mono ?_
  rintro e w5 ⟨g5, cc, rfl, hO5, -, bel5⟩
  have hcv := conv_strC hO5
  go_wp2_with fail
  go_ret2
  have bx : Below w.heap.size w w4 := b0.out.trans (bel4.mono b0.out.size)
  exact ⟨by rw [hA.out.1, hA.out.2]; unfold rbody; simp only [List.append_assoc]; rfl, bx.trans (bel5.mono bx.size)⟩

/-- '[]byte(s)', of a length that has a letter. -/
theorem wpList_bytes_n {w : World} {ops : Array Oper} {rest : List Oper} {o : Oper} {a : Act} {Q : Exit → Act → World → Prop} (hg : o.guard = none) (x : Operand) (hop : o.op = Op.convert 9 50 x)
    (s : ByteArray) (n : Nat) (hn : Hid (s.size = n)) (hx : a.eval x = .string s) (hs : n ≤ maxLen)
    (hK : ∀ w' g c, BS w' (some ⟨g, 0, none⟩) n c s.data.toList → Below w.heap.size w w' → w.heap.size ≤ g → g < w'.heap.size → wpList Try.prog ops Q rest (a.put o.dst (.slice (some ⟨g, 0, none⟩) n c)) w') :
    wpList Try.prog ops Q (o :: rest) a w := by
  have hn2 : s.size = n := hn.out
  subst hn2
  exact wpList_bytes hg x hop s hx hs hK
/-- What DecodeReply answers. -/
def dok (l : List UInt8) : Bool := nok l 0 && (nok l (nat_ l 0) && (tok l (nat_ l (nat_ l 0)) 1048576 && (decide (tat l (nat_ l (nat_ l 0)) 1048576 = l.length) && decide (nvl l 0 < 2147483648))))
def drQ (s : ByteArray) : Int × List Value :=
  if dok s.data.toList = true then (0, rv (nvl s.data.toList 0) (si (nvl s.data.toList (nat_ s.data.toList 0))) (tvl s.data.toList (nat_ s.data.toList (nat_ s.data.toList 0)) 1048576)) else (2, zr)

set_option maxRecDepth 100000 in
set_option maxHeartbeats 4000000 in
theorem rDRep_any (s : ByteArray) (hs : s.size ≤ maxLen) (w : World) :
    Calls Try.prog 18 #[.string s] w fun e w' => e = .returned (.tuple #[.agg (drQ s).2.toArray, .int .i64 (drQ s).1]) ∧ Below w.heap.size w w' := by
  have hlen : s.data.toList.length = s.size := by rw [Array.length_toList]; rfl
  obtain ⟨n, hn⟩ : ∃ n, s.size = n := ⟨_, rfl⟩
  rw [hn] at hlen hs
  have hss : n ≤ 9223372036854775807 := by unfold maxLen at hs; exact hs
  replace hn := W_hid hn
  obtain ⟨l, hl⟩ : ∃ l, s.data.toList = l := ⟨_, rfl⟩
  have hR : drQ s = if dok l = true then (0, rv (nvl l 0) (si (nvl l (nat_ l 0))) (tvl l (nat_ l (nat_ l 0)) 1048576)) else (2, zr) := by unfold drQ; rw [hl]
  rw [hl] at hlen
  have hc1 := conv_i64 (nvl l (nat_ l 0)) (nvl_lt _ _)
  have v0 := nvl_lt l 0
  have x1 := nat_le hlen 0
  have x2 := nat_le hlen (nat_ l 0)
  unfold dok at hR
  rw [hlen] at hR
  generalize hT : tvl l (nat_ l (nat_ l 0)) 1048576 = T at hR
  generalize hX : tat l (nat_ l (nat_ l 0)) 1048576 = X at hR
  generalize hQ : tok l (nat_ l (nat_ l 0)) 1048576 = q2 at hR
  generalize hQ1 : nok l (nat_ l 0) = q1 at hR
  generalize hQ0 : nok l 0 = q0 at hR
  generalize hV1 : nvl l (nat_ l 0) = V1 at hR hc1
  generalize hV0 : nvl l 0 = V0 at hR v0
  have hN1 : ∀ (W : World) (g c : Nat), BS W (some ⟨g, 0, none⟩) n c l → Calls Try.prog 28 #[.slice (some ⟨g, 0, none⟩) n c, .int .i64 0] W fun e w' => e = .returned (.tuple #[.int .u64 (V0 : Int), .int .i64 ((nat_ l 0 : Nat) : Int), .int .i64 (if q0 = true then 0 else 100)]) ∧ Below W.heap.size W w' := fun W g c h => by
    have := rTakeN_any _ _ c l 0 W h (Nat.zero_le _)
    rwa [hV0, hQ0] at this
  have hN2 : ∀ (W : World) (g c : Nat), BS W (some ⟨g, 0, none⟩) n c l → Calls Try.prog 28 #[.slice (some ⟨g, 0, none⟩) n c, .int .i64 ((nat_ l 0 : Nat) : Int)] W fun e w' => e = .returned (.tuple #[.int .u64 (V1 : Int), .int .i64 ((nat_ l (nat_ l 0) : Nat) : Int), .int .i64 (if q1 = true then 0 else 100)]) ∧ Below W.heap.size W w' := fun W g c h => by
    have := rTakeN_any _ _ c l (nat_ l 0) W h x1
    rwa [hV1, hQ1] at this
  have hN3 : ∀ (W : World) (g c : Nat), BS W (some ⟨g, 0, none⟩) n c l → Calls Try.prog 29 #[.slice (some ⟨g, 0, none⟩) n c, .int .i64 ((nat_ l (nat_ l 0) : Nat) : Int), .int .i64 1048576] W fun e w' => e = .returned (.tuple #[.string T, .int .i64 (X : Int), .int .i64 (if q2 = true then 0 else 100)]) ∧ Below W.heap.size W w' := fun W g c h => by
    have := rTakeT_any _ _ c l (nat_ l (nat_ l 0)) 1048576 W h x2
    rwa [hT, hX, hQ] at this
  obtain ⟨E0, hE0⟩ : ∃ E : Int, (if q0 = true then 0 else 100) = E := ⟨_, rfl⟩
  obtain ⟨E1, hE1⟩ : ∃ E : Int, (if q1 = true then 0 else 100) = E := ⟨_, rfl⟩
  obtain ⟨E2, hE2⟩ : ∃ E : Int, (if q2 = true then 0 else 100) = E := ⟨_, rfl⟩
  rw [hE0] at hN1
  rw [hE1] at hN2
  rw [hE2] at hN3
  generalize hA1 : nat_ l (nat_ l 0) = A2 at *
  generalize hA0 : nat_ l 0 = A1 at *
  replace hN1 := W_hid hN1
  replace hN2 := W_hid hN2
  replace hN3 := W_hid hN3
  replace hl := W_hid hl
  clear hT hX hQ hQ1 hQ0 hV1 hV0 hA1 hA0 hlen x1 x2
  have hce : V0 < 2147483648 → ∀ W, (convert 49 29 (.int .u64 (V0 : Int))).run Try.prog W = .ok (.int .i64 (V0 : Int)) W := fun hv W => by
    have h1 : (convert 49 29 (.int .u64 (V0 : Int))).run Try.prog W = .ok (.int .i64 (IntKind.i64.wrap (V0 : Int))) W := by simp [go_sem]
    rw [h1, si_wrap v0, si, if_pos (by omega)]
  replace hce := W_hid hce
  by_cases hall : (q0 && (q1 && (q2 && (decide (X = n) && decide (V0 < 2147483648))))) = true
  · have hA : Hid (drQ s = (0, rv (V0 : Int) (si V1) T)) := by show _ = _; rw [hR, if_pos hall]
    simp only [Bool.and_eq_true, decide_eq_true_iff] at hall
    obtain ⟨rfl, rfl, rfl, rfl, hv⟩ := hall
    obtain rfl : (0 : Int) = E0 := hE0
    obtain rfl : (0 : Int) = E1 := hE1
    obtain rfl : (0 : Int) = E2 := hE2
    have hce := hce.out hv
    have hdc : Hid (decide ((2147483648 : Int) ≤ (V0 : Int)) = false) := W_hid (decide_eq_false (by omega))
    clear hR hv
    go_enter Try.func18, Try.ntmps18
    go_wp2_with (with_reducible show wpList _ _ _ _ _ _; refine wpList_bytes_n rfl _ rfl s _ hn rfl hs ?_; intro w1 hb c hBS bel1 hge hlt)
    rw [hl.out] at hBS
    have hres : Blk w1 w.heap.size 37 zr := (Blk.new w 37 zr rfl).keep bel1
    have bb : Below w.heap.size w w1 := ((Below.refl w.heap.size w).alloc (Nat.le_refl _) (.cells zr.toArray 37)).trans (Below.mono bel1 (by simp))
    refine (hN1.out _ _ _ hBS).mono ?_
    rintro e w2 ⟨rfl, bel2⟩
    have hBS2 := hBS.below bel2 (Nat.le_refl _)
    have bb2 := bb.trans (bel2.mono bb.size)
    have hres2 := hres.keep bel2
    replace bb2 := W_hid bb2
    replace hres2 := W_hid hres2
    clear bb hres bel2 hBS bel1
    go_wp2_with fail
    refine (hN2.out _ _ _ hBS2).mono ?_
    rintro e w3 ⟨rfl, bel3⟩
    have hBS3 := hBS2.below bel3 (Nat.le_refl _)
    have bb3 := bb2.out.trans (bel3.mono bb2.out.size)
    have hres3 := hres2.out.keep bel3
    replace bb3 := W_hid bb3
    replace hres3 := W_hid hres3
    clear bb2 hres2 bel3 hBS2
    go_wp2_with fail
    refine (hN3.out _ _ _ hBS3).mono ?_
    rintro e w4 ⟨rfl, bel4⟩
    have bb4 := bb3.out.trans (bel4.mono bb3.out.size)
    have hres4 := hres3.out.keep bel4
    have rz := hres4.fz
    have r0 := hres4.cell (j := 0) rfl
    have r1 := hres4.cell (j := 1) rfl
    have r2 := hres4.cell (j := 2) rfl
    replace bb4 := W_hid bb4
    replace hres4 := W_hid hres4
    clear bb3 hres3 bel4 hBS3
    iterate 90 (first | (go_values) | go_skip | go_guarded | go_step | go_upon | go_back | (simp only [Int.not_lt, Int.not_le] at *; go_simp) | (go_values <;> (try go_simp)))
    rw [hdc.out]
    go_wp2_with fail
    refine bodyPost_ret (res_rep rfl _ _ rfl (three_blk hres4.out _ _ _)) rfl ⟨by rw [hA.out]; rfl, three_below bb4.out (Nat.le_refl _) _ _ _⟩
  · have hA : Hid (drQ s = (2, zr)) := by show _ = _; rw [hR, if_neg hall]
    clear hR
    cases q0
    case false =>
      obtain rfl : (100 : Int) = E0 := hE0
      replace hE1 := W_hid hE1
      replace hE2 := W_hid hE2
      go_enter Try.func18, Try.ntmps18
      go_wp2_with (with_reducible show wpList _ _ _ _ _ _; refine wpList_bytes_n rfl _ rfl s _ hn rfl hs ?_; intro w1 hb c hBS bel1 hge hlt)
      rw [hl.out] at hBS
      have hres : Blk w1 w.heap.size 37 zr := (Blk.new w 37 zr rfl).keep bel1
      have bb : Below w.heap.size w w1 := ((Below.refl w.heap.size w).alloc (Nat.le_refl _) (.cells zr.toArray 37)).trans (Below.mono bel1 (by simp))
      refine (hN1.out _ _ _ hBS).mono ?_
      rintro e w2 ⟨rfl, bel2⟩
      have hBS2 := hBS.below bel2 (Nat.le_refl _)
      have bb2 := bb.trans (bel2.mono bb.size)
      have hres2 := hres.keep bel2
      replace bb2 := W_hid bb2
      replace hres2 := W_hid hres2
      clear bb hres bel2 hBS bel1
      go_wp2_with fail
      refine (hN2.out _ _ _ hBS2).mono ?_
      rintro e w3 ⟨rfl, bel3⟩
      have hBS3 := hBS2.below bel3 (Nat.le_refl _)
      have bb3 := bb2.out.trans (bel3.mono bb2.out.size)
      have hres3 := hres2.out.keep bel3
      replace bb3 := W_hid bb3
      replace hres3 := W_hid hres3
      clear bb2 hres2 bel3 hBS2
      go_wp2_with fail
      refine (hN3.out _ _ _ hBS3).mono ?_
      rintro e w4 ⟨rfl, bel4⟩
      have bb4 := bb3.out.trans (bel4.mono bb3.out.size)
      have hres4 := hres3.out.keep bel4
      have rz := hres4.fz
      have r0 := hres4.cell (j := 0) rfl
      have r1 := hres4.cell (j := 1) rfl
      have r2 := hres4.cell (j := 2) rfl
      replace bb4 := W_hid bb4
      replace hres4 := W_hid hres4
      clear bb3 hres3 bel4 hBS3
      go_wp2_with fail
      refine bodyPost_ret (res_rep rfl _ _ rfl (three_blk hres4.out _ _ _)) rfl ⟨by rw [hA.out]; rfl, three_below bb4.out (Nat.le_refl _) _ _ _⟩
    cases q1
    case false =>
      obtain rfl : (0 : Int) = E0 := hE0
      obtain rfl : (100 : Int) = E1 := hE1
      replace hE2 := W_hid hE2
      go_enter Try.func18, Try.ntmps18
      go_wp2_with (with_reducible show wpList _ _ _ _ _ _; refine wpList_bytes_n rfl _ rfl s _ hn rfl hs ?_; intro w1 hb c hBS bel1 hge hlt)
      rw [hl.out] at hBS
      have hres : Blk w1 w.heap.size 37 zr := (Blk.new w 37 zr rfl).keep bel1
      have bb : Below w.heap.size w w1 := ((Below.refl w.heap.size w).alloc (Nat.le_refl _) (.cells zr.toArray 37)).trans (Below.mono bel1 (by simp))
      refine (hN1.out _ _ _ hBS).mono ?_
      rintro e w2 ⟨rfl, bel2⟩
      have hBS2 := hBS.below bel2 (Nat.le_refl _)
      have bb2 := bb.trans (bel2.mono bb.size)
      have hres2 := hres.keep bel2
      replace bb2 := W_hid bb2
      replace hres2 := W_hid hres2
      clear bb hres bel2 hBS bel1
      go_wp2_with fail
      refine (hN2.out _ _ _ hBS2).mono ?_
      rintro e w3 ⟨rfl, bel3⟩
      have hBS3 := hBS2.below bel3 (Nat.le_refl _)
      have bb3 := bb2.out.trans (bel3.mono bb2.out.size)
      have hres3 := hres2.out.keep bel3
      replace bb3 := W_hid bb3
      replace hres3 := W_hid hres3
      clear bb2 hres2 bel3 hBS2
      go_wp2_with fail
      refine (hN3.out _ _ _ hBS3).mono ?_
      rintro e w4 ⟨rfl, bel4⟩
      have bb4 := bb3.out.trans (bel4.mono bb3.out.size)
      have hres4 := hres3.out.keep bel4
      have rz := hres4.fz
      have r0 := hres4.cell (j := 0) rfl
      have r1 := hres4.cell (j := 1) rfl
      have r2 := hres4.cell (j := 2) rfl
      replace bb4 := W_hid bb4
      replace hres4 := W_hid hres4
      clear bb3 hres3 bel4 hBS3
      go_wp2_with fail
      refine bodyPost_ret (res_rep rfl _ _ rfl (three_blk hres4.out _ _ _)) rfl ⟨by rw [hA.out]; rfl, three_below bb4.out (Nat.le_refl _) _ _ _⟩
    cases q2
    case false =>
      obtain rfl : (0 : Int) = E0 := hE0
      obtain rfl : (0 : Int) = E1 := hE1
      obtain rfl : (100 : Int) = E2 := hE2
      go_enter Try.func18, Try.ntmps18
      go_wp2_with (with_reducible show wpList _ _ _ _ _ _; refine wpList_bytes_n rfl _ rfl s _ hn rfl hs ?_; intro w1 hb c hBS bel1 hge hlt)
      rw [hl.out] at hBS
      have hres : Blk w1 w.heap.size 37 zr := (Blk.new w 37 zr rfl).keep bel1
      have bb : Below w.heap.size w w1 := ((Below.refl w.heap.size w).alloc (Nat.le_refl _) (.cells zr.toArray 37)).trans (Below.mono bel1 (by simp))
      refine (hN1.out _ _ _ hBS).mono ?_
      rintro e w2 ⟨rfl, bel2⟩
      have hBS2 := hBS.below bel2 (Nat.le_refl _)
      have bb2 := bb.trans (bel2.mono bb.size)
      have hres2 := hres.keep bel2
      replace bb2 := W_hid bb2
      replace hres2 := W_hid hres2
      clear bb hres bel2 hBS bel1
      go_wp2_with fail
      refine (hN2.out _ _ _ hBS2).mono ?_
      rintro e w3 ⟨rfl, bel3⟩
      have hBS3 := hBS2.below bel3 (Nat.le_refl _)
      have bb3 := bb2.out.trans (bel3.mono bb2.out.size)
      have hres3 := hres2.out.keep bel3
      replace bb3 := W_hid bb3
      replace hres3 := W_hid hres3
      clear bb2 hres2 bel3 hBS2
      go_wp2_with fail
      refine (hN3.out _ _ _ hBS3).mono ?_
      rintro e w4 ⟨rfl, bel4⟩
      have bb4 := bb3.out.trans (bel4.mono bb3.out.size)
      have hres4 := hres3.out.keep bel4
      have rz := hres4.fz
      have r0 := hres4.cell (j := 0) rfl
      have r1 := hres4.cell (j := 1) rfl
      have r2 := hres4.cell (j := 2) rfl
      replace bb4 := W_hid bb4
      replace hres4 := W_hid hres4
      clear bb3 hres3 bel4 hBS3
      go_wp2_with fail
      refine bodyPost_ret (res_rep rfl _ _ rfl (three_blk hres4.out _ _ _)) rfl ⟨by rw [hA.out]; rfl, three_below bb4.out (Nat.le_refl _) _ _ _⟩
    obtain rfl : (0 : Int) = E0 := hE0
    obtain rfl : (0 : Int) = E1 := hE1
    obtain rfl : (0 : Int) = E2 := hE2
    by_cases hx : X = n
    · have hv : ¬ V0 < 2147483648 := fun hv => hall (by simp [hx, hv])
      have hdc : Hid (decide ((2147483648 : Int) ≤ (V0 : Int)) = true) := W_hid (decide_eq_true (by omega))
      clear hv hall hce
      subst hx
      go_enter Try.func18, Try.ntmps18
      go_wp2_with (with_reducible show wpList _ _ _ _ _ _; refine wpList_bytes_n rfl _ rfl s _ hn rfl hs ?_; intro w1 hb c hBS bel1 hge hlt)
      rw [hl.out] at hBS
      have hres : Blk w1 w.heap.size 37 zr := (Blk.new w 37 zr rfl).keep bel1
      have bb : Below w.heap.size w w1 := ((Below.refl w.heap.size w).alloc (Nat.le_refl _) (.cells zr.toArray 37)).trans (Below.mono bel1 (by simp))
      refine (hN1.out _ _ _ hBS).mono ?_
      rintro e w2 ⟨rfl, bel2⟩
      have hBS2 := hBS.below bel2 (Nat.le_refl _)
      have bb2 := bb.trans (bel2.mono bb.size)
      have hres2 := hres.keep bel2
      replace bb2 := W_hid bb2
      replace hres2 := W_hid hres2
      clear bb hres bel2 hBS bel1
      go_wp2_with fail
      refine (hN2.out _ _ _ hBS2).mono ?_
      rintro e w3 ⟨rfl, bel3⟩
      have hBS3 := hBS2.below bel3 (Nat.le_refl _)
      have bb3 := bb2.out.trans (bel3.mono bb2.out.size)
      have hres3 := hres2.out.keep bel3
      replace bb3 := W_hid bb3
      replace hres3 := W_hid hres3
      clear bb2 hres2 bel3 hBS2
      go_wp2_with fail
      refine (hN3.out _ _ _ hBS3).mono ?_
      rintro e w4 ⟨rfl, bel4⟩
      have bb4 := bb3.out.trans (bel4.mono bb3.out.size)
      have hres4 := hres3.out.keep bel4
      have rz := hres4.fz
      have r0 := hres4.cell (j := 0) rfl
      have r1 := hres4.cell (j := 1) rfl
      have r2 := hres4.cell (j := 2) rfl
      replace bb4 := W_hid bb4
      replace hres4 := W_hid hres4
      clear bb3 hres3 bel4 hBS3
      iterate 90 (first | (go_values) | go_skip | go_guarded | go_step | go_upon | go_back | (simp only [Int.not_lt, Int.not_le] at *; go_simp) | (go_values <;> (try go_simp)))
      rw [hdc.out]
      go_wp2_with fail
      refine bodyPost_ret (res_rep rfl _ _ rfl (three_blk hres4.out _ _ _)) rfl ⟨by rw [hA.out]; rfl, three_below bb4.out (Nat.le_refl _) _ _ _⟩
    · have hx2 : ¬ ((X : Int) = (n : Int)) := by omega
      go_enter Try.func18, Try.ntmps18
      go_wp2_with (with_reducible show wpList _ _ _ _ _ _; refine wpList_bytes_n rfl _ rfl s _ hn rfl hs ?_; intro w1 hb c hBS bel1 hge hlt)
      rw [hl.out] at hBS
      have hres : Blk w1 w.heap.size 37 zr := (Blk.new w 37 zr rfl).keep bel1
      have bb : Below w.heap.size w w1 := ((Below.refl w.heap.size w).alloc (Nat.le_refl _) (.cells zr.toArray 37)).trans (Below.mono bel1 (by simp))
      refine (hN1.out _ _ _ hBS).mono ?_
      rintro e w2 ⟨rfl, bel2⟩
      have hBS2 := hBS.below bel2 (Nat.le_refl _)
      have bb2 := bb.trans (bel2.mono bb.size)
      have hres2 := hres.keep bel2
      replace bb2 := W_hid bb2
      replace hres2 := W_hid hres2
      clear bb hres bel2 hBS bel1
      go_wp2_with fail
      refine (hN2.out _ _ _ hBS2).mono ?_
      rintro e w3 ⟨rfl, bel3⟩
      have hBS3 := hBS2.below bel3 (Nat.le_refl _)
      have bb3 := bb2.out.trans (bel3.mono bb2.out.size)
      have hres3 := hres2.out.keep bel3
      replace bb3 := W_hid bb3
      replace hres3 := W_hid hres3
      clear bb2 hres2 bel3 hBS2
      go_wp2_with fail
      refine (hN3.out _ _ _ hBS3).mono ?_
      rintro e w4 ⟨rfl, bel4⟩
      have bb4 := bb3.out.trans (bel4.mono bb3.out.size)
      have hres4 := hres3.out.keep bel4
      have rz := hres4.fz
      have r0 := hres4.cell (j := 0) rfl
      have r1 := hres4.cell (j := 1) rfl
      have r2 := hres4.cell (j := 2) rfl
      replace bb4 := W_hid bb4
      replace hres4 := W_hid hres4
      clear bb3 hres3 bel4 hBS3
      go_wp2_with fail
      refine bodyPost_ret (res_rep rfl _ _ rfl (three_blk hres4.out _ _ _)) rfl ⟨by rw [hA.out]; rfl, three_below bb4.out (Nat.le_refl _) _ _ _⟩

set_option maxRecDepth 100000 in
set_option maxHeartbeats 4000000 in
theorem DRep_any (s : ByteArray) (hs : s.size ≤ maxLen) (w : World) :
    Calls Try.prog 17 #[.string s] w fun e w' => e = .returned (.tuple #[.agg (drQ s).2.toArray, .int .i64 (drQ s).1]) ∧ Below w.heap.size w w' := by
  have hlen : s.data.toList.length = s.size := by rw [Array.length_toList]; rfl
  obtain ⟨n, hn⟩ : ∃ n, s.size = n := ⟨_, rfl⟩
  rw [hn] at hlen hs
  replace hn := W_hid hn
  obtain ⟨l, hl⟩ : ∃ l, s.data.toList = l := ⟨_, rfl⟩
  have hR : drQ s = if dok l = true then (0, rv (nvl l 0) (si (nvl l (nat_ l 0))) (tvl l (nat_ l (nat_ l 0)) 1048576)) else (2, zr) := by unfold drQ; rw [hl]
  rw [hl] at hlen
  have hc1 := conv_i64 (nvl l (nat_ l 0)) (nvl_lt _ _)
  have v0 := nvl_lt l 0
  obtain ⟨W, hW⟩ : ∃ W, (!(((false || !nok l 0) || !nok l (nat_ l 0)) || !tok l (nat_ l (nat_ l 0)) 1048576) && decide (tat l (nat_ l (nat_ l 0)) 1048576 = n)) = W := ⟨_, rfl⟩
  have hdok : dok l = (W && decide (nvl l 0 < 2147483648)) := by
    unfold dok
    rw [← hW, hlen]
    cases nok l 0 <;> cases nok l (nat_ l 0) <;> cases tok l (nat_ l (nat_ l 0)) 1048576 <;> simp
  rw [hdok] at hR
  have hce : nvl l 0 < 2147483648 → ∀ W, (convert 49 29 (.int .u64 (nvl l 0 : Int))).run Try.prog W = .ok (.int .i64 (nvl l 0 : Int)) W := fun hv W => by
    have h1 : (convert 49 29 (.int .u64 (nvl l 0 : Int))).run Try.prog W = .ok (.int .i64 (IntKind.i64.wrap (nvl l 0 : Int))) W := by simp [go_sem]
    rw [h1, si_wrap v0, si, if_pos (by omega)]
  replace hce := W_hid hce
  replace hl := W_hid hl
  replace hR := W_hid hR
  replace hW := W_hid hW
  clear hdok hlen
  go_enter Try.func17, Try.ntmps17
  go_wp2_with (with_reducible show wpList _ _ _ _ _ _; refine wpList_bytes_n rfl _ rfl s _ hn rfl hs ?_; intro w1 hb c hBS bel1 hge hlt)
  rw [hl.out] at hBS
  have hres : Blk w1 w.heap.size 37 zr := (Blk.new w 37 zr rfl).keep bel1
  have bb : Below w.heap.size w w1 := ((Below.refl w.heap.size w).alloc (Nat.le_refl _) (.cells zr.toArray 37)).trans (Below.mono bel1 (by simp))
  have hrb : RB (w1.alloc (.cells #[.slice (some ⟨hb, 0, none⟩) n c, .int .i64 0, .bool false] 58)) w1.heap.size hb n c l 0 false :=
    ⟨Blk.new w1 _ [.slice (some ⟨hb, 0, none⟩) n c, .int .i64 ((0 : Nat) : Int), .bool false] rfl, hBS.below ((Below.refl _ _).alloc (Nat.le_refl _) _) (Nat.le_refl _), by omega, Nat.zero_le _⟩
  have hres1 := hres.alloc (.cells #[.slice (some ⟨hb, 0, none⟩) n c, .int .i64 0, .bool false] 58)
  have bb1 := bb.alloc bb.size (.cells #[.slice (some ⟨hb, 0, none⟩) n c, .int .i64 0, .bool false] 58)
  have hrl := hres.lt
  have hrg : w.heap.size ≤ w1.heap.size := bb.size
  obtain ⟨g, hg⟩ : ∃ g, g = w1.heap.size := ⟨_, rfl⟩
  rw [← hg] at hrb ⊢
  have hgne : w.heap.size ≠ g := by omega
  have hgle : w.heap.size ≤ g := by omega
  clear hres bb bel1 hBS hge hlt
  refine (number_any hrb).mono ?_
  rintro e w2 ⟨rfl, hr2, two2⟩
  have hres2 := hres1.two two2 hgne hgne
  have bb2 := bb1.trans (two2.below bb1.size hgle hgle)
  clear hres1 bb1 hrb two2 hrl hrg hg
  replace hres2 := W_hid hres2
  replace bb2 := W_hid bb2
  go_wp2_with fail
  refine (number_any hr2).mono ?_
  rintro e w3 ⟨rfl, hr3, two3⟩
  have hres3 := hres2.out.two two3 hgne hgne
  have bb3 := bb2.out.trans (two3.below bb2.out.size hgle hgle)
  clear hr2 two3 hres2 bb2
  replace hres3 := W_hid hres3
  replace bb3 := W_hid bb3
  go_wp2_with fail
  refine (text_any hr3 1048576 (by decide)).mono ?_
  rintro e w4 ⟨rfl, hr4, two4⟩
  have hres4 := hres3.out.two two4 hgne hgne
  have bb4 := bb3.out.trans (two4.below bb3.out.size hgle hgle)
  clear hr3 two4 hres3 bb3
  replace hres4 := W_hid hres4
  replace bb4 := W_hid bb4
  go_wp2_with fail
  refine (whole_any hr4).mono ?_
  rintro e w5 ⟨rfl, bel5⟩
  rw [hW.out]
  replace hres4 := W_hid (hres4.out.keep bel5)
  replace bb4 := W_hid (bb4.out.trans (bel5.mono bb4.out.size))
  have rz := hres4.out.fz
  have r0 := hres4.out.cell (j := 0) rfl
  have r1 := hres4.out.cell (j := 1) rfl
  have r2 := hres4.out.cell (j := 2) rfl
  clear hr4 bel5 hW
  obtain ⟨V0, hV0⟩ : ∃ V0, nvl l 0 = V0 := ⟨_, rfl⟩
  obtain ⟨V1, hV1⟩ : ∃ V1, nvl l (nat_ l 0) = V1 := ⟨_, rfl⟩
  obtain ⟨T, hT⟩ : ∃ T, tvl l (nat_ l (nat_ l 0)) 1048576 = T := ⟨_, rfl⟩
  rw [hV0, hV1, hT]
  rw [hV0, hV1, hT] at hR
  rw [hV0] at hce
  rw [hV1] at hc1
  clear hV0 hV1 hT v0
  cases W with
  | false =>
    have hA : Hid (drQ s = (2, zr)) := by show _ = _; rw [hR.out]; rfl
    go_wp2_with fail
    refine bodyPost_ret (res_rep rfl _ _ rfl (three_blk hres4.out _ _ _)) rfl ⟨by rw [hA.out]; rfl, three_below bb4.out (Nat.le_refl _) _ _ _⟩
  | true =>
    by_cases hv : V0 < 2147483648
    · have hA : Hid (drQ s = (0, rv (V0 : Int) (si V1) T)) := by show _ = _; rw [hR.out, if_pos (by rw [decide_eq_true hv]; rfl)]
      have hce2 := hce.out hv
      have hdc : Hid (decide ((2147483647 : Int) < (V0 : Int)) = false) := W_hid (decide_eq_false (by omega))
      clear hR hv
      iterate 18 (first | (go_values) | go_skip | go_guarded | go_step | go_upon | go_back | (simp only [Int.not_lt, Int.not_le] at *; go_simp) | (go_values <;> (try go_simp)))
      rw [hdc.out]
      go_wp2_with fail
      refine bodyPost_ret (res_rep rfl _ _ rfl (three_blk hres4.out _ _ _)) rfl ⟨by rw [hA.out]; rfl, three_below bb4.out (Nat.le_refl _) _ _ _⟩
    · have hA : Hid (drQ s = (2, zr)) := by show _ = _; rw [hR.out, if_neg (by rw [decide_eq_false hv]; simp)]
      have hdc : Hid (decide ((2147483647 : Int) < (V0 : Int)) = true) := W_hid (decide_eq_true (by omega))
      clear hR hv hce
      iterate 18 (first | (go_values) | go_skip | go_guarded | go_step | go_upon | go_back | (simp only [Int.not_lt, Int.not_le] at *; go_simp) | (go_values <;> (try go_simp)))
      rw [hdc.out]
      go_wp2_with fail
      refine bodyPost_ret (res_rep rfl _ _ rfl (three_blk hres4.out _ _ _)) rfl ⟨by rw [hA.out]; rfl, three_below bb4.out (Nat.le_refl _) _ _ _⟩
end CA
end Go.Proofs.Ytmhikoblaejhhaa

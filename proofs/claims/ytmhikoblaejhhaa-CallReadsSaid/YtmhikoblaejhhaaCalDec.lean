/- Decoding, plain; and what the walks of Decode want. -/
import Derived.Test.YtmhikoblaejhhaaCalRead
namespace Go.Proofs.Ytmhikoblaejhhaa
open Go.ChangeShapes Go.WideShapes Go.ChangeAt Go.RowKit Go.Maps
set_option linter.unusedVariables false
set_option linter.unusedSimpArgs false
set_option maxRecDepth 100000
namespace CA
/-- What is read by a shape: numbers, texts, where it ends, whether anything could not be read. -/
def rd : List UInt8 → List UInt8 → Nat → Bool → List Int × List ByteArray × Nat × Bool
  | [], _, x, b => ([], [], x, b)
  | c :: r, l, x, b => if c = 110 then (si (nvl l x) :: (rd r l (nat_ l x) (b || !nok l x)).1, (rd r l (nat_ l x) (b || !nok l x)).2) else
      ((rd r l (tat l x 8192) (b || !tok l x 8192)).1, tvl l x 8192 :: (rd r l (tat l x 8192) (b || !tok l x 8192)).2.1, (rd r l (tat l x 8192) (b || !tok l x 8192)).2.2)
def okR (l : List UInt8) (r : List Int × List ByteArray × Nat × Bool) : Bool := !r.2.2.2 && decide (r.2.2.1 = l.length)
def zc : List Value := cl 0 0 0 0 ByteArray.empty ByteArray.empty
/-- The call of a frame. -/
def callOf (k : Nat) (r : List Int × List ByteArray × Nat × Bool) : List Value := cl k (r.1.getD 0 0) (r.1.getD 1 0) (r.1.getD 2 0) (r.2.1.getD 0 ByteArray.empty) (r.2.1.getD 1 ByteArray.empty)
def decQ (s : ByteArray) : Int × List Value :=
  if 8192 < s.size ∨ s.size < 8 then (2, zc) else match shp (num (s.data.toList.take 8)) with
  | none => (10, zc)
  | some L => if okR s.data.toList (rd L.data.toList s.data.toList 8 false) = true then (0, callOf (num (s.data.toList.take 8)) (rd L.data.toList s.data.toList 8 false)) else (2, zc)
theorem decQ_some {s : ByteArray} (h1 : s.size ≤ 8192) (h2 : 8 ≤ s.size) {k : Nat} (hk : num (s.data.toList.take 8) = k) {L : ByteArray} (h : shp k = some L) :
    decQ s = if okR s.data.toList (rd L.data.toList s.data.toList 8 false) = true then (0, callOf k (rd L.data.toList s.data.toList 8 false)) else (2, zc) := by
  unfold decQ
  rw [if_neg (by omega), hk, h]
theorem tok_m (l : List UInt8) (x : Nat) {m m' : Nat} (h : l.length ≤ m) (h' : l.length ≤ m') : tok l x m = tok l x m' := by
  unfold tok
  rw [Bool.eq_iff_iff, decide_eq_true_iff, decide_eq_true_iff]
  omega
theorem tvl_m (l : List UInt8) (x : Nat) {m m' : Nat} (h : l.length ≤ m) (h' : l.length ≤ m') : tvl l x m = tvl l x m' := by
  unfold tvl
  rw [tok_m l x h h']
theorem tat_m (l : List UInt8) (x : Nat) {m m' : Nat} (h : l.length ≤ m) (h' : l.length ≤ m') : tat l x m = tat l x m' := by
  unfold tat
  rw [tok_m l x h h']

theorem und_str : Try.prog.underlying 9 = some .string := by kernel_rfl
theorem und_bytes : Try.prog.underlying 50 = some (.slice 5) := by kernel_rfl
theorem und_byte : Try.prog.underlying 5 = some (.int .u8) := by kernel_rfl
/-- '[]byte(s)'. -/
theorem wpList_bytes {w : World} {ops : Array Oper} {rest : List Oper} {o : Oper} {a : Act} {Q : Exit → Act → World → Prop} (hg : o.guard = none) (x : Operand) (hop : o.op = Op.convert 9 50 x)
    (s : ByteArray) (hx : a.eval x = .string s) (hs : s.size ≤ maxLen)
    (hK : ∀ w' g c, BS w' (some ⟨g, 0, none⟩) s.size c s.data.toList → Below w.heap.size w w' → w.heap.size ≤ g → g < w'.heap.size → wpList Try.prog ops Q rest (a.put o.dst (.slice (some ⟨g, 0, none⟩) s.size c)) w') :
    wpList Try.prog ops Q (o :: rest) a w := by
  refine wpList_plain hg fun K' hK' => ?_
  have hrun := run_bytes_of_string (P := Try.prog) w 9 50 5 s und_str und_bytes und_byte
  unfold Oper.wp
  simp [execOp, hop, hx, hrun, Result.andThen]
  refine hK' _ _ (hK _ _ _ ?_ ((Below.refl _ _).drew.alloc (by simp) _) (by simp) (by simp))
  have hge := grownCap_ge w s.size 0 5
  have hle := grownCap_le_maxLen w s.size 0 5 hs
  refine ⟨by rw [Array.length_toList]; rfl, hge, hle, (fun h => by cases h), fun ad had j u hu => ?_⟩
  obtain rfl := Option.some.inj had
  rw [Addr.add_lit]
  have hb : (w.drew.alloc (.cells (bytesRow s (grownCap w s.size 0 5)) 5 ((bytesRow s (grownCap w s.size 0 5)).size, (bytesRow s (grownCap w s.size 0 5)).size + 1))).heap[w.heap.size]? = some (.cells (bytesRow s (grownCap w s.size 0 5)) 5 ((bytesRow s (grownCap w s.size 0 5)).size, (bytesRow s (grownCap w s.size 0 5)).size + 1)) := by
    show (w.heap.push _)[w.heap.size]? = _
    simp
  rw [cell_of_row _ _ (0 + j) _ _ _ hb]
  have hj : j < s.data.size := by
    have := (List.getElem?_eq_some_iff.1 hu).1
    rw [cel_length] at this; simpa using this
  rw [cel_get] at hu
  rw [← hu, Nat.zero_add]
  unfold bytesRow
  rw [Array.getElem?_append_left (by simpa using hj)]
  simp

/-- The state of the program's Decode. -/
structure PD (w0 w : World) (g h n c : Nat) (l : List UInt8) (x : Nat) (b : Bool) (cb : Nat) (v : List Value) (gi : Nat) (s : ByteArray) (k : Nat) : Prop where
  below : Below w0.heap.size w0 w
  res : Blk w w0.heap.size 25 zc
  rb : RB w g h n c l x b
  row : Blk w cb 25 v
  it : IT w gi s k
  h1 : w0.heap.size < h
  h2 : w0.heap.size < g
  h3 : g < cb
  h4 : h < cb
  h5 : cb < gi
section
variable {w0 w w' : World} {g h n c : Nat} {l : List UInt8} {x : Nat} {b : Bool} {cb : Nat} {v : List Value} {gi : Nat} {s : ByteArray} {k : Nat}
theorem bs_grown {a : Nat} (r : BS w (some ⟨a, 0, none⟩) n c l) (hr : w.grownBy w' (some gi)) (hg : a ≠ gi) : BS w' (some ⟨a, 0, none⟩) n c l := by
  obtain ⟨h1, h2, h3, h4, h5⟩ := r
  refine ⟨h1, h2, h3, h4, fun ad ha j u hu => ?_⟩
  have hc := h5 ad ha j u hu
  obtain rfl := Option.some.inj ha
  have hlt := World.block_lt_of_cell? w _ hc
  rw [← hc]
  unfold World.cell?
  rw [hr.block _ hlt (fun e => hg (by rw [Addr.add_lit] at e; exact Option.some.inj e))]
theorem bs_two {a : Nat} (r : BS w (some ⟨a, 0, none⟩) n c l) (hr : Two g g w w') (hg : a ≠ g) : BS w' (some ⟨a, 0, none⟩) n c l := by
  obtain ⟨h1, h2, h3, h4, h5⟩ := r
  refine ⟨h1, h2, h3, h4, fun ad ha j u hu => ?_⟩
  have hc := h5 ad ha j u hu
  obtain rfl := Option.some.inj ha
  have hlt := World.block_lt_of_cell? w _ hc
  have hne : ((⟨a, 0, none⟩ : Addr).add j).block ≠ g := fun e => hg (by rw [Addr.add_lit] at e; exact e)
  rw [← hc]
  unfold World.cell?
  rw [hr.block _ hlt hne hne]
theorem PD.next (p : PD w0 w g h n c l x b cb v gi s k) (hi : IT w' gi s (k + 1)) (hr : w.grownBy w' (some gi)) : PD w0 w' g h n c l x b cb v gi s (k + 1) := by
  obtain ⟨e1, e2, e3, e4, e5, e6, e7, e8, e9, e10⟩ := p
  refine ⟨e1.grown hr e1.size (fun k e => by cases e; omega), e2.grown hr (fun e => by have := Option.some.inj e; omega), ⟨e3.row.grown hr (fun e => by have := Option.some.inj e; omega), bs_grown e3.bytes hr (by omega), e3.ne, e3.le⟩, e4.grown hr (fun e => by have := Option.some.inj e; omega), hi, e6, e7, e8, e9, e10⟩
theorem PD.call {x' : Nat} {b' : Bool} (p : PD w0 w g h n c l x b cb v gi s k) (hr : RB w' g h n c l x' b') (ht : Two g g w w') : PD w0 w' g h n c l x' b' cb v gi s k := by
  obtain ⟨e1, e2, e3, e4, e5, e6, e7, e8, e9, e10⟩ := p
  refine ⟨e1.trans (ht.below e1.size (by omega) (by omega)), e2.two ht (by omega) (by omega), hr, e4.two ht (by omega) (by omega), ?_, e6, e7, e8, e9, e10⟩
  unfold IT at *
  rw [ht.block gi (IT.lt e5) (by omega) (by omega)]
  exact e5
theorem PD.store (p : PD w0 w g h n c l x b cb v gi s k) (j : Nat) (u : Value) : PD w0 (w.setCell ⟨cb, j, none⟩ u) g h n c l x b cb (v.set j u) gi s k := by
  obtain ⟨e1, e2, e3, e4, e5, e6, e7, e8, e9, e10⟩ := p
  refine ⟨e1.setCell (p := ⟨cb, j, none⟩) (by show _ ≤ cb; omega) _, e2.far (by show _ ≠ cb; omega) _, ⟨e3.row.far (by show _ ≠ cb; omega) _, bs_other e3.bytes _ (by show _ ≠ cb; omega) _, e3.ne, e3.le⟩, e4.set j u, ?_, e6, e7, e8, e9, e10⟩
  unfold IT at *
  rw [Below.heap_setCell w ⟨cb, j, none⟩ u gi (by show gi ≠ cb; omega)]
  exact e5
end
theorem conv_i64 (k : Nat) (hk : k < 18446744073709551616) (W : World) : (convert 49 2 (.int .u64 (k : Int))).run Try.prog W = .ok (.int .i64 (si k)) W := by
  have h1 : (convert 49 2 (.int .u64 (k : Int))).run Try.prog W = .ok (.int .i64 (IntKind.i64.wrap (k : Int))) W := by simp [go_sem]
  rw [h1, si_wrap hk]
theorem PD.keep {w0 w w' : World} {g h n c : Nat} {l : List UInt8} {x : Nat} {b : Bool} {cb : Nat} {v : List Value} {gi : Nat} {s : ByteArray} {k : Nat} (p : PD w0 w g h n c l x b cb v gi s k) (hb : Below w.heap.size w w') : PD w0 w' g h n c l x b cb v gi s k :=
  ⟨p.below.trans (hb.mono p.below.size), p.res.keep hb, p.rb.keep hb, p.row.keep hb, p.it.keep hb, p.h1, p.h2, p.h3, p.h4, p.h5⟩
theorem pd_start {w0 w : World} {g h n c : Nat} {l : List UInt8} {x : Nat} {b : Bool} (hr : RB w g h n c l x b) (hz : Blk w w0.heap.size 25 zc) (hb : Below w0.heap.size w0 w) (h1 : w0.heap.size < h) (h2 : h < g) (o : Obj) (nq : Nat) (s : ByteArray) (v : List Value) :
    PD w0 ((((w.alloc o).alloc (.cells v.toArray 25)).drewN nq).iter s 0) g h n c l x b (w.heap.size + 1) v (w.heap.size + 1 + 1) s 0 := by
  have b1 : Below w.heap.size w ((((w.alloc o).alloc (.cells v.toArray 25)).drewN nq).iter s 0) := (below_drewN (((Below.refl _ _).alloc (Nat.le_refl _) _).alloc (by simp) _) nq).alloc (by simp; omega) _
  have hg := hr.lt
  refine ⟨hb.trans (b1.mono hb.size), hz.keep b1, hr.keep b1, ?_, ?_, h1, by omega, by omega, by omega, by omega⟩
  · exact Blk.alloc (w := ((w.alloc o).alloc (.cells v.toArray 25)).drewN nq) (Blk.new (w.alloc o) 25 v (by simp)) _
  · have e : w.heap.size + 1 + 1 = (((w.alloc o).alloc (.cells v.toArray 25)).drewN nq).heap.size := by simp
    rw [e]
    exact World.iter_heap _ _ _
/-- Six stores into a block of six cells. -/
def six_set (w : World) (r : Nat) (a b c d e f : Value) : World := (((((w.setCell ⟨r, 0, none⟩ a).setCell ⟨r, 1, none⟩ b).setCell ⟨r, 2, none⟩ c).setCell ⟨r, 3, none⟩ d).setCell ⟨r, 4, none⟩ e).setCell ⟨r, 5, none⟩ f
theorem six_blk {w : World} {r : Nat} {t : TypeId} {x0 x1 x2 x3 x4 x5 : Value} (h : Blk w r t [x0, x1, x2, x3, x4, x5]) (a b c d e f : Value) : Blk (six_set w r a b c d e f) r t [a, b, c, d, e, f] :=
  (((((h.set 0 a).set 1 b).set 2 c).set 3 d).set 4 e).set 5 f
theorem six_below {w0 w : World} {r B : Nat} (h : Below B w0 w) (hr : B ≤ r) (a b c d e f : Value) : Below B w0 (six_set w r a b c d e f) :=
  (((((h.setCell (p := ⟨r, 0, none⟩) hr _).setCell (p := ⟨r, 1, none⟩) hr _).setCell (p := ⟨r, 2, none⟩) hr _).setCell (p := ⟨r, 3, none⟩) hr _).setCell (p := ⟨r, 4, none⟩) hr _).setCell (p := ⟨r, 5, none⟩) hr _
theorem res_call {fn : Func} {r t : Tmp} (hres : fn.results = #[.cell r 25, .tmp t]) (tmps : Array Value) (w : World) {g : Nat} {a b c d e f : Value} (hr : tmps.getD r undef = .pointer (some ⟨g, 0, none⟩)) (hp : Blk w g 25 [a, b, c, d, e, f]) :
    (results fn tmps).run Try.prog w = .ok (.tuple #[.agg #[a, b, c, d, e, f], tmps.getD t undef]) w := by
  have c0 := hp.cell (j := 0) rfl
  have c1 := hp.cell (j := 1) rfl
  have c2 := hp.cell (j := 2) rfl
  have c3 := hp.cell (j := 3) rfl
  have c4 := hp.cell (j := 4) rfl
  have c5 := hp.cell (j := 5) rfl
  rw [Array.getD_eq_getD_getElem?] at hr
  simp [results, hres, go_sem, hr, c0, c1, c2, c3, c4, c5]
/-- The document's TakeNumber and TakeText, whatever stands there. -/
theorem rTakeN_any (ao : Option Addr) (n c : Nat) (l : List UInt8) (x : Nat) (w : World) (hb : BS w ao n c l) (hx : x ≤ n) :
    Calls Try.prog 28 #[.slice ao n c, .int .i64 x] w fun e w' => e = .returned (.tuple #[.int .u64 ((nvl l x : Nat) : Int), .int .i64 ((nat_ l x : Nat) : Int), .int .i64 (if nok l x = true then 0 else 100)]) ∧ Below w.heap.size w w' := by
  have hl := hb.1
  by_cases h : x + 8 ≤ n
  · have e1 : nvl l x = num ((l.drop x).take 8) := by unfold nvl; rw [if_pos (by omega)]
    have e2 : ((nat_ l x : Nat) : Int) = (x : Int) + 8 := by unfold nat_; rw [if_pos (by omega)]; push_cast; rfl
    have e3 : nok l x = true := by unfold nok; exact decide_eq_true (by omega)
    rw [e1, e2, e3]
    exact rTakeNumber_yes ao n c l x w hb h
  · have e1 : nvl l x = 0 := by unfold nvl; rw [if_neg (by omega)]
    have e2 : nat_ l x = 0 := by unfold nat_; rw [if_neg (by omega)]
    have e3 : nok l x = false := by unfold nok; exact decide_eq_false (by omega)
    rw [e1, e2, e3]
    exact rTakeNumber_no ao n c l x w hb (by omega)
theorem rTakeT_any (ao : Option Addr) (n c : Nat) (l : List UInt8) (x m : Nat) (w : World) (hb : BS w ao n c l) (hx : x ≤ n) :
    Calls Try.prog 29 #[.slice ao n c, .int .i64 x, .int .i64 m] w fun e w' => e = .returned (.tuple #[.string (tvl l x m), .int .i64 ((tat l x m : Nat) : Int), .int .i64 (if tok l x m = true then 0 else 100)]) ∧ Below w.heap.size w w' := by
  have hl := hb.1
  have hz := tsz_lt l x
  by_cases h : tok l x m = true
  · have h2 : x + 4 ≤ l.length ∧ tsz l x ≤ m ∧ x + 4 + tsz l x ≤ l.length := by unfold tok at h; exact of_decide_eq_true h
    have e1 : tvl l x m = strOf ((l.drop (x + 4)).take (tsz l x)) := by unfold tvl; rw [if_pos h]
    have e2 : ((tat l x m : Nat) : Int) = (x : Int) + 4 + (tsz l x : Nat) := by unfold tat; rw [if_pos h]; push_cast; rfl
    rw [e1, e2, h]
    exact rTakeText_yes ao n c l x (tsz l x) m w hb (W_hid rfl) hz (by omega) (by omega)
  · have hf : tok l x m = false := by simpa using h
    have e1 : tvl l x m = ByteArray.empty := by unfold tvl; rw [if_neg h]
    have e2 : tat l x m = 0 := by unfold tat; rw [if_neg h]
    rw [e1, e2, hf]
    have h2 : ¬ (x + 4 ≤ l.length ∧ tsz l x ≤ m ∧ x + 4 + tsz l x ≤ l.length) := by unfold tok at hf; exact of_decide_eq_false hf
    by_cases h3 : x + 4 ≤ n
    · by_cases h4 : tsz l x ≤ m
      · exact rTakeText_no3 ao n c l x (tsz l x) m w hb h3 (W_hid rfl) hz (by omega) (by omega)
      · exact rTakeText_no2 ao n c l x (tsz l x) m w hb h3 (W_hid rfl) hz (by omega)
    · exact rTakeText_no1 ao n c l x m w hb (by omega)
/-- The state of the document's Decode. -/
structure QD (w0 w : World) (h n c : Nat) (l : List UInt8) (cb : Nat) (v : List Value) : Prop where
  below : Below w0.heap.size w0 w
  res : Blk w w0.heap.size 25 zc
  bytes : BS w (some ⟨h, 0, none⟩) n c l
  row : Blk w cb 25 v
  h1 : w0.heap.size < h
  h4 : h < cb
theorem pd_start2 {w0 w1 w2 : World} {h n c : Nat} {l : List UInt8} (hB : BS w1 (some ⟨h, 0, none⟩) n c l) (hz : Blk w1 w0.heap.size 25 zc) (hb : Below w0.heap.size w0 w1) (h1 : w0.heap.size < h) (h2 : h < w1.heap.size) (b2 : Below w1.heap.size w1 w2) (k : Int) :
    QD w0 (w2.alloc (.cells #[.int .i64 k, .int .i64 0, .int .i64 0, .int .i64 0, .string { data := #[] }, .string { data := #[] }] 25)) h n c l w2.heap.size [.int .i64 k, .int .i64 0, .int .i64 0, .int .i64 0, .string { data := #[] }, .string { data := #[] }] := by
  have hs := b2.size
  have b3 : Below w1.heap.size w1 (w2.alloc (.cells #[.int .i64 k, .int .i64 0, .int .i64 0, .int .i64 0, .string { data := #[] }, .string { data := #[] }] 25)) := b2.alloc hs _
  exact ⟨hb.trans (b3.mono hb.size), hz.keep b3, hB.below b3 (Nat.le_refl _), Blk.new w2 _ [.int .i64 k, .int .i64 0, .int .i64 0, .int .i64 0, .string { data := #[] }, .string { data := #[] }] rfl, h1, by omega⟩
theorem QD.keep {w0 w w' : World} {h n c : Nat} {l : List UInt8} {cb : Nat} {v : List Value} (p : QD w0 w h n c l cb v) (hb : Below w.heap.size w w') : QD w0 w' h n c l cb v :=
  ⟨p.below.trans (hb.mono p.below.size), p.res.keep hb, p.bytes.below hb (Nat.le_refl _), p.row.keep hb, p.h1, p.h4⟩
theorem QD.store {w0 w : World} {h n c : Nat} {l : List UInt8} {cb : Nat} {v : List Value} (p : QD w0 w h n c l cb v) (j : Nat) (u : Value) : QD w0 (w.setCell ⟨cb, j, none⟩ u) h n c l cb (v.set j u) := by
  obtain ⟨e1, e2, e3, e4, e5, e6⟩ := p
  exact ⟨e1.setCell (p := ⟨cb, j, none⟩) (by show _ ≤ cb; omega) _, e2.far (by show _ ≠ cb; omega) _, bs_other e3 _ (by show _ ≠ cb; omega) _, e4.set j u, e5, e6⟩
end CA
end Go.Proofs.Ytmhikoblaejhhaa

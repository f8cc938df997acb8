/- The laws of layer 16 (package haywardlaw16), the first part: what they share, and CallWords: for every input it returns true, and its arguments read as before. No further condition. -/
import Derived.Test.YtmhikoblaejhhaaCalOne
import Derived.ShutString
import Derived.ChangeOld
import Derived.SizedLaws
import Derived.JoinedCond
namespace Go.Proofs.Ytmhikoblaejhhaa
open Go.ChangeShapes Go.WideShapes Go.ChangeAt Go.RowKit Go.Maps
open Go.ChangeMaps (open_string shut_string)
set_option linter.unusedVariables false
set_option linter.unusedSimpArgs false
set_option maxRecDepth 100000
open CA

/-- What the walk is told of a call that came in. -/
def CFit (a b c d : Int) (s t : ByteArray) : Prop := J64 a ∧ J64 b ∧ J64 c ∧ J64 d ∧ s.size ≤ maxLen ∧ t.size ≤ maxLen
def RFit16 (a b : Int) (s : ByteArray) : Prop := J64 a ∧ J64 b ∧ s.size ≤ maxLen
theorem j64_of {x : Int} (h : (Lit.int .i64 x).wf = true) : J64 x := by
  simp [Lit.wf, IntKind.min, IntKind.max, IntKind.signed, IntKind.bits] at h
  exact ⟨by omega, by omega⟩
/-- A call that came in. -/
theorem open_call {H : Type} {enc : TypeId × Value → H} {W : World} {r : Reach} {b0 : Nat} {v : Value} {d : DataW H} {p : List MemPlace} (hv : Value.okWide Try.prog W r b0 25 v)
    (h : DataW.Trod enc Try.prog W 0 (fun _ => true) true 25 v d p) :
    ∃ (a b c d : Int) (s t : ByteArray), v = .agg (cl a b c d s t).toArray ∧ CFit a b c d s t := by
  obtain ⟨cs, rfl, hsz⟩ := okWide_struct Try.underlying25 hv
  have hC : Try.prog.cellsOf 25 = 6 := by kernel_rfl
  rw [hC] at hsz
  obtain ⟨l, rfl⟩ : ∃ l : List Value, cs = l.toArray := ⟨cs.toList, by simp⟩
  have hlen : l.length = 6 := by simpa using hsz
  obtain ⟨fuel, hf⟩ := h
  obtain ⟨xs, k, hk, hxy, _, hxl, hff⟩ := DataW.trod_struct Try.underlying25 hf
  match xs, hxl, l, hlen with
  | [y0, y1, y2], _, [v0, v1, v2, v3, v4, v5], _ =>
    have t0 : Try.prog.cellsOf 3 = 1 := by kernel_rfl
    have t1 : Try.prog.cellsOf 22 = 3 := by kernel_rfl
    have t2 : Try.prog.cellsOf 23 = 2 := by kernel_rfl
    have g0 := hff 0 _ rfl
    have g1 := hff 1 _ rfl
    have g2 := hff 2 _ rfl
    simp [t0, t1, t2, Value.cells] at g0 g1 g2
    obtain ⟨z0, q0, -, b0⟩ := DataW.trod_int Try.underlying3 g0
    obtain ⟨us, m1, -, -, -, hul, hus⟩ := DataW.trod_array u_arr3 g1
    obtain ⟨vs, m2, -, -, -, hvl, hvs⟩ := DataW.trod_array u_arr2 g2
    rw [c_i64] at hus
    rw [c_str] at hvs
    match us, hul, vs, hvl with
    | [u0, u1, u2], _, [r0, r1], _ =>
      have k0 := hus 0 (by decide)
      have k1 := hus 1 (by decide)
      have k2 := hus 2 (by decide)
      have k3 := hvs 0 (by decide)
      have k4 := hvs 1 (by decide)
      simp at k0 k1 k2 k3 k4
      obtain ⟨z1, q1, -, b1⟩ := DataW.trod_int Try.underlying2 k0
      obtain ⟨z2, q2, -, b2⟩ := DataW.trod_int Try.underlying2 k1
      obtain ⟨z3, q3, -, b3⟩ := DataW.trod_int Try.underlying2 k2
      obtain ⟨z4, q4, -, b4⟩ := DataW.trod_string Try.underlying9 k3
      obtain ⟨z5, q5, -, b5⟩ := DataW.trod_string Try.underlying9 k4
      simp at q0 q1 q2 q3 q4 q5
      subst q0 q1 q2 q3 q4 q5
      exact ⟨z0, z1, z2, z3, z4, z5, rfl, j64_of b0, j64_of b1, j64_of b2, j64_of b3, b4, b5⟩
/-- A reply that came in. -/
theorem open_reply {H : Type} {enc : TypeId × Value → H} {W : World} {r : Reach} {b0 : Nat} {v : Value} {d : DataW H} {p : List MemPlace} (hv : Value.okWide Try.prog W r b0 37 v)
    (h : DataW.Trod enc Try.prog W 0 (fun _ => true) true 37 v d p) :
    ∃ (a b : Int) (s : ByteArray), v = .agg (rv a b s).toArray ∧ RFit16 a b s := by
  obtain ⟨cs, rfl, hsz⟩ := okWide_struct Try.underlying37 hv
  have hC : Try.prog.cellsOf 37 = 3 := by kernel_rfl
  rw [hC] at hsz
  obtain ⟨l, rfl⟩ : ∃ l : List Value, cs = l.toArray := ⟨cs.toList, by simp⟩
  have hlen : l.length = 3 := by simpa using hsz
  obtain ⟨fuel, hf⟩ := h
  obtain ⟨xs, k, hk, hxy, _, hxl, hff⟩ := DataW.trod_struct Try.underlying37 hf
  match xs, hxl, l, hlen with
  | [y0, y1, y2], _, [v0, v1, v2], _ =>
    have t0 : Try.prog.cellsOf 29 = 1 := by kernel_rfl
    have g0 := hff 0 _ rfl
    have g1 := hff 1 _ rfl
    have g2 := hff 2 _ rfl
    simp [t0, c_i64, c_str, Value.cells] at g0 g1 g2
    obtain ⟨z0, q0, -, b0⟩ := DataW.trod_int Try.underlying29 g0
    obtain ⟨z1, q1, -, b1⟩ := DataW.trod_int Try.underlying2 g1
    obtain ⟨z2, q2, -, b2⟩ := DataW.trod_string Try.underlying9 g2
    simp at q0 q1 q2
    subst q0 q1 q2
    exact ⟨z0, z1, z2, rfl, j64_of b0, j64_of b1, b2⟩

theorem shown16 (w : World) : Calls Try.prog 8 #[] w fun e w' => e = .returned (.bool true) ∧ Below w.heap.size w w' := by
  have hE := fun (W : World) => Enc_any 2 3 0 0 { data := #[] } { data := #[] } (by decide) (by decide) (by decide) (by decide) W
  have h1 : encS 2 [3, 0, 0] [{ data := #[] }, { data := #[] }] = { data := #[2, 0, 0, 0, 0, 0, 0, 0, 3, 0, 0, 0, 0, 0, 0, 0] } := by decide +kernel
  have h2 : encE 2 [3, 0, 0] [{ data := #[] }, { data := #[] }] = 0 := by decide +kernel
  rw [h1, h2] at hE
  replace hE := W_hid hE
  go_enter Try.func8, Try.ntmps8
  go_wp2_with fail
  refine (hE.out w).mono ?_
  rintro e w1 ⟨rfl, bel⟩
  go_wp2_with fail
  go_ret
  exact ⟨rfl, bel⟩

set_option maxRecDepth 100000 in
set_option maxHeartbeats 2000000 in
theorem CallWords_walk (a b c d : Int) (s t : ByteArray) (w : World) (hf : CFit a b c d s t) :
    Calls Try.prog 3 #[.agg (cl a b c d s t).toArray] w fun e w' => e = .returned (.bool true) ∧ Below w.heap.size w w' := by
  obtain ⟨⟨i0, i1⟩, -, -, -, m0, m1⟩ := hf
  have hE := W_hid (fun W => Enc_any a b c d s t i0 i1 m0 m1 W)
  have hrE := W_hid (fun W => rEnc_any a b c d s t i0 i1 m0 m1 W)
  have hS := W_hid (fun W => Shape_any a i0 i1 W)
  have hrS := W_hid (fun W => rShape_any a i0 i1 W)
  generalize encS a [b, c, d] [s, t] = F at hE hrE
  generalize encE a [b, c, d] [s, t] = E at hE hrE
  generalize (shI a).getD ByteArray.empty = L at hS hrS
  generalize (shI a).isSome = q at hS hrS
  have hB : Blk (w.alloc (.cells (cl a b c d s t).toArray 25)) w.heap.size 25 (cl a b c d s t) := Blk.new w _ _ rfl
  have bb : Below w.heap.size w (w.alloc (.cells (cl a b c d s t).toArray 25)) := (Below.refl _ _).alloc (Nat.le_refl _) _
  unfold cl at *
  replace hB := W_hid hB
  replace bb := W_hid bb
  clear i0 i1 m0 m1
  go_enter Try.func3, Try.ntmps3
  go_wp2_with fail
  refine (shown16 _).mono ?_
  rintro e w1 ⟨rfl, bel1⟩
  replace hB := W_hid (hB.out.keep bel1)
  replace bb := W_hid (bb.out.trans (bel1.mono bb.out.size))
  have c0 := hB.out.cell (j := 0) rfl
  clear bel1
  go_wp2_with fail
  refine (hS.out _).mono ?_
  rintro e w2 ⟨rfl, bel2⟩
  replace hB := W_hid (hB.out.keep bel2)
  replace bb := W_hid (bb.out.trans (bel2.mono bb.out.size))
  clear c0
  have c0 := hB.out.cell (j := 0) rfl
  have c1 := hB.out.cell (j := 1) rfl
  have c2 := hB.out.cell (j := 2) rfl
  have c3 := hB.out.cell (j := 3) rfl
  have c4 := hB.out.cell (j := 4) rfl
  have c5 := hB.out.cell (j := 5) rfl
  clear bel2
  go_wp2_with fail
  refine (hrS.out _).mono ?_
  rintro e w3 ⟨rfl, hw3⟩
  subst hw3
  go_wp2_with fail
  refine (hE.out _).mono ?_
  rintro e w4 ⟨rfl, bel4⟩
  replace hB := W_hid (hB.out.keep bel4)
  replace bb := W_hid (bb.out.trans (bel4.mono bb.out.size))
  clear c0 c1 c2 c3 c4 c5
  have c0 := hB.out.cell (j := 0) rfl
  have c1 := hB.out.cell (j := 1) rfl
  have c2 := hB.out.cell (j := 2) rfl
  have c3 := hB.out.cell (j := 3) rfl
  have c4 := hB.out.cell (j := 4) rfl
  have c5 := hB.out.cell (j := 5) rfl
  clear bel4
  go_wp2_with fail
  refine (hrE.out _).mono ?_
  rintro e w5 ⟨rfl, bel5⟩
  go_wp2_with fail
  go_ret
  exact ⟨rfl, bb.out.trans (bel5.mono bb.out.size)⟩

set_option maxRecDepth 100000 in
theorem CallWords_lifted (os : Os) (started : os.Started) (H : Type) (enc : TypeId × Value → H) :
    ReturnsInHanded {} Try.checked os 3 .any (Rows.callWordsSpec.pre6 enc Try.prog Try.f3 Rows.callWordsRow.domain false) (Rows.callWordsSpec.post enc Try.prog Try.f3 false true false false) := by
  refine returnsInHanded_of_change (C := Try.checked) (by kernel_rfl) started (by kernel_rfl) Try.func3
    (ChangeSpec.witness6 (enc := enc) (C := Try.checked) false ⟨#[], #[.agg #[.int .i64 0, .int .i64 0, .int .i64 0, .int .i64 0, .string ByteArray.empty, .string ByteArray.empty]], []⟩ 8 (by kernel_rfl) (by kernel_rfl) (by kernel_rfl) (by kernel_rfl)) ?_
  intro W base args ds gs before hval0 hW hcnd _
  have hval : ∀ (j : Nat) t v, Try.f3.params[j]? = some t → args[j]? = some v → Value.okWide Try.prog W .any base t v := hval0
  have hW' := hW
  obtain ⟨p, q, hA0, hV, rfl, hfz, hnd⟩ := hW
  have hA : DataW.TrodAll enc Try.prog W 0 (fun _ => true) true Try.f3.params.toList args.toList ds p := hA0
  rw [Try.params3] at hA hval
  obtain ⟨v0, vs0, d0, ds0, p0, q0, hargs, rfl, rfl, h0, r0⟩ := trodAll_cons hA
  obtain ⟨rfl, rfl, rfl⟩ := trodAll_nil r0
  obtain rfl : args = #[v0] := by cases args; simp_all
  obtain ⟨rfl, rfl⟩ := trodVars_none hV
  have k0 := h0
  have lt0 : ∀ x ∈ p0, x.block < W.heap.size := by obtain ⟨m, hm⟩ := k0; exact DataW.trod_lt m _ _ _ hm
  obtain ⟨a0, b0, c0, d0, s0, t0, rfl, w0⟩ := open_call (hval 0 25 v0 rfl rfl) h0
  clear hA0 hval0
  refine (CallWords_walk a0 b0 c0 d0 s0 t0 W w0).mono fun e W' ⟨he, bel⟩ => ?_
  subst he
  exact ⟨_, rfl, _, _, _, [], _, [], hW', trodAll_mk1 (shut_bool Try.underlying4 _), (trodAll_cons_mk (Below.trod laidOut (by kernel_rfl) (of_decide_eq_true (by kernel_rfl)) k0 bel lt0) trodAll_mk0), rfl, bel.frame _, fun h => by cases h⟩

/-- The given statement of CallWords. -/
theorem CallWords_holds : Rows.CallWordsSaid :=
  OpenClaim.holds_of_wide 3 Try.f3 rfl rfl rfl rfl rfl rfl rfl ⟨rfl, rfl, rfl, rfl, rfl⟩ rfl rfl rfl rfl rfl (by kernel_rfl) Try.func3 (by kernel_rfl)
    (of_decide_eq_true (by kernel_rfl)) (by unfold Func.isWrapper; first | (rw [if_pos (by decide +kernel)]; kernel_rfl) | (rw [if_neg (by decide +kernel)]; exact ⟨rfl, rfl⟩))
    (fun os started H enc _ => CallWords_lifted os started H enc)

end Go.Proofs.Ytmhikoblaejhhaa

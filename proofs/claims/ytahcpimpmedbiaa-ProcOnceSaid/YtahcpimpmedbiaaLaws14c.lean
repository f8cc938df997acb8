/- The law ProcOnce of layer 14 (package haywardlaw14): for every input it returns true, and its arguments read as before. No further condition. -/
import Derived.Test.YtahcpimpmedbiaaLaws14b
import Derived.ChangeOld
import Derived.ShutString
namespace Go.Proofs.Ytahcpimpmedbiaa
open Go.ChangeShapes Go.WideShapes Go.ChangeAt Go.RowKit Go.Maps
set_option linter.unusedVariables false
set_option linter.unusedSimpArgs false
set_option maxRecDepth 100000
open PC
open IS (I64)
open IN (Keeps lt_of_some)

set_option maxRecDepth 100000 in
set_option maxHeartbeats 8000000 in
theorem ProcOnce_walk (o0 : Option Addr) (n0 c0 : Nat) (l0 : List OpT14) (a1 a2 : Int) (w : World) (w0 : OS14 w o0 n0 c0 l0) (w1 : (Lit.int .i64 a1).wf = true) (w2 : (Lit.int .i64 a2).wf = true) :
    Calls Try.prog 5 #[.slice o0 n0 c0, .int .i64 a1, .int .i64 a2] w fun e w' => e = .returned (.bool true) ∧ Below w.heap.size w w' := by
  have ha1 : I64 a1 := ⟨by have := bounds_i64 w1; omega, by have := bounds_i64 w1; omega⟩
  clear w1 w2
  have cS := W_hid (shown14 w)
  go_enter Try.func5, Try.ntmps5
  go_wp2_with fail
  refine cS.out.mono ?_
  rintro e w1 ⟨rfl, b1⟩
  have cR := W_hid (ran14 o0 n0 c0 l0 w1 (os_keep w0 b1) w.heap.size w b1 b1.size)
  clear cS w0 b1
  go_wp2_with fail
  refine cR.out.mono ?_
  rintro e w2 ⟨tb, L, rfl, h2, -⟩
  have hG := h2.good
  clear cR
  have cP := W_hid (h2.Spawn a1 0 ha1)
  replace h2 := W_hid h2
  replace hG := W_hid hG
  go_wp2_with fail
  rcases spawnR_cases 8 L a1 0 with ⟨er, her, hR⟩ | ⟨hr, hl, hR⟩
  · rw [hR] at cP
    have hne2 : (er != 0) = true := by rcases her with rfl | rfl | rfl <;> rfl
    refine cP.out.mono ?_
    rintro e w4 ⟨rfl, h4, -⟩
    have hB := W_hid h4.bel
    clear h4 cP her hR
    go_wp2_with fail
    go_ret
    exact ⟨rfl, hB.out⟩
  · rw [hR] at cP
    obtain ⟨L2, L3, t1, t2, t3, t4, t5⟩ := told_once hG.out a2 hr hl
    have hI : I64 ((low L : Int) + 1) := by have := low_le L; have := hG.out.len; exact ⟨by omega, by omega⟩
    obtain ⟨n, hn⟩ : ∃ n : Int, (low L : Int) + 1 = n := ⟨_, rfl⟩
    simp only [hn] at cP t1 t2 t3 t4 t5 hI
    refine cP.out.mono ?_
    rintro e w3 ⟨rfl, h3, -⟩
    have c1 := W_hid (h3.Wait a1 n ha1)
    rw [t1] at c1
    simp only [prow, zeroP] at c1
    clear h3 cP hR hr hl
    go_wp2_with fail
    refine c1.out.mono ?_
    rintro e w4 ⟨rfl, h4, -⟩
    have h4a := h4.alloc (.cells #[.int .i64 0, .int .i64 0, .int .i64 0, .int .i64 0, .int .i64 0] 43)
    have c2 := W_hid (h4a.Exit n a2 hI)
    rw [t2] at c2
    clear h4 h4a c1
    go_wp2_with fail
    refine c2.out.mono ?_
    rintro e w5 ⟨rfl, h5, -⟩
    have c3 := W_hid (h5.Wait a1 n ha1)
    rw [t3] at c3
    simp only [prow] at c3
    clear h5 c2
    go_wp2_with fail
    refine c3.out.mono ?_
    rintro e w6 ⟨rfl, h6, -⟩
    have h6a := (h6.less (Z' := fun _ => False) (fun k hk => hk.elim)).alloc (.cells #[.int .i64 n, .int .i64 a1, .int .i64 2, .int .i64 a2, .int .i64 0] 43)
    have hx6 : Hid (Blk (w6.alloc (.cells #[.int .i64 n, .int .i64 a1, .int .i64 2, .int .i64 a2, .int .i64 0] 43)) w6.heap.size 43 (fv n a1 2 a2 0)) := W_hid (Blk.new w6 43 (fv n a1 2 a2 0) rfl)
    have c4 := W_hid (h6a.Wait a1 n ha1)
    rw [t4] at c4
    simp only [prow, zeroP] at c4
    clear h6 h6a c3
    go_wp2_with fail
    refine c4.out.mono ?_
    rintro e w7 ⟨rfl, h7, hz7⟩
    have hx7 : Blk w7 w6.heap.size 43 (fv n a1 2 a2 0) := (hz7 _ (.inr rfl)).trans hx6.out
    have h7a := h7.alloc (.cells #[.int .i64 0, .int .i64 0, .int .i64 0, .int .i64 0, .int .i64 0] 43)
    have hx7a := W_hid (hx7.alloc (.cells #[.int .i64 0, .int .i64 0, .int .i64 0, .int .i64 0, .int .i64 0] 43))
    have c5 := W_hid (h7a.Get n hI)
    rw [t5] at c5
    simp only [prow, zeroP] at c5
    clear h7 h7a hz7 hx7 c4 hx6
    go_wp2_with fail
    refine c5.out.mono ?_
    rintro e w8 ⟨rfl, h8, hz8⟩
    have hx8 : Blk w8 w6.heap.size 43 (fv n a1 2 a2 0) := (hz8 _ (.inl (.inr rfl))).trans hx7a.out
    have h8a := h8.alloc (.cells #[.int .i64 0, .int .i64 0, .int .i64 0, .int .i64 0, .int .i64 0] 43)
    have hx8a := hx8.alloc (.cells #[.int .i64 0, .int .i64 0, .int .i64 0, .int .i64 0, .int .i64 0] 43)
    have hB := W_hid h8a.bel
    have s0 := hx8a.cell (j := 0) rfl
    have s1 := hx8a.cell (j := 1) rfl
    have s3 := hx8a.cell (j := 3) rfl
    clear h8 h8a hz8 hx8 c5 hx7a hx8a t1 t2 t3 t4 t5
    go_wp2_with fail
    go_ret
    exact ⟨rfl, hB.out⟩
set_option maxRecDepth 100000 in
theorem ProcOnce_lifted (os : Os) (started : os.Started) (H : Type) (enc : TypeId × Value → H) :
    ReturnsInHanded {} Try.checked os 5 .any (Rows.procOnceSpec.pre6 enc Try.prog Try.f5 Rows.procOnceRow.domain false) (Rows.procOnceSpec.post enc Try.prog Try.f5 false true false false) := by
  refine returnsInHanded_of_change (C := Try.checked) (by kernel_rfl) started (by kernel_rfl) Try.func5
    (ChangeSpec.witness6 (enc := enc) (C := Try.checked) false ⟨#[], #[.slice none 0 0, .int .i64 0, .int .i64 0], []⟩ 8 (by kernel_rfl) (by kernel_rfl) (by kernel_rfl) (by kernel_rfl)) ?_
  intro W base args ds gs before hval0 hW hcnd _
  have hval : ∀ (j : Nat) t v, Try.f5.params[j]? = some t → args[j]? = some v → Value.okWide Try.prog W .any base t v := hval0
  have hW' := hW
  obtain ⟨p, q, hA0, hV, rfl, hfz, hnd⟩ := hW
  have hA : DataW.TrodAll enc Try.prog W 0 (fun _ => true) true Try.f5.params.toList args.toList ds p := hA0
  rw [Try.params5] at hA hval
  obtain ⟨v0, vs0, d0, ds0, p0, q0, hargs, rfl, rfl, h0, r0⟩ := trodAll_cons hA
  obtain ⟨v1, vs1, d1, ds1, p1, q1, rfl, rfl, rfl, h1, r1⟩ := trodAll_cons r0
  obtain ⟨v2, vs2, d2, ds2, p2, q2, rfl, rfl, rfl, h2, r2⟩ := trodAll_cons r1
  obtain ⟨rfl, rfl, rfl⟩ := trodAll_nil r2
  obtain rfl : args = #[v0, v1, v2] := by cases args; simp_all
  obtain ⟨rfl, rfl⟩ := trodVars_none hV
  have k0 := h0
  have lt0 : ∀ x ∈ p0, x.block < W.heap.size := by obtain ⟨m, hm⟩ := k0; exact DataW.trod_lt m _ _ _ hm
  obtain ⟨o0, n0, c0, l0, rfl, w0⟩ := open_ops14 (hval 0 22 v0 rfl rfl) h0
  obtain ⟨a1, rfl, rfl, rfl, w1⟩ := open_int Try.underlying3 (hval 1 3 v1 rfl rfl) h1
  obtain ⟨a2, rfl, rfl, rfl, w2⟩ := open_int Try.underlying3 (hval 2 3 v2 rfl rfl) h2
  clear hA0 hval0
  refine (ProcOnce_walk o0 n0 c0 l0 a1 a2 W w0 w1 w2).mono fun e W' ⟨he, bel⟩ => ?_
  subst he
  exact ⟨_, rfl, _, _, _, [], _, [], hW', trodAll_mk1 (shut_bool Try.underlying4 _), (trodAll_cons_mk (Below.trod laidOut (by kernel_rfl) (of_decide_eq_true (by kernel_rfl)) k0 bel lt0) (trodAll_cons_mk (shut_int Try.underlying3 w1) (trodAll_cons_mk (shut_int Try.underlying3 w2) trodAll_mk0))), rfl, bel.frame _, fun h => by cases h⟩

/-- The given statement of ProcOnce. -/
theorem ProcOnce_holds : Rows.ProcOnceSaid :=
  OpenClaim.holds_of_wide 5 Try.f5 rfl rfl rfl rfl rfl rfl rfl ⟨rfl, rfl, rfl, rfl, rfl⟩ rfl rfl rfl rfl rfl (by kernel_rfl) Try.func5 (by kernel_rfl)
    (of_decide_eq_true (by kernel_rfl)) (by unfold Func.isWrapper; first | (rw [if_pos (by decide +kernel)]; kernel_rfl) | (rw [if_neg (by decide +kernel)]; exact ⟨rfl, rfl⟩))
    (fun os started H enc _ => ProcOnce_lifted os started H enc)


end Go.Proofs.Ytahcpimpmedbiaa

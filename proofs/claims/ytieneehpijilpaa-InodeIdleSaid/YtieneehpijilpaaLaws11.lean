/- The laws of layer 11 (package haywardlaw11), the first part: what they share, and InodeNone: for every input it returns true, and its arguments read as before. No further condition. -/
import Derived.Test.YtieneehpijilpaaInoMake
import Derived.Test.YtieneehpijilpaaInoNil
import Derived.ShutString
import Derived.ChangeOld
namespace Go.Proofs.Ytieneehpijilpaa
open Go.ChangeShapes Go.WideShapes Go.ChangeAt Go.RowKit
open Go.ChangeMaps (open_string shut_string)
set_option linter.unusedVariables false
set_option linter.unusedSimpArgs false

namespace IN
theorem opR_some {S : Int → Option Nd} {n : Int} {d : Nd} (h : S n = some d) : opR S n = 0 := by simp [opR, askR, h]
theorem opR_none {S : Int → Option Nd} {n : Int} (h : S n = none) : opR S n = 11 := by simp [opR, askR, h]
theorem opS_at {S : Int → Option Nd} {n : Int} {d : Nd} (h : S n = some d) : opS S n n = some { d with opens := d.opens + 1 } := by simp [opS, h, upd_at]
theorem ulR_some {S : Int → Option Nd} {n : Int} {d : Nd} (h : S n = some d) (hl : 0 < d.links) : ulR S n = 0 := by simp [ulR, askR, h, hl]
theorem ulS_at {S : Int → Option Nd} {n : Int} {d : Nd} (h : S n = some d) (hl : 0 < d.links) : ulS S n n = if d.links = 1 ∧ d.opens = 0 then none else some { d with links := d.links - 1 } := by
  unfold ulS
  rw [h]
  simp only
  rw [if_pos hl]
  unfold gone
  rw [upd_at]
  simp only
  by_cases e : d.links = 1 ∧ d.opens = 0
  · rw [if_pos (by omega), if_pos e, upd_at]
  · rw [if_neg (by omega), if_neg e, upd_at]
theorem clR_some {S : Int → Option Nd} {n : Int} {d : Nd} (h : S n = some d) (hl : 0 < d.opens) : clR S n = 0 := by simp [clR, askR, h, hl]
theorem clS_at {S : Int → Option Nd} {n : Int} {d : Nd} (h : S n = some d) (hl : 0 < d.opens) : clS S n n = if d.links = 0 ∧ d.opens = 1 then none else some { d with opens := d.opens - 1 } := by
  unfold clS
  rw [h]
  simp only
  rw [if_pos hl]
  unfold gone
  rw [upd_at]
  simp only
  by_cases e : d.links = 0 ∧ d.opens = 1
  · rw [if_pos (by omega), if_pos e, upd_at]
  · rw [if_neg (by omega), if_neg e, upd_at]
theorem stV_some {S : Int → Option Nd} {n : Int} {d : Nd} (h : S n = some d) : stV S n = stl n d := by simp [stV, h]
theorem stV_none {S : Int → Option Nd} {n : Int} (h : S n = none) : stV S n = zl := by simp [stV, h]
theorem lst_none (I : Nat) : lst (fun _ => none) I = [] := List.eq_nil_iff_forall_not_mem.2 fun x hx => by have := (mem_lst.1 hx).2.2; cases this
theorem low_none : Low (fun _ => none) 1 := ⟨Nat.le_refl _, rfl, fun m a b => by omega⟩
theorem i64_one : IS.I64 1 := ⟨by decide, by decide⟩
theorem below_keeps {B : Nat} {T : Obj → Prop} {w w' : World} (h : Keeps B T w w') : Below B w w' := h.below (Nat.le_refl _)
theorem ret_errno {r r' : Int} {e : Ending} (h : e = .returned (.int .i64 r)) (hr : r = r') : e = .returned (.int .i64 r') := by rw [h, hr]

set_option maxRecDepth 100000 in
set_option maxHeartbeats 8000000 in
theorem shown_any (w : World) : Calls Try.prog 9 #[] w fun e w' => e = .returned (.bool true) ∧ Below w.heap.size w w' := by
  have cN := W_hid (New_yes 2 10 2 0 0 0 0 w (by unfold Right; omega))
  have cap : ∀ w, (Instr.build 23 #[(0, .int .i64 2), (1, .int .i64 10), (2, .int .i64 2)]).run Try.prog w = .ok (cap7 2 10 2 0 0 0 0) w := fun w => by kernel_rfl
  go_enter Try.func9, Try.ntmps9
  go_wp2_with fail
  refine cN.out.mono ?_
  rintro e w1 ⟨sg, mb, M, rfl, hP, b1⟩
  have cM := W_hid (Make_yes 1 1 w1 hP (by unfold mkR; rw [lst_none]; decide) low_none (by decide) (by decide))
  clear hP cN
  go_wp2_with fail
  refine cM.out.mono ?_
  rintro e w2 ⟨rfl, ⟨M2, hP2⟩, k2⟩
  have b2 := W_hid (b1.trans (below_keeps k2))
  obtain ⟨S1, hS1⟩ : ∃ S1, upd (fun _ => none) ((1 : Nat) : Int) (some (newNd 1)) = S1 := ⟨_, rfl⟩
  have s1 : S1 1 = some { kind := 1, links := 1, opens := 0, size := 0, l := [] } := by rw [← hS1]; rfl
  rw [hS1] at hP2
  have cO := Open_any 1 w2 hP2 i64_one (by decide)
  rw [opR_some s1] at cO
  have s2 := opS_at s1
  obtain ⟨S2, hS2⟩ : ∃ S2, opS S1 1 = S2 := ⟨_, rfl⟩
  rw [hS2] at cO s2
  replace cO := W_hid cO
  clear hP2 cM k2 b1 hS1 hS2
  go_wp2_with fail
  refine cO.out.mono ?_
  rintro e w3 ⟨rfl, ⟨M3, hP3⟩, k3⟩
  have b3 := W_hid (b2.out.trans (below_keeps k3))
  have cU := Unlink_any 1 w3 hP3 i64_one (by decide)
  rw [ulR_some s2 (by decide)] at cU
  have s3 := ulS_at s2 (by decide)
  rw [if_neg (by decide)] at s3
  obtain ⟨S3, hS3⟩ : ∃ S3, ulS S2 1 = S3 := ⟨_, rfl⟩
  rw [hS3] at cU s3
  replace cU := W_hid cU
  clear hP3 cO k3 b2 hS3
  go_wp2_with fail
  refine cU.out.mono ?_
  rintro e w4 ⟨rfl, ⟨M4, hP4⟩, k4⟩
  have b4 := W_hid (b3.out.trans (below_keeps k4))
  have cT := Stat_any 1 w4 hP4 i64_one
  have e0 : stV S3 1 = [.int .i64 1, .int .i64 1, .int .i64 0, .int .i64 1, .int .i64 0, .int .i64 0] := by rw [stV_some s3]; rfl
  rw [opR_some s3, e0] at cT
  replace cT := W_hid cT
  replace hP4 := W_hid hP4
  clear cU k4 b3 e0
  go_wp2_with fail
  refine cT.out.mono ?_
  rintro e w5 ⟨rfl, b5⟩
  have b6 := b5.alloc b5.size (.cells #[.int .i64 1, .int .i64 1, .int .i64 0, .int .i64 1, .int .i64 0, .int .i64 0] 41)
  have hx := Blk.new w5 41 [.int .i64 1, .int .i64 1, .int .i64 0, .int .i64 1, .int .i64 0, .int .i64 0] rfl
  have hP5 := hP4.out.keep b6
  have b7 := W_hid (b4.out.trans (b6.mono b4.out.size))
  have cC := Close_any 1 _ hP5 i64_one (by decide)
  rw [clR_some s3 (by decide)] at cC
  have s4 := clS_at s3 (by decide)
  rw [if_pos (by decide)] at s4
  obtain ⟨S4, hS4⟩ : ∃ S4, clS S3 1 = S4 := ⟨_, rfl⟩
  rw [hS4] at cC s4
  replace cC := W_hid cC
  replace hx := W_hid hx
  clear cT hP4 hP5 b6 b4 hS4
  go_wp2_with fail
  refine cC.out.mono ?_
  rintro e w6 ⟨rfl, ⟨M5, hP6⟩, k6⟩
  have b8 := W_hid (b7.out.trans ((below_keeps k6).mono (Nat.le_refl _)))
  have hx6 : Blk w6 w5.heap.size 41 [.int .i64 1, .int .i64 1, .int .i64 0, .int .i64 1, .int .i64 0, .int .i64 0] := k6.block _ _ hx.out (by simp [PT])
  have y3 := hx6.cell (j := 3) rfl
  have cT := Stat_any 1 w6 hP6 i64_one
  rw [opR_none s4, stV_none s4] at cT
  simp only [zl] at cT
  replace cT := W_hid cT
  replace hx6 := W_hid hx6
  clear cC k6 b7 hP6
  go_wp2_with fail
  refine cT.out.mono ?_
  rintro e w7 ⟨rfl, b9⟩
  have y3 := ((hx6.out.keep b9).alloc (.cells #[.int .i64 0, .int .i64 0, .int .i64 0, .int .i64 0, .int .i64 0, .int .i64 0] 41)).cell (j := 3) rfl
  have b10 := W_hid (b8.out.trans ((b9.alloc b9.size (.cells #[.int .i64 0, .int .i64 0, .int .i64 0, .int .i64 0, .int .i64 0, .int .i64 0] 41)).mono b8.out.size))
  clear cT b8 b9
  go_wp2_with fail
  go_ret
  exact ⟨rfl, b10.out⟩
end IN

set_option maxRecDepth 100000 in
set_option maxHeartbeats 8000000 in
theorem InodeNone_walk (a0 a1 : Int) (a2 : ByteArray) (w : World) (w0 : (Lit.int .i64 a0).wf = true) (w1 : (Lit.int .i64 a1).wf = true) (w2 : a2.size ≤ maxLen) :
    Calls Try.prog 7 #[.int .i64 a0, .int .i64 a1, .string a2] w fun e w' => e = .returned (.bool true) ∧ Below w.heap.size w w' := by
  have cS := W_hid (IN.shown_any w)
  go_enter Try.func7, Try.ntmps7
  go_wp2_with fail
  refine cS.out.mono ?_
  rintro e x1 ⟨rfl, b1⟩
  have b1 := W_hid b1
  go_wp2_with fail
  refine (IN.Make_nil a0 x1).mono ?_
  rintro e x2 ⟨rfl, b2⟩
  have b2 := W_hid (b1.out.trans (b2.mono b1.out.size))
  go_wp2_with fail
  refine (IN.Read_nil a0 a1 a1 x2).mono ?_
  rintro e x3 ⟨rfl, b3⟩
  have b3 := W_hid (b2.out.trans (b3.mono b2.out.size))
  have cT := IN.Stat_nil a0 x3
  simp only [IN.zl] at cT
  have cT := W_hid cT
  go_wp2_with fail
  refine cT.out.mono ?_
  rintro e x4 ⟨rfl, b4⟩
  have b4 := W_hid (b3.out.trans ((b4.alloc b4.size (.cells #[.int .i64 0, .int .i64 0, .int .i64 0, .int .i64 0, .int .i64 0, .int .i64 0] 41)).mono b3.out.size))
  go_wp2_with fail
  refine (IN.Link_nil a0 _).mono ?_
  rintro e x5 ⟨rfl, b5⟩
  have b5 := W_hid (b4.out.trans (b5.mono b4.out.size))
  go_wp2_with fail
  refine (IN.Unlink_nil a0 _).mono ?_
  rintro e x6 ⟨rfl, b6⟩
  have b6 := W_hid (b5.out.trans (b6.mono b5.out.size))
  go_wp2_with fail
  refine (IN.Open_nil a0 _).mono ?_
  rintro e x7 ⟨rfl, b7⟩
  have b7 := W_hid (b6.out.trans (b7.mono b6.out.size))
  go_wp2_with fail
  refine (IN.Close_nil a0 _).mono ?_
  rintro e x8 ⟨rfl, b8⟩
  have b8 := W_hid (b7.out.trans (b8.mono b7.out.size))
  go_wp2_with fail
  refine (IN.Write_nil a0 a1 a2 _).mono ?_
  rintro e x9 ⟨rfl, b9⟩
  have b9 := W_hid (b8.out.trans (b9.mono b8.out.size))
  go_wp2_with fail
  refine (IN.Trunc_nil a0 a1 _).mono ?_
  rintro e x10 ⟨rfl, b10⟩
  have b10 := W_hid (b9.out.trans (b10.mono b9.out.size))
  go_wp2_with fail
  refine (IN.All_nil _).mono ?_
  rintro e x11 ⟨rfl, b11⟩
  have b11 := W_hid (b10.out.trans (b11.mono b10.out.size))
  go_wp2_with fail
  go_ret
  exact ⟨rfl, b11.out⟩

set_option maxRecDepth 100000 in
theorem InodeNone_lifted (os : Os) (started : os.Started) (H : Type) (enc : TypeId × Value → H) :
    ReturnsInHanded {} Try.checked os 7 .any (Rows.inodeNoneSpec.pre6 enc Try.prog Try.f7 Rows.inodeNoneRow.domain false) (Rows.inodeNoneSpec.post enc Try.prog Try.f7 false true false false) := by
  refine returnsInHanded_of_change (C := Try.checked) (by kernel_rfl) started (by kernel_rfl) Try.func7
    (ChangeSpec.witness6 (enc := enc) (C := Try.checked) false ⟨#[], #[.int .i64 0, .int .i64 0, .string ByteArray.empty], []⟩ 8 (by kernel_rfl) (by kernel_rfl) (by kernel_rfl) (by kernel_rfl)) ?_
  intro W base args ds gs before hval0 hW hcnd _
  have hval : ∀ (j : Nat) t v, Try.f7.params[j]? = some t → args[j]? = some v → Value.okWide Try.prog W .any base t v := hval0
  have hW' := hW
  obtain ⟨p, q, hA0, hV, rfl, hfz, hnd⟩ := hW
  have hA : DataW.TrodAll enc Try.prog W 0 (fun _ => true) true Try.f7.params.toList args.toList ds p := hA0
  rw [Try.params7] at hA hval
  obtain ⟨v0, vs0, d0, ds0, p0, q0, hargs, rfl, rfl, h0, r0⟩ := trodAll_cons hA
  obtain ⟨v1, vs1, d1, ds1, p1, q1, rfl, rfl, rfl, h1, r1⟩ := trodAll_cons r0
  obtain ⟨v2, vs2, d2, ds2, p2, q2, rfl, rfl, rfl, h2, r2⟩ := trodAll_cons r1
  obtain ⟨rfl, rfl, rfl⟩ := trodAll_nil r2
  obtain rfl : args = #[v0, v1, v2] := by cases args; simp_all
  obtain ⟨rfl, rfl⟩ := trodVars_none hV
  obtain ⟨a0, rfl, rfl, rfl, w0⟩ := open_int Try.underlying3 (hval 0 3 v0 rfl rfl) h0
  obtain ⟨a1, rfl, rfl, rfl, w1⟩ := open_int Try.underlying2 (hval 1 2 v1 rfl rfl) h1
  obtain ⟨a2, rfl, rfl, rfl, w2⟩ := open_string Try.underlying9 (hval 2 9 v2 rfl rfl) h2
  clear hA0 hval0
  refine (InodeNone_walk a0 a1 a2 W w0 w1 w2).mono fun e W' ⟨he, bel⟩ => ?_
  subst he
  exact ⟨_, rfl, _, _, _, [], _, [], hW', trodAll_mk1 (shut_bool Try.underlying4 _), (trodAll_cons_mk (shut_int Try.underlying3 w0) (trodAll_cons_mk (shut_int Try.underlying2 w1) (trodAll_cons_mk (shut_string Try.underlying9 w2) trodAll_mk0))), rfl, bel.frame _, fun h => by cases h⟩

/-- The given statement of InodeNone. -/
theorem InodeNone_holds : Rows.InodeNoneSaid :=
  OpenClaim.holds_of_wide 7 Try.f7 rfl rfl rfl rfl rfl rfl rfl ⟨rfl, rfl, rfl, rfl, rfl⟩ rfl rfl rfl rfl rfl (by kernel_rfl) Try.func7 (by kernel_rfl)
    (of_decide_eq_true (by kernel_rfl)) (by unfold Func.isWrapper; first | (rw [if_pos (by decide +kernel)]; kernel_rfl) | (rw [if_neg (by decide +kernel)]; exact ⟨rfl, rfl⟩))
    (fun os started H enc _ => InodeNone_lifted os started H enc)
end Go.Proofs.Ytieneehpijilpaa

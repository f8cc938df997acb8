/- The law SpaceNone of layer 10 (package haywardlaw10): for every input it returns true, and its arguments read as before. What the row lists of package variables is tied to the program's text by the card; no further condition. -/
import Derived.Test.YtkomahekdcaiaaaGreatDoorZS05
import Derived.Test.YtkomahekdcaiaaaGreatDoorZS04
import Derived.Test.YtkomahekdcaiaaaGreatDoorZS01
import Derived.ProofKit
import Derived.LaidMore
import Derived.OpenShut
import Derived.Stop.Joined
import Derived.MakeChecks
import Derived.Test.YtkomahekdcaiaaaGreatDoorTie
import Derived.Test.YtkomahekdcaiaaaGreatDoorCards
import Derived.SevenTiedAt
import Derived.ShutString
import Derived.ChangeOld
import Derived.Lib.SmallJoins

/- Contracts of package space: create, in every case; Mmap. -/
namespace Go.Proofs.YtkomahekdcaiaaaGreatDoor
open Go.ChangeShapes Go.WideShapes Go.ChangeAt Go.RowKit Go.Shelf
open SQ SB
set_option linter.unusedVariables false
set_option linter.unusedSimpArgs false
attribute [local go_sem] Oper.semAt_some
open RG (Rg)

/-- What create does: all pages are laid, or none. -/
inductive CrR (g pg pb n m r b : Nat) (x : Rg) (L : List Rg) (S : TS) : Int → List Rg → TS → Prop
  | all (Y : Nat → TS) (h0 : Y 0 = S) (hY : ∀ i va, i < (stF x.f x.t (stp x.k)).length → (stF x.f x.t (stp x.k))[i]? = some va → LayC g pg pb n m r b x.p x.k va (Y i) 0 (Y (i + 1))) : CrR g pg pb n m r b x L S 0 (adL L x) (Y (stF x.f x.t (stp x.k)).length)
  | no (j : Nat) (c : Int) (va : Nat) (Y : Nat → TS) (hc : c ≠ 0) (h0 : Y 0 = S) (hj : (stF x.f x.t (stp x.k))[j]? = some va) (hY : ∀ i va, i < j → (stF x.f x.t (stp x.k))[i]? = some va → LayC g pg pb n m r b x.p x.k va (Y i) 0 (Y (i + 1)))
      (hno : LayC g pg pb n m r b x.p x.k va (Y j) c (Y j)) : CrR g pg pb n m r b x L S c L S
theorem create_is {g pg pb n m r b : Nat} {x : Rg} {L : List Rg} {S : TS} {w : World} (hI : SpI r n S) (hF : FS g pg pb n m r b S w) (hf : x.f < 281474976710656) (ht : x.t < 281474976710656) :
    ∃ c L' S', CrR g pg pb n m r b x L S c L' S' := by
  have hst := stp_pos x.k
  obtain ⟨j, c, Y, hj, hY0, hY, -, hend⟩ := lays_S x.p x.k (stF x.f x.t (stp x.k)) (fun v hv => by
    obtain ⟨i, hi, rfl⟩ := List.getElem_of_mem hv
    have h1 := stF_at x.f x.t (stp x.k) i hi
    have h2 := (stF_lt x.f x.t (stp x.k) i hst).1 hi
    rw [List.getElem?_eq_getElem hi] at h1
    rw [Option.some.inj h1]
    omega) hF
  rcases hend with ⟨rfl, rfl⟩ | ⟨hc, va, hva, hC⟩
  · exact ⟨_, _, _, .all Y hY0 hY⟩
  · exact ⟨_, _, _, .no j c va Y hc hY0 hva hY hC⟩
theorem CrR.good {g pg pb n m r b : Nat} {x : Rg} {L L' : List Rg} {S S' : TS} {c : Int} {w : World} (h : CrR g pg pb n m r b x L S c L' S') (hI : SpI r n S) (hF : FS g pg pb n m r b S w) (hf : x.f < 281474976710656) : SpI r n S' := by
  cases h with
  | all Y h0 hY =>
    subst h0
    exact (vac_back hI hF hf (Nat.le_refl _) hY).1
  | no j c va Y hc h0 hj hY hno => exact hI
/-- The call of create. -/
theorem create_go (g pg pb n m r b s cap : Nat) (x : Rg) (c : Int) (S S' : TS) (L L' : List Rg) (ao : Option Addr) (w : World) (h : SM g pg pb n m r b s S L ao cap w) (hI : SpI r n S) (hf : x.f < 281474976710656) (ht : x.t < 281474976710656)
    (hR : CrR g pg pb n m r b x L S c L' S') :
    Calls Tryz.prog 54 #[.pointer (some ⟨s, 0, none⟩), .agg #[.int .u64 (x.f : Int), .int .u64 (x.t : Int), .int .i64 x.p, .int .i64 x.k]] w fun e w' => e = .returned (.int .i64 c) ∧ SO g pg pb n m r b s S' L' w w' := by
  obtain ⟨f, t, p, kd⟩ := x
  cases hR with
  | all Y h0 hY => exact create_any g pg pb n m r b s f t cap _ p kd 0 S _ L _ ao Y w h ht (Nat.le_refl _) h0 hY (.inl ⟨rfl, rfl, rfl, rfl⟩)
  | no j c va Y hc h0 hj hY hno =>
    subst h0
    have hjl : j < (stF f t (stp kd)).length := (List.getElem?_eq_some_iff.1 hj).1
    exact create_any g pg pb n m r b s f t cap j p kd c _ _ L _ ao Y w h ht (Nat.le_of_lt hjl) rfl hY (.inr ⟨hc, ⟨va, hj, hno⟩, (vac_back hI h.fs hf (Nat.le_of_lt hjl) hY).2, rfl⟩)

/-- Sound arguments of Mmap. -/
def mmOk (size : Nat) (p : Int) : Prop := 1 ≤ size ∧ size ≤ 1099511627776 ∧ EN.perms p
noncomputable def mmV (L : List Rg) (kd : Int) (size : Nat) : Nat := gpV L (upTo 65536 (stp kd)) 1099511627776 (upTo size (stp kd)) (stp kd)
noncomputable def mmE (L : List Rg) (kd : Int) (size : Nat) : Int := gpE L (upTo 65536 (stp kd)) 1099511627776 (upTo size (stp kd)) (stp kd)
noncomputable def mmX (L : List Rg) (kd : Int) (size : Nat) (p : Int) : Rg := ⟨mmV L kd size, mmV L kd size + upTo size (stp kd), p, kd⟩
theorem gap_in {l : List Rg} {lo hi sz st : Nat} (h : gpE l lo hi sz st = 0) : gpV l lo hi sz st + sz ≤ hi := by
  unfold gpE at h
  unfold gpV
  split at h
  · rename_i hok
    rw [if_pos hok]
    unfold RG.gq at h ⊢
    split at h
    · rename_i hs
      rw [if_pos hs]
      unfold RG.fits at hs
      simp only [Option.getD_some]
      omega
    · simp at h
  · simp at h
/-- What Mmap does. -/
inductive MmR (g pg pb n m r b : Nat) (L : List Rg) (S : TS) (size : Nat) (p kd : Int) : Int → Nat → List Rg → TS → Prop
  | arg (h : ¬ mmOk size p) : MmR g pg pb n m r b L S size p kd 2 0 L S
  | full (h : mmOk size p) (hg : mmE L kd size ≠ 0) : MmR g pg pb n m r b L S size p kd (mmE L kd size) 0 L S
  | no (h : mmOk size p) (hg : mmE L kd size = 0) (c : Int) (hc : c ≠ 0) (L' : List Rg) (S' : TS) (hC : CrR g pg pb n m r b (mmX L kd size p) L S c L' S') : MmR g pg pb n m r b L S size p kd c 0 L' S'
  | made (h : mmOk size p) (hg : mmE L kd size = 0) (L' : List Rg) (S' : TS) (hC : CrR g pg pb n m r b (mmX L kd size p) L S 0 L' S') : MmR g pg pb n m r b L S size p kd 0 (mmV L kd size) L' S'
theorem mm_is {g pg pb n m r b : Nat} (L : List Rg) {S : TS} {w : World} (hI : SpI r n S) (hF : FS g pg pb n m r b S w) (size : Nat) (p kd : Int) : ∃ c v L' S', MmR g pg pb n m r b L S size p kd c v L' S' := by
  by_cases h : mmOk size p
  · by_cases hg : mmE L kd size = 0
    · have hin := gap_in hg
      have h1 : (mmX L kd size p).t < 281474976710656 := by show mmV L kd size + upTo size (stp kd) < _; unfold mmV; omega
      have h2 : (mmX L kd size p).f < 281474976710656 := by show mmV L kd size < _; unfold mmV; omega
      obtain ⟨c, L', S', hC⟩ := create_is (x := mmX L kd size p) (L := L) hI hF h2 h1
      by_cases hc : c = 0
      · subst hc; exact ⟨_, _, _, _, .made h hg L' S' hC⟩
      · exact ⟨_, _, _, _, .no h hg c hc L' S' hC⟩
    · exact ⟨_, _, _, _, .full h hg⟩
  · exact ⟨_, _, _, _, .arg h⟩
end Go.Proofs.YtkomahekdcaiaaaGreatDoor

/- Contracts of package space: Mmap. -/
namespace Go.Proofs.YtkomahekdcaiaaaGreatDoor
open Go.ChangeShapes Go.WideShapes Go.ChangeAt Go.RowKit Go.Shelf
open SQ SB
set_option linter.unusedVariables false
set_option linter.unusedSimpArgs false
attribute [local go_sem] Oper.semAt_some
open RG (Rg)

set_option maxRecDepth 100000 in
set_option maxHeartbeats 2000000 in
theorem Mmap_arg (g pg pb n m r b s cap size : Nat) (p : Int) (huge : Bool) (S : TS) (L : List Rg) (ao : Option Addr) (w : World) (h : SM g pg pb n m r b s S L ao cap w) (hsz : size < 18446744073709551616) (h1 : -9223372036854775808 ≤ p) (h2 : p ≤ 9223372036854775807) (hok : ¬ mmOk size p) :
    Calls Tryz.prog 28 #[.pointer (some ⟨s, 0, none⟩), .int .u64 (size : Int), .int .i64 p, .bool huge] w fun e w' => e = .returned (.tuple #[.int .u64 0, .int .i64 2]) ∧ SO g pg pb n m r b s S L w w' := by
  have hN := W_hid (fun w h => spNone_no s g (.pointer (some ⟨pg, 0, none⟩)) (.slice ao L.length cap) w h)
  have hS := W_hid h.sp
  have hf := W_hid (h.so (Below.refl _ _))
  have hP := W_hid (spPerm_any p h1 h2)
  clear h
  by_cases k1 : size < 1
  · have d1 : decide ((size : Int) < 1) = true := by simp; omega
    clear hok
    go_enter Tryz.func28, Tryz.ntmps28
    go_wp2_with fail
    refine (hN.out _ hS.out).mono ?_
    rintro e w1 ⟨rfl, rfl⟩
    go_wp2
    go_ret2
    exact ⟨rfl, hf.out⟩
  have d1 : decide ((size : Int) < 1) = false := by simp; omega
  by_cases k2 : 1099511627776 < size
  · have d2 : decide ((1099511627776 : Int) < (size : Int)) = true := by simp; omega
    clear hok
    go_enter Tryz.func28, Tryz.ntmps28
    go_wp2_with fail
    refine (hN.out _ hS.out).mono ?_
    rintro e w1 ⟨rfl, rfl⟩
    go_wp2
    go_ret2
    exact ⟨rfl, hf.out⟩
  have d2 : decide ((1099511627776 : Int) < (size : Int)) = false := by simp; omega
  have k3 : decide (EN.perms p) = false := decide_eq_false (fun k3 => hok ⟨by omega, by omega, k3⟩)
  clear hok
  go_enter Tryz.func28, Tryz.ntmps28
  go_wp2_with fail
  refine (hN.out _ hS.out).mono ?_
  rintro e w1 ⟨rfl, rfl⟩
  go_wp2_with fail
  refine (hP.out _).mono ?_
  rintro e w1 ⟨rfl, rfl⟩
  rw [k3]
  go_wp2
  go_ret2
  exact ⟨rfl, hf.out⟩
end Go.Proofs.YtkomahekdcaiaaaGreatDoor

/- Contracts of package space: Mmap, where its arguments are sound (by genSpaO.py). -/
namespace Go.Proofs.YtkomahekdcaiaaaGreatDoor
open Go.ChangeShapes Go.WideShapes Go.ChangeAt Go.RowKit Go.Shelf
open SQ SB
set_option linter.unusedVariables false
set_option linter.unusedSimpArgs false
attribute [local go_sem] Oper.semAt_some
open RG (Rg)

set_option maxRecDepth 100000 in
set_option maxHeartbeats 2000000 in
/-- As far as the gap. -/
theorem Mmap_small (g pg pb n m r b s cap size v : Nat) (p c : Int) (S S' : TS) (L L' : List Rg) (ao : Option Addr) (w : World) (h : SM g pg pb n m r b s S L ao cap w) (hI : SpI r n S) (hR : MmR g pg pb n m r b L S size p 0 c v L' S') (hok : mmOk size p) :
    Calls Tryz.prog 28 #[.pointer (some ⟨s, 0, none⟩), .int .u64 (size : Int), .int .i64 p, .bool false] w fun e w' => e = .returned (.tuple #[.int .u64 (v : Int), .int .i64 c]) ∧ SO g pg pb n m r b s S' L' w w' := by
  have hN := W_hid (fun w h => spNone_no s g (.pointer (some ⟨pg, 0, none⟩)) (.slice ao L.length cap) w h)
  have hS := W_hid h.sp
  have H := W_hid h
  obtain ⟨k1, k2, k3⟩ := hok
  have hpb : -9223372036854775808 ≤ p ∧ p ≤ 9223372036854775807 := by unfold EN.perms at k3; omega
  have hP := W_hid (fun w => spPerm_any p hpb.1 hpb.2 w)
  rw [decide_eq_true k3] at hP
  have d1 : decide ((size : Int) < 1) = false := by simp; omega
  have d2 : decide ((1099511627776 : Int) < (size : Int)) = false := by simp; omega
  have e1 : stp 0 = 4096 := by unfold stp; simp
  have hT := W_hid (fun w => step_any 0 w)
  rw [e1] at hT
  have hU := W_hid (fun w => up_small size (by omega) w)
  have hV := W_hid (fun w => up_small 65536 (by omega) w)
  have eV : upTo 65536 4096 = 65536 := by unfold upTo; rfl
  rw [eV] at hV
  obtain ⟨sz, hsz⟩ : ∃ sz, upTo size 4096 = sz := ⟨_, rfl⟩
  rw [hsz] at hU
  have hG := W_hid (fun w hg => Gap_any ao L.length cap L 65536 1099511627776 sz 4096 w hg (by omega) (by omega))
  obtain ⟨fr, hfr⟩ : ∃ fr, gpV L 65536 1099511627776 sz 4096 = fr := ⟨_, rfl⟩
  obtain ⟨ge, hge⟩ : ∃ ge, gpE L 65536 1099511627776 sz 4096 = ge := ⟨_, rfl⟩
  rw [hfr, hge] at hG
  have hmV : mmV L 0 size = fr := by unfold mmV; rw [e1, eV, hsz]; exact hfr
  have hmE : mmE L 0 size = ge := by unfold mmE; rw [e1, eV, hsz]; exact hge
  have hmX : mmX L 0 size p = ⟨fr, fr + sz, p, 0⟩ := by unfold mmX; rw [hmV, e1, hsz]
  have s2 := h.sp.cell (j := 2) rfl
  have hst := W_hid (fun w3 (hb : Below w.heap.size w w3) => show w3.cell? ⟨s, 2, none⟩ = some (.slice ao L.length cap) from (H.out.keep hb).sp.cell (j := 2) rfl)
  have fin : Hid (∀ w1, Below w.heap.size w w1 → (ge ≠ 0 ∧ c = ge ∧ v = 0 ∧ SO g pg pb n m r b s S' L' w w1) ∨ (ge = 0 ∧ fr + sz < 281474976710656 ∧ ((c ≠ 0 ∧ v = 0) ∨ (c = 0 ∧ v = fr)) ∧
      Calls Tryz.prog 54 #[.pointer (some ⟨s, 0, none⟩), .agg #[.int .u64 (fr : Int), .int .u64 ((fr : Int) + (sz : Int)), .int .i64 p, .int .i64 0]] w1 fun e w' => e = .returned (.int .i64 c) ∧ SO g pg pb n m r b s S' L' w w')) := W_hid (by
    intro w1 hb
    have hm1 := H.out.keep hb
    have go : ∀ c, ge = 0 → CrR g pg pb n m r b ⟨fr, fr + sz, p, 0⟩ L S c L' S' → fr + sz < 281474976710656 ∧ Calls Tryz.prog 54 #[.pointer (some ⟨s, 0, none⟩), .agg #[.int .u64 (fr : Int), .int .u64 ((fr : Int) + (sz : Int)), .int .i64 p, .int .i64 0]] w1 fun e w' => e = .returned (.int .i64 c) ∧ SO g pg pb n m r b s S' L' w w' := fun c hz hC => by
      have hin := gap_in (hge.trans hz)
      rw [hfr] at hin
      refine ⟨by omega, ?_⟩
      have := create_go g pg pb n m r b s cap ⟨fr, fr + sz, p, 0⟩ c S S' L L' ao w1 hm1 hI (by show fr < _; omega) (by show fr + sz < _; omega) hC
      simp only [Int.natCast_add] at this
      exact this.mono (fun e w' hh => ⟨hh.1, hh.2.1, (But.of hb).trans hh.2.2⟩)
    cases hR with
    | arg h => exact absurd ⟨k1, k2, k3⟩ h
    | full _ hg => rw [hmE] at hg ⊢; exact .inl ⟨hg, rfl, rfl, H.out.so hb⟩
    | no _ hg c hc L' S' hC => rw [hmE] at hg; rw [hmX] at hC; obtain ⟨g1, g2⟩ := go _ hg hC; exact .inr ⟨hg, g1, .inl ⟨hc, rfl⟩, g2⟩
    | made _ hg L' S' hC => rw [hmE] at hg; rw [hmX] at hC; obtain ⟨g1, g2⟩ := go _ hg hC; exact .inr ⟨hg, g1, .inr ⟨rfl, hmV⟩, g2⟩)
  have hgl := W_hid (fun w3 (hb : Below w.heap.size w w3) => (H.out.keep hb).gl)
  clear h hR hmV hmE hmX hfr hge hsz k1 k2 k3 hpb e1 eV hI
  go_enter Tryz.func28, Tryz.ntmps28
  go_wp2_with fail
  refine (hN.out _ hS.out).mono ?_
  rintro e w1 ⟨rfl, rfl⟩
  go_wp2_with fail
  refine (hP.out _).mono ?_
  rintro e w1 ⟨rfl, rfl⟩
  go_wp2_with fail
  refine (hT.out _).mono ?_
  rintro e w1 ⟨rfl, rfl⟩
  go_wp2_with fail
  refine (hU.out _).mono ?_
  rintro e w1 ⟨rfl, rfl⟩
  go_wp2_with fail
  refine (hT.out _).mono ?_
  rintro e w1 ⟨rfl, rfl⟩
  go_wp2_with fail
  refine (hV.out _).mono ?_
  rintro e w1 ⟨rfl, rfl⟩
  go_wp2_with fail
  refine UpTil.region (S := fun w' => w'.cell? ⟨s, 2, none⟩ = some (.slice ao L.length cap)) (m := 13) (by kernel_rfl) s2 (fun hHeld => ?_)
  refine ul (i := 0) (v := .pointer (some ⟨s, 0, none⟩)) hHeld ?_
  refine ul (i := 1) (v := .pointer (some ⟨s, 0, none⟩)) hHeld ?_
  refine ul (i := 2) (v := .pointer (some ⟨s, 2, none⟩)) hHeld ?_
  refine ul (i := 3) (v := .slice ao L.length cap) hHeld ?_
  refine ul (i := 4) (v := .int .u64 65536) hHeld ?_
  refine ul (i := 5) (v := .int .u64 (sz : Int)) hHeld ?_
  refine ul (i := 6) (v := .int .i64 0) hHeld ?_
  refine UpTil.one (i := 7) (by kernel_rfl) rfl rfl (fun K hK => ?_)
  go_simp
  refine (hT.out _).mono ?_
  rintro e w3 ⟨rfl, rfl⟩
  refine hK.out _ _ (fun _ => hHeld) ?_
  clear hK K
  try simp only [Act.put, List.setIfInBounds_toArray, List.set_cons_zero, List.set_cons_succ, List.getElem_toArray, List.getElem_cons_zero, List.getElem_cons_succ]
  refine UpTil.one (i := 8) (by kernel_rfl) rfl rfl (fun K hK => ?_)
  go_simp
  refine (hG.out _ (hgl.out _ (Below.refl _ _).drew)).mono ?_
  rintro e w4 ⟨rfl, hb4⟩
  have hb5 : Below w.heap.size w w4 := ⟨hb4.os, hb4.tape, hb4.output, hb4.size, hb4.block⟩
  have hS4 := hst.out _ hb5
  refine hK.out _ _ (fun _ => hS4) ?_
  clear hK K hb4 hHeld
  try simp only [Act.put, List.setIfInBounds_toArray, List.set_cons_zero, List.set_cons_succ, List.getElem_toArray, List.getElem_cons_zero, List.getElem_cons_succ]
  refine ul (i := 9) (v := .tuple #[.int .u64 (fr : Int), .int .i64 ge]) hS4 ?_
  refine ul (i := 10) (v := .int .u64 (fr : Int)) hS4 ?_
  refine ul (i := 11) (v := .int .i64 ge) hS4 ?_
  refine ul (i := 12) (v := .int .u64 (fr : Int)) hS4 ?_
  refine UpTil.last (by kernel_rfl) rfl rfl (by kernel_rfl) ?_
  go_simp
  have hfin := fin.out _ hb5
  clear fin hb5 hS4 hG hU hV hT hP hN hst s2
  rcases hfin with ⟨g0, rfl, rfl, g1⟩ | ⟨rfl, g0, g1, g2⟩
  · have g3 : decide (c = 0) = false := decide_eq_false g0
    replace g1 := W_hid g1
    go_wp2
    go_ret2
    exact ⟨rfl, g1.out⟩
  · have g4 := W_hid g2
    clear g2
    rcases g1 with ⟨g5, rfl⟩ | ⟨rfl, rfl⟩
    · have g3 : decide (c = 0) = false := decide_eq_false g5
      go_wp2_with fail
      refine g4.out.mono ?_
      rintro e w5 ⟨rfl, hO⟩
      replace hO := W_hid hO
      go_wp2
      go_ret2
      exact ⟨rfl, hO.out⟩
    · go_wp2_with fail
      refine g4.out.mono ?_
      rintro e w5 ⟨rfl, hO⟩
      replace hO := W_hid hO
      go_wp2
      go_ret2
      exact ⟨rfl, hO.out⟩
set_option maxRecDepth 100000 in
set_option maxHeartbeats 2000000 in
/-- As far as the gap. -/
theorem Mmap_huge (g pg pb n m r b s cap size v : Nat) (p c : Int) (S S' : TS) (L L' : List Rg) (ao : Option Addr) (w : World) (h : SM g pg pb n m r b s S L ao cap w) (hI : SpI r n S) (hR : MmR g pg pb n m r b L S size p 1 c v L' S') (hok : mmOk size p) :
    Calls Tryz.prog 28 #[.pointer (some ⟨s, 0, none⟩), .int .u64 (size : Int), .int .i64 p, .bool true] w fun e w' => e = .returned (.tuple #[.int .u64 (v : Int), .int .i64 c]) ∧ SO g pg pb n m r b s S' L' w w' := by
  have hN := W_hid (fun w h => spNone_no s g (.pointer (some ⟨pg, 0, none⟩)) (.slice ao L.length cap) w h)
  have hS := W_hid h.sp
  have H := W_hid h
  obtain ⟨k1, k2, k3⟩ := hok
  have hpb : -9223372036854775808 ≤ p ∧ p ≤ 9223372036854775807 := by unfold EN.perms at k3; omega
  have hP := W_hid (fun w => spPerm_any p hpb.1 hpb.2 w)
  rw [decide_eq_true k3] at hP
  have d1 : decide ((size : Int) < 1) = false := by simp; omega
  have d2 : decide ((1099511627776 : Int) < (size : Int)) = false := by simp; omega
  have e1 : stp 1 = 2097152 := by unfold stp; simp
  have hT := W_hid (fun w => step_any 1 w)
  rw [e1] at hT
  have hU := W_hid (fun w => up_huge size (by omega) w)
  have hV := W_hid (fun w => up_huge 65536 (by omega) w)
  have eV : upTo 65536 2097152 = 2097152 := by unfold upTo; rfl
  rw [eV] at hV
  obtain ⟨sz, hsz⟩ : ∃ sz, upTo size 2097152 = sz := ⟨_, rfl⟩
  rw [hsz] at hU
  have hG := W_hid (fun w hg => Gap_any ao L.length cap L 2097152 1099511627776 sz 2097152 w hg (by omega) (by omega))
  obtain ⟨fr, hfr⟩ : ∃ fr, gpV L 2097152 1099511627776 sz 2097152 = fr := ⟨_, rfl⟩
  obtain ⟨ge, hge⟩ : ∃ ge, gpE L 2097152 1099511627776 sz 2097152 = ge := ⟨_, rfl⟩
  rw [hfr, hge] at hG
  have hmV : mmV L 1 size = fr := by unfold mmV; rw [e1, eV, hsz]; exact hfr
  have hmE : mmE L 1 size = ge := by unfold mmE; rw [e1, eV, hsz]; exact hge
  have hmX : mmX L 1 size p = ⟨fr, fr + sz, p, 1⟩ := by unfold mmX; rw [hmV, e1, hsz]
  have s2 := h.sp.cell (j := 2) rfl
  have hst := W_hid (fun w3 (hb : Below w.heap.size w w3) => show w3.cell? ⟨s, 2, none⟩ = some (.slice ao L.length cap) from (H.out.keep hb).sp.cell (j := 2) rfl)
  have fin : Hid (∀ w1, Below w.heap.size w w1 → (ge ≠ 0 ∧ c = ge ∧ v = 0 ∧ SO g pg pb n m r b s S' L' w w1) ∨ (ge = 0 ∧ fr + sz < 281474976710656 ∧ ((c ≠ 0 ∧ v = 0) ∨ (c = 0 ∧ v = fr)) ∧
      Calls Tryz.prog 54 #[.pointer (some ⟨s, 0, none⟩), .agg #[.int .u64 (fr : Int), .int .u64 ((fr : Int) + (sz : Int)), .int .i64 p, .int .i64 1]] w1 fun e w' => e = .returned (.int .i64 c) ∧ SO g pg pb n m r b s S' L' w w')) := W_hid (by
    intro w1 hb
    have hm1 := H.out.keep hb
    have go : ∀ c, ge = 0 → CrR g pg pb n m r b ⟨fr, fr + sz, p, 1⟩ L S c L' S' → fr + sz < 281474976710656 ∧ Calls Tryz.prog 54 #[.pointer (some ⟨s, 0, none⟩), .agg #[.int .u64 (fr : Int), .int .u64 ((fr : Int) + (sz : Int)), .int .i64 p, .int .i64 1]] w1 fun e w' => e = .returned (.int .i64 c) ∧ SO g pg pb n m r b s S' L' w w' := fun c hz hC => by
      have hin := gap_in (hge.trans hz)
      rw [hfr] at hin
      refine ⟨by omega, ?_⟩
      have := create_go g pg pb n m r b s cap ⟨fr, fr + sz, p, 1⟩ c S S' L L' ao w1 hm1 hI (by show fr < _; omega) (by show fr + sz < _; omega) hC
      simp only [Int.natCast_add] at this
      exact this.mono (fun e w' hh => ⟨hh.1, hh.2.1, (But.of hb).trans hh.2.2⟩)
    cases hR with
    | arg h => exact absurd ⟨k1, k2, k3⟩ h
    | full _ hg => rw [hmE] at hg ⊢; exact .inl ⟨hg, rfl, rfl, H.out.so hb⟩
    | no _ hg c hc L' S' hC => rw [hmE] at hg; rw [hmX] at hC; obtain ⟨g1, g2⟩ := go _ hg hC; exact .inr ⟨hg, g1, .inl ⟨hc, rfl⟩, g2⟩
    | made _ hg L' S' hC => rw [hmE] at hg; rw [hmX] at hC; obtain ⟨g1, g2⟩ := go _ hg hC; exact .inr ⟨hg, g1, .inr ⟨rfl, hmV⟩, g2⟩)
  have hgl := W_hid (fun w3 (hb : Below w.heap.size w w3) => (H.out.keep hb).gl)
  clear h hR hmV hmE hmX hfr hge hsz k1 k2 k3 hpb e1 eV hI
  go_enter Tryz.func28, Tryz.ntmps28
  go_wp2_with fail
  refine (hN.out _ hS.out).mono ?_
  rintro e w1 ⟨rfl, rfl⟩
  go_wp2_with fail
  refine (hP.out _).mono ?_
  rintro e w1 ⟨rfl, rfl⟩
  go_wp2_with fail
  refine (hT.out _).mono ?_
  rintro e w1 ⟨rfl, rfl⟩
  go_wp2_with fail
  refine (hU.out _).mono ?_
  rintro e w1 ⟨rfl, rfl⟩
  go_wp2_with fail
  refine (hT.out _).mono ?_
  rintro e w1 ⟨rfl, rfl⟩
  go_wp2_with fail
  refine (hV.out _).mono ?_
  rintro e w1 ⟨rfl, rfl⟩
  go_wp2_with fail
  refine UpTil.region (S := fun w' => w'.cell? ⟨s, 2, none⟩ = some (.slice ao L.length cap)) (m := 13) (by kernel_rfl) s2 (fun hHeld => ?_)
  refine ul (i := 0) (v := .pointer (some ⟨s, 0, none⟩)) hHeld ?_
  refine ul (i := 1) (v := .pointer (some ⟨s, 0, none⟩)) hHeld ?_
  refine ul (i := 2) (v := .pointer (some ⟨s, 2, none⟩)) hHeld ?_
  refine ul (i := 3) (v := .slice ao L.length cap) hHeld ?_
  refine ul (i := 4) (v := .int .u64 2097152) hHeld ?_
  refine ul (i := 5) (v := .int .u64 (sz : Int)) hHeld ?_
  refine ul (i := 6) (v := .int .i64 1) hHeld ?_
  refine UpTil.one (i := 7) (by kernel_rfl) rfl rfl (fun K hK => ?_)
  go_simp
  refine (hT.out _).mono ?_
  rintro e w3 ⟨rfl, rfl⟩
  refine hK.out _ _ (fun _ => hHeld) ?_
  clear hK K
  try simp only [Act.put, List.setIfInBounds_toArray, List.set_cons_zero, List.set_cons_succ, List.getElem_toArray, List.getElem_cons_zero, List.getElem_cons_succ]
  refine UpTil.one (i := 8) (by kernel_rfl) rfl rfl (fun K hK => ?_)
  go_simp
  refine (hG.out _ (hgl.out _ (Below.refl _ _).drew)).mono ?_
  rintro e w4 ⟨rfl, hb4⟩
  have hb5 : Below w.heap.size w w4 := ⟨hb4.os, hb4.tape, hb4.output, hb4.size, hb4.block⟩
  have hS4 := hst.out _ hb5
  refine hK.out _ _ (fun _ => hS4) ?_
  clear hK K hb4 hHeld
  try simp only [Act.put, List.setIfInBounds_toArray, List.set_cons_zero, List.set_cons_succ, List.getElem_toArray, List.getElem_cons_zero, List.getElem_cons_succ]
  refine ul (i := 9) (v := .tuple #[.int .u64 (fr : Int), .int .i64 ge]) hS4 ?_
  refine ul (i := 10) (v := .int .u64 (fr : Int)) hS4 ?_
  refine ul (i := 11) (v := .int .i64 ge) hS4 ?_
  refine ul (i := 12) (v := .int .u64 (fr : Int)) hS4 ?_
  refine UpTil.last (by kernel_rfl) rfl rfl (by kernel_rfl) ?_
  go_simp
  have hfin := fin.out _ hb5
  clear fin hb5 hS4 hG hU hV hT hP hN hst s2
  rcases hfin with ⟨g0, rfl, rfl, g1⟩ | ⟨rfl, g0, g1, g2⟩
  · have g3 : decide (c = 0) = false := decide_eq_false g0
    replace g1 := W_hid g1
    go_wp2
    go_ret2
    exact ⟨rfl, g1.out⟩
  · have g4 := W_hid g2
    clear g2
    rcases g1 with ⟨g5, rfl⟩ | ⟨rfl, rfl⟩
    · have g3 : decide (c = 0) = false := decide_eq_false g5
      go_wp2_with fail
      refine g4.out.mono ?_
      rintro e w5 ⟨rfl, hO⟩
      replace hO := W_hid hO
      go_wp2
      go_ret2
      exact ⟨rfl, hO.out⟩
    · go_wp2_with fail
      refine g4.out.mono ?_
      rintro e w5 ⟨rfl, hO⟩
      replace hO := W_hid hO
      go_wp2
      go_ret2
      exact ⟨rfl, hO.out⟩
end Go.Proofs.YtkomahekdcaiaaaGreatDoor

/- What a law's head does: plain. -/
namespace Go.Proofs.YtkomahekdcaiaaaGreatDoor
open Go.ChangeShapes Go.WideShapes Go.ChangeAt Go.RowKit Go.Shelf
set_option linter.unusedVariables false
set_option linter.unusedSimpArgs false
open RG (Rg)

/-- A new space: its root alone. -/
theorem spi_new (r n : Nat) (hr : r < n) (hn : n ≤ 65536) : SpI r n ⟨FR.st (fresh n) r 1 true, F0 r, G0⟩ := by
  have key : ∀ l j f, F0 r l j = some f → l = 4 ∧ j = 0 ∧ f = r := by
    intro l j f h
    unfold F0 at h
    split at h
    · rename_i e; cases h; exact ⟨e.1, e.2, rfl⟩
    · cases h
  have noG : ∀ f, ¬ InG G0 f := fun f ⟨l, c, a, p, h, _⟩ => by cases h
  refine ⟨inv0 r n hr hn, fun l j f h h3 => ?_, fun f => ?_, fun f _ h => noG f h, fun l c a p l' c' a' p' f h => (by cases h), fun l c a p h => (by cases h)⟩
  · have := (key l j f h).1; omega
  · simp only
    unfold FR.st
    by_cases e : r ≤ f ∧ f < r + 1
    · rw [if_pos e]
      have : f = r := by omega
      subst this
      exact ⟨fun _ => .inl ⟨4, 0, by simp [F0]⟩, fun _ => rfl⟩
    · rw [if_neg e]
      constructor
      · exact fun h => .inr (.inr h)
      · rintro (⟨l, j, h⟩ | h | h)
        · have := (key l j f h).2.2; omega
        · exact absurd h (noG f)
        · exact h
/-- A page that can be laid is laid. -/
theorem lay_done {g pg pb n m r b va a : Nat} {p kind : Int} {S S1 : TS} {w0 : World} (h0 : FS g pg pb n m r b S w0) (hlow : FR.Low S.T n (stq kind) a) (hr : EN.right false (kind == 1) p a (lv (kind == 1) : Nat)) (hs : va % EN.sz (lv (kind == 1) - 1) = 0) (hv : va < 140737488355328)
    (hR : MapR S.F S.G (FR.st S.T a (stq kind) true) n va (lv (kind == 1)) a p 0 S1.F S1.G S1.T) : LayC g pg pb n m r b p kind va S 0 S1 := by
  obtain ⟨T, F, G⟩ := S
  obtain ⟨T1, F1, G1⟩ := S1
  obtain ⟨M0, h⟩ := h0
  simp only at h hlow hR
  have hM := fun M w hF => Map_yes g pg pb n m r b va a (kind == 1) p 0 (FR.st T a (stq kind) true) T1 M F F1 G G1 w hF hv hr hs hR
  have htk : Tk F1 T1 := by
    cases hR with
    | done L fr hd hp fs hl ht => exact tk_add fs (tk_st h.tk a (stq kind))
  exact ⟨.inr ⟨rfl, a, hlow, hr, hR, hs, hv⟩, fun w ⟨M, hF⟩ => lay_yes g pg pb n m r b va a p kind 0 T T1 M F F1 G G1 w hF hlow (hM M) T1 htk (.inl ⟨rfl, rfl⟩)⟩

def Z0 : TS := ⟨FR.st (fresh 20) 0 1 true, F0 0, G0⟩
def Z1 : TS := ⟨takeAll (FR.st Z0.T 1 1 true) [2, 3, 4], RX.addT (F0 0) 65536 4 [2, 3, 4], RX.updG G0 1 (65536 / EN.sz (1 - 1)) (some (1, 3))⟩
def Z2 : TS := ⟨takeAll (FR.st Z1.T 5 1 true) [], RX.addT Z1.F 69632 1 [], RX.updG Z1.G 1 (69632 / EN.sz (1 - 1)) (some (5, 3))⟩
theorem low_of {T : Nat → Bool} {n f : Nat} (h1 : f < n) (h2 : T f = false) (h3 : ∀ i, i < f → T i = true) : FR.Low T n 1 f := by
  refine ⟨Nat.mod_one _, by omega, fun i hi => ?_, fun f' hf _ h => ?_⟩
  · obtain rfl : i = 0 := by omega
    exact h2
  · have := h 0 (by omega)
    rw [Nat.add_zero, h3 f' hf] at this
    cases this
theorem takes_Z1 : Takes (FR.st Z0.T 1 1 true) 20 [2, 3, 4] := by
  have key : ∀ j, j < 3 → ([2, 3, 4] : List Nat).getD j 0 = j + 2 ∧ takeAll (FR.st Z0.T 1 1 true) (([2, 3, 4] : List Nat).take j) (j + 2) = false ∧ ∀ f', f' < j + 2 → takeAll (FR.st Z0.T 1 1 true) (([2, 3, 4] : List Nat).take j) f' = true := by decide
  intro j hj
  simp only [List.length_cons, List.length_nil] at hj
  obtain ⟨e, h1, h2⟩ := key j (by omega)
  have e' : ([2, 3, 4] : List Nat)[j] = j + 2 := by
    rw [← e, List.getD, List.getElem?_eq_getElem (by simpa using hj)]; rfl
  rw [e']
  exact low_of (by omega) h1 h2
theorem low_Z0 : FR.Low Z0.T 20 1 1 := low_of (by omega) (by decide) (by decide)
theorem low_Z1 : FR.Low Z1.T 20 1 5 := low_of (by omega) (by decide) (by decide)
theorem map_Z1 : MapR Z0.F Z0.G (FR.st Z0.T 1 1 true) 20 65536 1 1 3 0 Z1.F Z1.G Z1.T := by
  refine .done 4 (fun k => if k = 4 then 0 else 0) ⟨⟨by omega, by omega, fun k h1 h2 => ?_, fun k hk => by rw [if_neg (by omega)]⟩, by omega, .inr ?_⟩ ?_ [2, 3, 4] rfl takes_Z1
  · obtain rfl : k = 4 := by omega
    rfl
  · rfl
  · rfl
theorem map_Z2 : MapR Z1.F Z1.G (FR.st Z1.T 5 1 true) 20 69632 1 5 3 0 Z2.F Z2.G Z2.T := by
  refine .done 1 (fun k => if k = 3 then 2 else if k = 2 then 3 else if k = 1 then 4 else 0) ⟨⟨by omega, by omega, fun k h1 h2 => ?_, fun k hk => by rw [if_neg (by omega), if_neg (by omega), if_neg (by omega)]⟩, by omega, .inl rfl⟩ ?_ [] rfl (fun j hj => absurd hj (Nat.not_lt_zero _))
  · have : k = 1 ∨ k = 2 ∨ k = 3 ∨ k = 4 := by omega
    rcases this with rfl | rfl | rfl | rfl <;> rfl
  · rfl
theorem right_Z (a : Nat) (h : a < 68719476736) : EN.right false ((0 : Int) == 1) 3 a (lv ((0 : Int) == 1) : Nat) := ⟨by decide, by decide, h, .inr ⟨rfl, .inr (.inl rfl), .inl ⟨rfl, rfl⟩⟩⟩
/-- The region of the head's Mmap. -/
def hR : Rg := ⟨65536, 73728, 3, 0⟩
theorem ok_hR : RG.Ok true none [hR] := ⟨⟨by decide, fun y e => by cases e⟩, trivial⟩
theorem gpOk_h : gpOk [] 65536 1099511627776 8192 4096 := ⟨trivial, .inl rfl, by decide, by decide, by decide, by decide, by decide⟩
theorem mmV_h : mmV [] 0 5000 = 65536 := by
  have : gpV [] 65536 1099511627776 8192 4096 = 65536 := by unfold gpV; rw [if_pos gpOk_h]; rfl
  exact this
theorem mmE_h : mmE [] 0 5000 = 0 := by
  have : gpE [] 65536 1099511627776 8192 4096 = 0 := by unfold gpE; rw [if_pos gpOk_h]; rfl
  exact this
theorem mmX_h : mmX [] 0 5000 3 = hR := by
  unfold mmX
  rw [mmV_h]
  rfl
theorem adL_h : adL [] hR = [hR] := by
  unfold adL
  rw [if_pos ⟨trivial, by decide, rfl⟩]
  rfl
theorem crr_h {g pg pb m b : Nat} {w : World} (h : FS g pg pb 20 m 0 b Z0 w) : CrR g pg pb 20 m 0 b hR [] Z0 0 [hR] Z2 := by
  have c1 : LayC g pg pb 20 m 0 b 3 0 65536 Z0 0 Z1 := lay_done h low_Z0 (right_Z 1 (by omega)) rfl (by omega) map_Z1
  obtain ⟨e, w1, -, hF1, -⟩ := calls_some (c1.2 w h)
  have c2 : LayC g pg pb 20 m 0 b 3 0 69632 Z1 0 Z2 := lay_done hF1 low_Z1 (right_Z 5 (by omega)) rfl (by omega) map_Z2
  have hC : CrR g pg pb 20 m 0 b hR [] Z0 0 (adL [] hR) ((fun i => match i with | 0 => Z0 | 1 => Z1 | _ => Z2) (stF hR.f hR.t (stp hR.k)).length) := .all (fun i => match i with | 0 => Z0 | 1 => Z1 | _ => Z2) rfl (fun i va hi hva => by
    have e : stF hR.f hR.t (stp hR.k) = [65536, 69632] := by decide
    rw [e] at hi hva
    have : i = 0 ∨ i = 1 := by simp at hi; omega
    rcases this with rfl | rfl
    · obtain rfl : 65536 = va := by simpa using hva
      exact c1
    · obtain rfl : 69632 = va := by simpa using hva
      exact c2)
  rw [adL_h] at hC
  exact hC
theorem made_h {g pg pb m b : Nat} {w : World} (h : FS g pg pb 20 m 0 b Z0 w) : MmR g pg pb 20 m 0 b [] Z0 5000 3 0 0 65536 [hR] Z2 := by
  have hC := crr_h h
  have := MmR.made (g := g) (pg := pg) (pb := pb) (n := 20) (m := m) (r := 0) (b := b) (L := []) (S := Z0) (size := 5000) (p := 3) (kd := 0) ⟨by omega, by omega, .inr (.inl rfl)⟩ mmE_h [hR] Z2 (by rw [mmX_h]; exact hC)
  rw [mmV_h] at this
  exact this
/-- The head's Munmap. -/
theorem unmap_h {g pg pb m b : Nat} {w : World} (hI : SpI 0 20 Z2) (h : FS g pg pb 20 m 0 b Z2 w) : ∃ L' S', MuR 20 [hR] 65536 4096 Z2 0 L' S' ∧ S'.G = RX.updG Z2.G 1 16 none := by
  obtain ⟨S', hL, hS, hG, -, -⟩ := hI.lift (kind := 0) (va := 65536) (a := 1) (p := 3) h (by omega) rfl
  have hr : RG.isRange 65536 69632 := by decide
  have hO : ctO [hR] 65536 69632 = [⟨65536, 69632, 3, 0⟩] := by
    unfold ctO
    rw [if_pos ⟨ok_hR, hr⟩]
    rfl
  refine ⟨_, S', .done S' (by decide) ?_ ?_, hG⟩
  · unfold sndF atX
    have e : upTo (65536 + 4096) 4096 = 69632 := rfl
    rw [e, if_pos ⟨ok_hR, by omega⟩, if_pos ⟨ok_hR, by omega⟩]
    rfl
  · have e : upTo (65536 + 4096) 4096 = 69632 := rfl
    rw [e, hO]
    refine ⟨fun i => if i = 0 then Z2 else S', rfl, rfl, fun i x hx => ?_⟩
    have hi : i = 0 := by have := (List.getElem?_eq_some_iff.1 hx).1; simp at this; omega
    subst hi
    simp only [List.getElem?_cons_zero, Option.some.injEq] at hx
    subst hx
    refine ⟨by show 69632 < _; omega, fun i => if i = 0 then Z2 else S', rfl, rfl, fun i va hva => ?_⟩
    have e2 : sts ⟨65536, 69632, 3, 0⟩ = [65536] := by decide
    rw [e2] at hva
    have hi : i = 0 := by have := (List.getElem?_eq_some_iff.1 hva).1; simp at this; omega
    subst hi
    obtain rfl : 65536 = va := by simpa using hva
    exact hL
end Go.Proofs.YtkomahekdcaiaaaGreatDoor

/- The laws of layer 10: Walk; opened, shown; what SpaceNone does. -/
namespace Go.Proofs.YtkomahekdcaiaaaGreatDoor
open Go.ChangeShapes Go.WideShapes Go.ChangeAt Go.RowKit Go.Shelf
set_option linter.unusedVariables false
set_option linter.unusedSimpArgs false
attribute [local go_sem] Oper.semAt_some
open RG (Rg)

set_option maxRecDepth 100000 in
set_option maxHeartbeats 1000000 in
theorem spWalk_yes (g pg pb n m r b s va cap : Nat) (want : Int) (S : TS) (L : List Rg) (ao : Option Addr) (w : World) (h : SM g pg pb n m r b s S L ao cap w) (hok : walkOk va want = true) :
    Calls Tryz.prog 24 #[.pointer (some ⟨s, 0, none⟩), .int .u64 (va : Int), .int .i64 want] w fun e w' => e = .returned (.tuple #[.int .u64 ((walkA S.G va want : Nat) : Int), .int .i64 (walkC S.G va want)]) ∧ Below w.heap.size w w' := by
  have hN := W_hid (spNone_no s g (.pointer (some ⟨pg, 0, none⟩)) (.slice ao L.length cap) w h.sp)
  have hF := h.fs
  have c0 := h.sp.cell (j := 0) rfl
  obtain ⟨M, hM⟩ := hF
  have hW := W_hid (Walk_yes g pg pb n m r b va want S.T M S.F S.G w hM hok)
  clear h hM hok
  go_enter Tryz.func24, Tryz.ntmps24
  go_wp2_with fail
  refine hN.out.mono ?_
  rintro e w1 ⟨rfl, rfl⟩
  go_wp2_with fail
  refine hW.out.mono ?_
  rintro e w2 ⟨rfl, hb⟩
  replace hb := W_hid hb
  go_wp2
  go_ret2
  exact ⟨rfl, hb.out⟩

set_option maxRecDepth 100000 in
set_option maxHeartbeats 2000000 in
theorem sopened_any (n : Nat) (h1 : 1 ≤ n) (h2 : n ≤ 65536) (w : World) (hk : KT w) :
    Calls Tryz.prog 10 #[.int .i64 (n : Int)] w fun e w' => ∃ s g pg pb b, e = .returned (.tuple #[.pointer (some ⟨pg, 0, none⟩), .pointer (some ⟨s, 0, none⟩), .bool true]) ∧ (w.heap.size ≤ s ∧ w.heap.size ≤ g ∧ w.heap.size ≤ pg ∧ w.heap.size ≤ pb ∧ w.heap.size ≤ b) ∧
      SM g pg pb n (words n) 0 b s ⟨FR.st (fresh n) 0 1 true, F0 0, G0⟩ [] none 0 w' ∧ Below w.heap.size w w' := by
  have hP := W_hid (New_yes n h1 h2)
  have hlow : FR.Low (fresh n) n 1 0 := low_of h1 (fresh_in h1) (fun i hi => by omega)
  have hN := W_hid (fun pg pb w hP hk q1 q2 => spNew_yes pg pb n (words n) 0 (fresh n) w hP hk q1 q2 hlow)
  have hkl := hk.lt
  replace hk := W_hid hk
  have hne : ∀ g w, (binOp .neq 25 (.pointer (some ⟨g, 0, none⟩)) (.pointer none)).run Tryz.prog w = .ok (.bool true) w := fun g w => by kernel_rfl
  clear hlow
  go_enter Tryz.func10, Tryz.ntmps10
  go_wp2_with fail
  refine (hP.out w).mono ?_
  rintro e w1 ⟨pg, rfl, hpg, hPL, bel1⟩
  have hc := W_hid (hN.out pg w.heap.size w1 hPL (hk.out.keep bel1) (by omega) (by omega))
  clear hPL hP hN
  go_wp2_with fail
  refine hc.out.mono ?_
  rintro e w2 ⟨s, g, b, M, rfl, hl, hS, hF, hB⟩
  have hs := bel1.size
  have hres := W_hid (show SM g pg w.heap.size n (words n) 0 b s ⟨FR.st (fresh n) 0 1 true, F0 0, G0⟩ [] none 0 w2 ∧ Below w.heap.size w w2 from
    ⟨⟨⟨M, hF⟩, hS, World.ownsRow_nil _ _ _ _, fun a e => (by cases e), ⟨hl.2.2.2.1, hl.2.2.2.2.2.1, hl.2.2.2.2.2.2, hl.2.2.2.2.1, by omega⟩⟩, bel1.trans (hB.below (by simp; omega) bel1.size)⟩)
  clear hc hB hF hS bel1
  go_wp2
  go_ret3
  exact ⟨s, g, pg, w.heap.size, b, rfl, by omega, hres.out⟩

set_option maxRecDepth 100000 in
set_option maxHeartbeats 2000000 in
theorem sshown_any (w : World) (hk : KT w) : Calls Tryz.prog 9 #[] w fun e w' => e = .returned (.bool true) ∧ Below w.heap.size w w' := by
  have cO := W_hid (sopened_any 20 (by omega) (by omega) w hk)
  have hI0 : SpI 0 20 Z0 := spi_new 0 20 (by omega) (by omega)
  have hMp := W_hid (fun g pg pb b s w (h : SM g pg pb 20 (words 20) 0 b s Z0 [] none 0 w) => Mmap_small g pg pb 20 (words 20) 0 b s 0 5000 65536 3 0 Z0 Z2 [] [hR] none w h hI0 (made_h h.fs) ⟨by omega, by omega, .inr (.inl rfl)⟩)
  have hUn := W_hid (fun g pg pb b s cap ao (w0 w : World) (h0 : FS g pg pb 20 (words 20) 0 b Z0 w0) (h : SM g pg pb 20 (words 20) 0 b s Z2 [hR] ao cap w) => show ∃ S', S'.G = RX.updG Z2.G 1 16 none ∧ Calls Tryz.prog 29 #[.pointer (some ⟨s, 0, none⟩), .int .u64 65536, .int .u64 4096] w fun e w' => e = .returned (.int .i64 0) ∧ ∃ L', SO g pg pb 20 (words 20) 0 b s S' L' w w' from by
    have hI2 : SpI 0 20 Z2 := (crr_h h0).good hI0 h0 (by show 65536 < _; omega)
    obtain ⟨L', S', hR, hG⟩ := unmap_h hI2 h.fs
    exact ⟨S', hG, (Munmap_any g pg pb 20 (words 20) 0 b s cap 65536 4096 0 Z2 S' _ L' ao w h (by omega) (by omega) hR).mono (fun e w' hh => ⟨hh.1, L', hh.2⟩)⟩)
  have hWk := W_hid (fun g pg pb b s cap ao (S' : TS) L w (hG : S'.G = RX.updG Z2.G 1 16 none) (h : SM g pg pb 20 (words 20) 0 b s S' L ao cap w) => show
      (Calls Tryz.prog 24 #[.pointer (some ⟨s, 0, none⟩), .int .u64 65536, .int .i64 1] w fun e w' => (∃ a : Int, e = .returned (.tuple #[.int .u64 a, .int .i64 26])) ∧ Below w.heap.size w w') ∧
      (Calls Tryz.prog 24 #[.pointer (some ⟨s, 0, none⟩), .int .u64 69632, .int .i64 2] w fun e w' => (∃ a : Int, e = .returned (.tuple #[.int .u64 a, .int .i64 0])) ∧ Below w.heap.size w w') from by
    have c1 := spWalk_yes g pg pb 20 (words 20) 0 b s 65536 cap 1 S' L ao w h (by rfl)
    have c2 := spWalk_yes g pg pb 20 (words 20) 0 b s 69632 cap 2 S' L ao w h (by rfl)
    rw [hG] at c1 c2
    rw [show walkC (RX.updG Z2.G 1 16 none) 65536 1 = 26 by rfl] at c1
    rw [show walkC (RX.updG Z2.G 1 16 none) 69632 2 = 0 by rfl] at c2
    exact ⟨c1.mono (fun e w' hh => ⟨⟨_, hh.1⟩, hh.2⟩), c2.mono (fun e w' hh => ⟨⟨_, hh.1⟩, hh.2⟩)⟩)
  clear hk hI0
  go_enter Tryz.func9, Tryz.ntmps9
  go_wp2_with fail
  refine cO.out.mono ?_
  rintro e w1 ⟨s, g, pg, pb, b, rfl, hl, hM, bel1⟩
  have hM0 : FS g pg pb 20 (words 20) 0 b Z0 w1 := hM.fs
  have cM := W_hid (hMp.out g pg pb b s w1 hM)
  replace bel1 := W_hid bel1
  replace hM0 := W_hid hM0
  clear cO hM hMp
  go_wp2_with fail
  refine cM.out.mono ?_
  rintro e w2 ⟨rfl, ⟨ao2, cap2, hM2⟩, hB2⟩
  obtain ⟨S', hG, cU⟩ := hUn.out g pg pb b s cap2 ao2 w1 w2 hM0.out hM2
  replace cU := W_hid cU
  have bel2 := W_hid (bel1.out.trans (hB2.below (by simp; omega) bel1.out.size))
  clear hUn hM2 hB2 cM hM0
  go_wp2_with fail
  refine cU.out.mono ?_
  rintro e w3 ⟨rfl, L', ⟨ao3, cap3, hM3⟩, hB3⟩
  have cW := W_hid (hWk.out g pg pb b s cap3 ao3 S' L' w3 hG hM3).1
  have H3 := W_hid hM3
  have bel3 := W_hid (bel2.out.trans (hB3.below (by simp; omega) bel2.out.size))
  clear cU hM3 hB3
  go_wp2_with fail
  refine cW.out.mono ?_
  rintro e w4 ⟨⟨a1, rfl⟩, b4⟩
  have cV := W_hid (hWk.out g pg pb b s cap3 ao3 S' L' w4 hG (H3.out.keep b4)).2
  have bel4 := W_hid (bel3.out.trans (b4.mono bel3.out.size))
  clear cW b4 hWk H3
  go_wp2_with fail
  refine cV.out.mono ?_
  rintro e w5 ⟨⟨a2, rfl⟩, b5⟩
  have bel5 := W_hid (bel4.out.trans (b5.mono bel4.out.size))
  clear cV b5
  go_wp2
  go_ret
  exact ⟨rfl, bel5.out⟩

set_option maxRecDepth 100000 in
set_option maxHeartbeats 2000000 in
theorem SpaceNone_walk (a0 a1 a2 : Int) (w : World) (hk : KT w) (w0 : (Lit.int .u64 a0).wf = true) (w1 : (Lit.int .u64 a1).wf = true) (w2 : (Lit.int .i64 a2).wf = true) :
    Calls Tryz.prog 7 #[.int .u64 a0, .int .u64 a1, .int .i64 a2] w fun e w' => e = .returned (.bool true) ∧ Below w.heap.size w w' := by
  have b0 := bounds_u64 w0
  have b1 := bounds_u64 w1
  obtain ⟨va, rfl⟩ : ∃ x : Nat, a0 = x := ⟨a0.toNat, by omega⟩
  obtain ⟨size, rfl⟩ : ∃ x : Nat, a1 = x := ⟨a1.toNat, by omega⟩
  have hS := W_hid (sshown_any w hk)
  have q1 := W_hid spNew_nil
  have hG : ∀ w, Gone (.pointer none) w := fun w => spNone_nil w
  have q2 := W_hid (fun w => Mmap_none (.pointer none) size a2 false w (hG w))
  have q3 := W_hid (fun w => Brk_none (.pointer none) a2 w (hG w))
  have q4 := W_hid (fun w => Walk_none (.pointer none) va a2 w (hG w))
  have q5 := W_hid (fun w => Munmap_none (.pointer none) va size w (hG w))
  have q6 := W_hid (fun w => Mprotect_none none va size a2 w (fun w' _ => hG w'))
  have q7 := W_hid (fun w => Drop_none (.pointer none) w (hG w))
  have q8 := W_hid (fun w => Regions_none (.pointer none) w (hG w))
  have q9 := W_hid (fun w => Pages_none (.pointer none) w (hG w))
  clear hk hG w0 w1 w2 b0 b1
  go_enter Tryz.func7, Tryz.ntmps7
  go_wp2_with fail
  refine hS.out.mono ?_
  rintro e w1 ⟨rfl, bel1⟩
  replace bel1 := W_hid bel1
  clear hS
  go_wp2_with fail
  refine (q1.out _).mono ?_
  rintro e w' ⟨rfl, rfl⟩
  go_wp2_with fail
  refine (q2.out _).mono ?_
  rintro e w' ⟨rfl, rfl⟩
  go_wp2_with fail
  refine (q3.out _).mono ?_
  rintro e w' ⟨rfl, rfl⟩
  go_wp2_with fail
  refine (q4.out _).mono ?_
  rintro e w' ⟨rfl, rfl⟩
  go_wp2_with fail
  refine (q5.out _).mono ?_
  rintro e w' ⟨rfl, rfl⟩
  go_wp2_with fail
  refine (q6.out _).mono ?_
  rintro e w2 ⟨rfl, bel2⟩
  have bel3 := W_hid (bel1.out.trans (bel2.mono bel1.out.size))
  clear bel1 bel2
  go_wp2_with fail
  refine (q7.out _).mono ?_
  rintro e w' ⟨rfl, rfl⟩
  go_wp2_with fail
  refine (q8.out _).mono ?_
  rintro e w' ⟨rfl, rfl⟩
  go_wp2_with fail
  refine (q9.out _).mono ?_
  rintro e w' ⟨rfl, rfl⟩
  go_wp2
  go_ret
  exact ⟨rfl, bel3.out⟩
end Go.Proofs.YtkomahekdcaiaaaGreatDoor

/- The table of kinds as the rows list it: its cells; and the heap that the program's own initialisers leave meets the condition. -/
namespace Go.Proofs.YtkomahekdcaiaaaGreatDoor
open Go.ChangeShapes Go.WideShapes Go.ChangeAt Go.RowKit
set_option linter.unusedVariables false
set_option linter.unusedSimpArgs false

theorem own_knob : ownKnob Tryz.prog.godebug = none := by kernel_rfl
theorem kinds_named : Tryz.prog.globalNamed "hayward/entry.kinds" = some 0 := by kernel_rfl
theorem kinds_type : (Tryz.prog.globals[0]?).map (·.type) = some 196 := by kernel_rfl

theorem cell_bool {H : Type} {enc : TypeId × Value → H} {W : World} {m b0 : Nat} {s : Nat → Bool} {hl : Bool} {v : Value} {b : Bool} {x : DataW H × List MemPlace} (h : DataW.trod enc Tryz.prog W b0 s hl m 4 [v] = some x) (hx : x.1 = .lit (.bool b)) : v = .bool b := by
  obtain ⟨z, e, rfl⟩ := DataW.trod_bool Tryz.underlying4 h
  simp at hx; subst hx; simpa using e
theorem cell_int {H : Type} {enc : TypeId × Value → H} {W : World} {m b0 : Nat} {s : Nat → Bool} {hl : Bool} {v : Value} {b : Int} {x : DataW H × List MemPlace} (h : DataW.trod enc Tryz.prog W b0 s hl m 3 [v] = some x) (hx : x.1 = .lit (.int .i64 b)) : v = .int .i64 b := by
  obtain ⟨z, e, rfl, -⟩ := DataW.trod_int Tryz.underlying3 h
  simp at hx; subst hx; simpa using e
theorem cell_u64 {H : Type} {enc : TypeId × Value → H} {W : World} {m b0 : Nat} {s : Nat → Bool} {hl : Bool} {v : Value} {b : Int} {x : DataW H × List MemPlace} (h : DataW.trod enc Tryz.prog W b0 s hl m 36 [v] = some x) (hx : x.1 = .lit (.int .u64 b)) : v = .int .u64 b := by
  obtain ⟨z, e, rfl, -⟩ := DataW.trod_int Tryz.underlying36 h
  simp at hx; subst hx; simpa using e

/-- One kind's six cells. -/
theorem kind_cells {H : Type} {enc : TypeId × Value → H} {W : World} {m b0 : Nat} {s : Nat → Bool} {hl : Bool} {v0 v1 v2 v3 v4 v5 : Value} {a b : Bool} {lo hi F S : Int} {x : DataW H × List MemPlace}
    (h : DataW.trod enc Tryz.prog W b0 s hl m 195 [v0, v1, v2, v3, v4, v5] = some x) (hx : x.1 = .agg [.lit (.bool a), .lit (.bool b), .lit (.int .i64 lo), .lit (.int .i64 hi), .lit (.int .u64 F), .lit (.int .u64 S)]) :
    [v0, v1, v2, v3, v4, v5] = [.bool a, .bool b, .int .i64 lo, .int .i64 hi, .int .u64 F, .int .u64 S] := by
  obtain ⟨xs, n, -, rfl, -, hlen, hf⟩ := DataW.trod_struct Tryz.underlying195 h
  match xs, hlen with
  | [y0, y1, y2, y3, y4, y5], _ =>
    have t0 : Tryz.prog.cellsOf 4 = 1 := by kernel_rfl
    have t1 : Tryz.prog.cellsOf 36 = 1 := by kernel_rfl
    have t2 : Tryz.prog.cellsOf 3 = 1 := by kernel_rfl
    have g0 := hf 0 _ rfl
    have g1 := hf 1 _ rfl
    have g2 := hf 2 _ rfl
    have g3 := hf 3 _ rfl
    have g4 := hf 4 _ rfl
    have g5 := hf 5 _ rfl
    simp [t0, t1, t2] at g0 g1 g2 g3 g4 g5
    simp at hx
    obtain ⟨e0, e1, e2, e3, e4, e5⟩ := hx
    rw [cell_bool g0 e0, cell_bool g1 e1, cell_int g2 e2, cell_int g3 e3, cell_u64 g4 e4, cell_u64 g5 e5]

theorem eighteen {l : List Value} (h : l.length = 18) : ∃ a0 a1 a2 a3 a4 a5 b0 b1 b2 b3 b4 b5 c0 c1 c2 c3 c4 c5, l = [a0, a1, a2, a3, a4, a5, b0, b1, b2, b3, b4, b5, c0, c1, c2, c3, c4, c5] := by
  match l, h with
  | [a0, a1, a2, a3, a4, a5, b0, b1, b2, b3, b4, b5, c0, c1, c2, c3, c4, c5], _ => exact ⟨_, _, _, _, _, _, _, _, _, _, _, _, _, _, _, _, _, _, rfl⟩

/-- What the condition gives the walks. -/
theorem kt_of_laid {W : World} (h : laidMetH Tryz.prog [("hayward/entry.kinds", Rows.laid_hayward_entry_kinds)] W) : KT W := by
  rw [MakeChecks.laidMetH_plain _ _ _ (by kernel_rfl)] at h
  obtain ⟨ps, ⟨g0, t0, cs0, f0, p0, q0, hg0, ht0, hv0, hd0, -⟩, -⟩ := h
  obtain rfl := Option.some.inj (kinds_named.symm.trans hg0)
  obtain rfl := Option.some.inj (kinds_type.symm.trans ht0)
  obtain ⟨l⟩ := cs0
  obtain ⟨xs, m1, -, hx1, hlen, hn, hel⟩ := DataW.trod_array Tryz.underlying196 hd0
  rw [show Tryz.prog.cellsOf 196 = 18 from by kernel_rfl] at hlen
  rw [show Tryz.prog.cellsOf 195 = 6 from by kernel_rfl] at hel
  obtain ⟨a0, a1, a2, a3, a4, a5, b0, b1, b2, b3, b4, b5, c0, c1, c2, c3, c4, c5, rfl⟩ := eighteen hlen
  match xs, hn, hx1, hel with
  | [x0, x1, x2], _, hx1, hel =>
    simp only [Prod.mk.injEq] at hx1
    have hx2 := hx1.1
    unfold Rows.laid_hayward_entry_kinds at hx2
    simp only [List.map_cons, List.map_nil, DataW.agg.injEq, List.cons.injEq, and_true] at hx2
    obtain ⟨e0, e1, e2⟩ := hx2
    have k0 := kind_cells (hel 0 (by decide)) e0.symm
    have k1 := kind_cells (hel 1 (by decide)) e1.symm
    have k2 := kind_cells (hel 2 (by decide)) e2.symm
    simp only [List.cons.injEq, and_true] at k0 k1 k2
    obtain ⟨rfl, rfl, rfl, rfl, rfl, rfl⟩ := k0
    obtain ⟨rfl, rfl, rfl, rfl, rfl, rfl⟩ := k1
    obtain ⟨rfl, rfl, rfl, rfl, rfl, rfl⟩ := k2
    unfold World.var? at hv0
    rw [kinds_named] at hv0
    simp only [Option.bind_some] at hv0
    split at hv0
    · rename_i cs t fr heq
      cases hv0
      exact ⟨t, fr, heq⟩
    · cases hv0

/-- The heap that the program's own initialisers leave meets the condition. -/
theorem kinds_met (os : Os) (args : Array Value) : laidMetH Tryz.prog [("hayward/entry.kinds", Rows.laid_hayward_entry_kinds)] ((World.doorLaid Tryz.prog 400 os).forCall (fun _ _ => 0) ⟨#[], args, []⟩).memory :=
  laidMetH_of_parts3 (fuel := 8) (laidMet_of_run' 8 (by kernel_rfl) (by kernel_rfl)) (by kernel_rfl) (by kernel_rfl)

end Go.Proofs.YtkomahekdcaiaaaGreatDoor

namespace Go.Proofs.YtkomahekdcaiaaaGreatDoor
open Go.ChangeShapes Go.WideShapes Go.ChangeAt Go.RowKit
set_option linter.unusedVariables false
set_option linter.unusedSimpArgs false
set_option maxRecDepth 100000 in
theorem SpaceNone_lifted (os : Os) (started : os.Started) (H : Type) (enc : TypeId × Value → H) :
    ReturnsInHanded {} Tryz.checked os 7 .any (fun w args => (Rows.spaceNoneSpec.pre enc Tryz.prog Tryz.f7 [] false w args ∧ laidMetH Tryz.prog [("hayward/entry.kinds", Rows.laid_hayward_entry_kinds)] w) ∧ sizedMet enc Tryz.prog Tryz.f7 (OpenSpec.ofChange Rows.spaceNoneSpec) false w args)
      (Rows.spaceNoneSpec.post enc Tryz.prog Tryz.f7 false true false false) := by
  refine returnsInHanded_of_change_and (C := Tryz.checked) (X := fun w _ => laidMetH Tryz.prog [("hayward/entry.kinds", Rows.laid_hayward_entry_kinds)] w) (fun _ _ _ hh h => h.of_heap hh) (by kernel_rfl) started (by kernel_rfl) Tryz.func7
    (ChangeSpec.witness_shaped (enc := enc) (C := Tryz.checked) (os := os) (X := fun w _ => laidMetH Tryz.prog [("hayward/entry.kinds", Rows.laid_hayward_entry_kinds)] w) false (World.doorLaid Tryz.prog 400 os) #[.int .u64 0, .int .u64 0, .int .i64 0] 8 rfl (World.shaped_of_RefB (by kernel_rfl) (by kernel_rfl)) (by kernel_rfl) (by kernel_rfl) (by kernel_rfl) (kinds_met os _)) ?_
  intro W base args ds gs before hval0 hW hcnd hsz0 hL _
  have hval : ∀ (j : Nat) t v, Tryz.f7.params[j]? = some t → args[j]? = some v → Value.okWide Tryz.prog W .any base t v := hval0
  have hW' := hW
  obtain ⟨p, q, hA0, hV, rfl, hfz, hnd⟩ := hW
  have hA : DataW.TrodAll enc Tryz.prog W 0 (fun _ => true) true Tryz.f7.params.toList args.toList ds p := hA0
  rw [Tryz.params7] at hA hval
  obtain ⟨v0, vs0, d0, ds0, p0, q0, hargs, rfl, rfl, h0, r0⟩ := trodAll_cons hA
  obtain ⟨v1, vs1, d1, ds1, p1, q1, rfl, rfl, rfl, h1, r1⟩ := trodAll_cons r0
  obtain ⟨v2, vs2, d2, ds2, p2, q2, rfl, rfl, rfl, h2, r2⟩ := trodAll_cons r1
  obtain ⟨rfl, rfl, rfl⟩ := trodAll_nil r2
  obtain rfl : args = #[v0, v1, v2] := by cases args; simp_all
  obtain ⟨rfl, rfl⟩ := trodVars_none hV
  obtain ⟨a0, rfl, rfl, rfl, w0⟩ := open_int Tryz.underlying36 (hval 0 36 v0 rfl rfl) h0
  obtain ⟨a1, rfl, rfl, rfl, w1⟩ := open_int Tryz.underlying36 (hval 1 36 v1 rfl rfl) h1
  obtain ⟨a2, rfl, rfl, rfl, w2⟩ := open_int Tryz.underlying3 (hval 2 3 v2 rfl rfl) h2
  clear hA0 hval0
  refine (SpaceNone_walk a0 a1 a2 W (kt_of_laid hL) w0 w1 w2).mono fun e W' ⟨he, bel⟩ => ?_
  subst he
  exact ⟨_, rfl, _, _, _, [], _, [], hW', trodAll_mk1 (shut_bool Tryz.underlying4 _), (trodAll_cons_mk (shut_int Tryz.underlying36 w0) (trodAll_cons_mk (shut_int Tryz.underlying36 w1) (trodAll_cons_mk (shut_int Tryz.underlying3 w2) trodAll_mk0))), rfl, bel.frame _, fun h => by cases h⟩

/-- The given statement of SpaceNone. -/
theorem SpaceNone_holds : Rows.SpaceNoneSaid :=
  OpenClaim.holds_of_wide 7 Tryz.f7 rfl rfl rfl rfl rfl rfl rfl ⟨rfl, rfl, rfl, rfl, rfl⟩ rfl rfl rfl rfl rfl (by kernel_rfl) Tryz.func7 (by kernel_rfl)
    (of_decide_eq_true (by kernel_rfl)) (by unfold Func.isWrapper; first | (rw [if_pos (by decide +kernel)]; kernel_rfl) | (rw [if_neg (by decide +kernel)]; exact ⟨rfl, rfl⟩))
    (fun os started H enc _ => SpaceNone_lifted os started H enc)

/-- The given card of SpaceNone: the row, with what it lists tied to the text of the program. -/
theorem SpaceNone_card_holds : Rows.SpaceNoneCardSaid :=
  Claim7.holds_tied_plain_at .later [] [.data] true Rows.spaceNoneCard.stood.harness Rows.spaceNoneCard.stood.looks
    SpaceNone_holds (fun _ h => by cases h) (by kernel_rfl) (fun _ h => by cases h) spaceNone_row_tie rfl ⟨rfl, rfl⟩ (by kernel_rfl) rfl
    (fun f fn hf hfn => by
      obtain rfl : f = 7 := Option.some.inj ((show Tryz.prog.funcNamed "hayward/haywardlaw10.SpaceNone" = some 7 by kernel_rfl).symm.trans hf) |>.symm
      obtain rfl : fn = Tryz.f7 := (Option.some.inj (Tryz.func7.symm.trans hfn)).symm
      exact ⟨by kernel_rfl, fun j t ht => by
        rw [Tryz.params7] at ht
        have hm : t ∈ [36, 36, 3] := by simpa using Array.mem_of_getElem? ht
        have hall : ([36, 36, 3].all fun u => !Tryz.prog.wantsStandIn u) = true := by kernel_rfl
        exact (show Tryz.prog.wantsStandIn t = false by simpa using List.all_eq_true.1 hall t hm)⟩)
    (by kernel_rfl)
end Go.Proofs.YtkomahekdcaiaaaGreatDoor

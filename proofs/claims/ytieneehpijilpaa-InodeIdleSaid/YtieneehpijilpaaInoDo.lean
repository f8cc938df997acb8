/- Contracts of package inode's New, Link, Unlink, Open, Close, of stores that are there. -/
import Derived.Test.YtieneehpijilpaaInoAsk
import Derived.Test.YtieneehpijilpaaExtRead
import Derived.Deep.RegionHeld3
namespace Go.Proofs.Ytieneehpijilpaa
open Go.ChangeShapes Go.WideShapes Go.ChangeAt Go.RowKit Go.Maps
set_option linter.unusedVariables false
set_option linter.unusedSimpArgs false
namespace IN

/-- A store in memory, and what it may be. -/
structure PS (base : Nat) (w : World) (sg mb : Nat) (M : Int → Option Nat) (I L B k : Nat) (S : Int → Option Nd) : Prop where
  pm : PM base w sg mb M (I : Int) (L : Int) ((B : Int) - (tot S I : Int)) S
  fn : Fine I L B k S
  lim : I ≤ 4096 ∧ L ≤ 32768 ∧ B ≤ 16777216
/-- What a call leaves: an answer, the store turned, all else as it was. -/
def Out (base sg mb I L B k : Nat) (w : World) (r : Int) (S : Int → Option Nd) (e : Ending) (w' : World) : Prop :=
  e = .returned (.int .i64 r) ∧ (∃ M, PS base w' sg mb M I L B k S) ∧ Keeps base PT w w'
section
variable {base sg mb I L B k : Nat} {M : Int → Option Nat} {S : Int → Option Nd} {w w' : World}
theorem PS.keep (h : PS base w sg mb M I L B k S) (hb : Below w.heap.size w w') : PS base w' sg mb M I L B k S := ⟨h.pm.keep hb, h.fn, h.lim⟩
theorem PS.more (h : PS base w sg mb M I L B k S) {k' : Nat} (hk : k ≤ k') : PS base w sg mb M I L B k' S := ⟨h.pm, h.fn.mono hk, h.lim⟩
theorem PS.keeps (h : PS base w sg mb M I L B k S) {C : Nat} {T : Obj → Prop} (hK : Keeps C T w w') (h1 : ∀ c s, ¬ T (.cells c 57 s)) (h2 : ∀ c s, ¬ T (.cells c 74 s)) (h3 : ∀ es c, ¬ T (.map es c)) (h4 : ∀ c, ¬ T (.cells c 94 (0, 0))) : PS base w' sg mb M I L B k S := ⟨h.pm.keeps hK h1 h2 h3 h4, h.fn, h.lim⟩
theorem PS.low (h : PS base w sg mb M I L B k S) : base ≤ w.heap.size := Nat.le_trans h.pm.ge.1 (Nat.le_of_lt h.pm.box.lt)
theorem Out.same (h : PS base w sg mb M I L B k S) {k' : Nat} (hk : k ≤ k') (hb : Below w.heap.size w w') (r : Int) : Out base sg mb I L B k' w r S (.returned (.int .i64 r)) w' :=
  ⟨rfl, ⟨M, (h.keep hb).more hk⟩, Keeps.new hb h.low⟩
theorem PS.nums (h : PS base w sg mb M I L B k S) : IS.Nums M (ks S I) := ks_nums h.fn.num h.pm.dom

set_option maxRecDepth 100000 in
theorem ask_three (k3 : Nat) (r3 : Nd → Int) (n : Int) {I L left : Int} (h : PM base w sg mb M I L left S) (hn : IS.I64 n) (e3 : ∀ w, (callFunc k3 #[.pointer (some ⟨sg, 0, none⟩), .int .i64 n]).run Try.prog w = .ok (.enter k3 #[.pointer (some ⟨sg, 0, none⟩), .int .i64 n]) w)
    (h3 : ∀ d, S n = some d → ∀ W, Below w.heap.size w W → Calls Try.prog k3 #[.pointer (some ⟨sg, 0, none⟩), .int .i64 n] W (Ans (r3 d) W)) :
    Calls Try.prog 35 #[.int .i64 n, .slice (some ⟨w.heap.size, 0, none⟩) 3 3] (w.alloc (.cells #[.func (.func 36) #[.pointer (some ⟨sg, 0, none⟩)] #[], .func (.func 42) #[.pointer (some ⟨sg, 0, none⟩)] #[], .func (.func k3) #[.pointer (some ⟨sg, 0, none⟩)] #[]] 45)) fun e w' => e = .returned (.int .i64 (askR S n r3)) ∧ Below w.heap.size w w' := by
  have hal := (Below.refl w.heap.size w).alloc (Nat.le_refl _) (.cells #[.func (.func 36) #[.pointer (some ⟨sg, 0, none⟩)] #[], .func (.func 42) #[.pointer (some ⟨sg, 0, none⟩)] #[], .func (.func k3) #[.pointer (some ⟨sg, 0, none⟩)] #[]] 45)
  have hb : ∀ W, Below _ _ W → Below w.heap.size w W := fun W hW => hal.trans (hW.mono hal.size)
  refine (first_three (.pointer (some ⟨sg, 0, none⟩)) _ _ k3 0 (if (S n).isSome = true then 0 else 11) (match S n with | none => 0 | some d => r3 d) n w.heap.size _ (chk_blk w [.func (.func 36) #[.pointer (some ⟨sg, 0, none⟩)] #[], .func (.func 42) #[.pointer (some ⟨sg, 0, none⟩)] #[], .func (.func k3) #[.pointer (some ⟨sg, 0, none⟩)] #[]] _ rfl)
    (fun w => by kernel_rfl) (fun w => by kernel_rfl) e3 (fun W hW => made_some _ W (h.keep (hb W hW))) (fun W _ hW => has_any n W (h.keep (hb W hW)) hn) (fun W _ h2 hW => ?_)).mono ?_
  · cases hS : S n with
    | none => rw [hS] at h2; simp at h2
    | some d => exact h3 d hS W (hb W hW)
  · rintro e w' ⟨rfl, hb'⟩
    refine ⟨?_, hb w' hb'⟩
    cases hS : S n with
    | none => simp [askR, hS, fst]
    | some d =>
      simp only [askR, hS, fst, Option.isSome_some, if_true]
      split <;> simp_all
set_option maxRecDepth 100000 in
theorem ask_two (n : Int) {I L left : Int} (h : PM base w sg mb M I L left S) (hn : IS.I64 n) :
    Calls Try.prog 35 #[.int .i64 n, .slice (some ⟨w.heap.size, 0, none⟩) 2 2] (w.alloc (.cells #[.func (.func 36) #[.pointer (some ⟨sg, 0, none⟩)] #[], .func (.func 42) #[.pointer (some ⟨sg, 0, none⟩)] #[]] 45)) fun e w' => e = .returned (.int .i64 (askR S n fun _ => 0)) ∧ Below w.heap.size w w' := by
  have hal := (Below.refl w.heap.size w).alloc (Nat.le_refl _) (.cells #[.func (.func 36) #[.pointer (some ⟨sg, 0, none⟩)] #[], .func (.func 42) #[.pointer (some ⟨sg, 0, none⟩)] #[]] 45)
  have hb : ∀ W, Below _ _ W → Below w.heap.size w W := fun W hW => hal.trans (hW.mono hal.size)
  refine (first_two (.pointer (some ⟨sg, 0, none⟩)) _ _ 0 (if (S n).isSome = true then 0 else 11) n w.heap.size _ (chk_blk w [.func (.func 36) #[.pointer (some ⟨sg, 0, none⟩)] #[], .func (.func 42) #[.pointer (some ⟨sg, 0, none⟩)] #[]] _ rfl)
    (fun w => by kernel_rfl) (fun w => by kernel_rfl) (fun W hW => made_some _ W (h.keep (hb W hW))) (fun W _ hW => has_any n W (h.keep (hb W hW)) hn)).mono ?_
  rintro e w' ⟨rfl, hb'⟩
  refine ⟨?_, hb w' hb'⟩
  cases hS : S n with
  | none => simp [askR, hS, fst]
  | some d => simp [askR, hS, fst]

/-! What the calls answer, and make of the inodes. -/
def lkR (L : Int) (S : Int → Option Nd) (n : Int) : Int := askR S n fun d => if d.links < L then 0 else 18
def lkS (L : Int) (S : Int → Option Nd) (n : Int) : Int → Option Nd := match S n with
  | none => S
  | some d => if d.links < L then upd S n (some { d with links := d.links + 1 }) else S
def gone (S : Int → Option Nd) (n : Int) : Int → Option Nd := match S n with
  | none => S
  | some d => if d.links = 0 ∧ d.opens = 0 then upd S n none else S
def ulR (S : Int → Option Nd) (n : Int) : Int := askR S n fun d => if 0 < d.links then 0 else 2
def ulS (S : Int → Option Nd) (n : Int) : Int → Option Nd := match S n with
  | none => S
  | some d => if 0 < d.links then gone (upd S n (some { d with links := d.links - 1 })) n else S
def opR (S : Int → Option Nd) (n : Int) : Int := askR S n fun _ => 0
def opS (S : Int → Option Nd) (n : Int) : Int → Option Nd := match S n with
  | none => S
  | some d => upd S n (some { d with opens := d.opens + 1 })
def clR (S : Int → Option Nd) (n : Int) : Int := askR S n fun d => if 0 < d.opens then 0 else 2
def clS (S : Int → Option Nd) (n : Int) : Int → Option Nd := match S n with
  | none => S
  | some d => if 0 < d.opens then gone (upd S n (some { d with opens := d.opens - 1 })) n else S

theorem tot_same {n : Int} {d d' : Nd} (hS : S n = some d) (hf : Fine I L B k S) (hl : d'.l = d.l) : tot (upd S n (some d')) I = tot S I := by
  have hb := hf.num n (by rw [hS]; simp)
  obtain ⟨m, rfl⟩ : ∃ m : Nat, n = m := ⟨n.toNat, by omega⟩
  have := tot_upd S m I (some d') (by omega) (by omega)
  rw [hS] at this
  simp only [cntOf, hl] at this
  omega
theorem Fine.set {n : Int} {d d' : Nd} (hf : Fine I L B k S) (hS : S n = some d) {k' : Nat} (hk : k ≤ k') (hl : EM.cnt d'.l = EM.cnt d.l) (hg : Good L k' d') : Fine I L B k' (upd S n (some d')) := by
  have hb := hf.num n (by rw [hS]; simp)
  obtain ⟨m, rfl⟩ : ∃ m : Nat, n = m := ⟨n.toNat, by omega⟩
  refine (hf.mono hk).turn (by omega) (by omega) (fun x hx => by cases hx; exact hg) ?_
  rw [hS]
  simp only [cntOf, hl]
  have := hf.tot
  omega

set_option maxRecDepth 100000 in
set_option maxHeartbeats 4000000 in
theorem Link_any (n : Int) (w : World) (h : PS base w sg mb M I L B k S) (hn : IS.I64 n) : Calls Try.prog 17 #[.pointer (some ⟨sg, 0, none⟩), .int .i64 n] w (Out base sg mb I L B k w (lkR L S n) (lkS L S n)) := by
  have hmf : ∀ (fn : Fn) (first cap : Array Value) (w : World), (Instr.makeFunc fn first cap).run Try.prog w = .ok (.func fn first cap) w := fun _ _ _ _ => rfl
  have cA := ask_three 43 (fun d => if d.links < (L : Int) then 0 else 18) n h.pm hn (fun w => by kernel_rfl) (fun d hS W hW => linkable_any n d W (h.pm.keep hW) hn hS)
  cases hS : S n with
  | none =>
    have e1 : lkR L S n = 11 := by simp [lkR, askR, hS]
    have e2 : lkS L S n = S := by simp [lkS, hS]
    have e3 : (askR S n fun d => if d.links < (L : Int) then 0 else 18) = 11 := e1
    rw [e1, e2]
    rw [e3] at cA
    have H := W_hid h
    have cA := W_hid cA
    clear h e1 e2 e3 hS
    go_enter Try.func17, Try.ntmps17
    go_wp2_with fail
    refine cA.out.mono ?_
    rintro e w1 ⟨rfl, b1⟩
    go_wp2_with fail
    go_ret
    exact Out.same H.out (Nat.le_refl _) b1 11
  | some d =>
    have hg := h.fn.good n d hS
    by_cases hl : d.links < L
    · have e1 : lkR L S n = 0 := by simp [lkR, askR, hS, hl]
      have e2 : lkS L S n = upd S n (some { d with links := d.links + 1 }) := by simp [lkS, hS, hl]
      have e3 : (askR S n fun d => if d.links < (L : Int) then 0 else 18) = 0 := e1
      rw [e1, e2]
      rw [e3] at cA
      have H := W_hid h
      have cA := W_hid cA
      have hw : IntKind.i64.wrap (d.links + 1) = d.links + 1 := by rw [IntKind.wrap_i64]; have := hg.links; have := h.lim; omega
      have HS := W_hid hS
      have HG := W_hid hg
      clear h e1 e2 e3 hS hg
      go_enter Try.func17, Try.ntmps17
      go_wp2_with fail
      refine cA.out.mono ?_
      rintro e w1 ⟨rfl, b1⟩
      have h1 := H.out.keep b1
      have c0 := h1.pm.box.cell (j := 0) rfl
      have hlk := h1.pm.mp.look n hn
      obtain ⟨g, v, hM, hN, hge, hgs, hgm⟩ := h1.pm.has HS.out
      rw [hM] at hlk
      simp only [IS.ptr] at hlk
      have d1 := hN.1.cell (j := 1) rfl
      have f1 := hN.1.fz
      obtain ⟨p1, p2, p3⟩ := h1.pm.setNode (d' := { d with links := d.links + 1 }) (v' := v) hM HS.out hN.1 hN.2 1 (.int .i64 (d.links + 1)) rfl
      have b1' := W_hid b1
      have p1 := W_hid p1
      have p3 := W_hid p3
      have hlim := W_hid h1.lim
      have hfn := W_hid h1.fn
      have hlow := W_hid H.out.low
      clear h1 hN hM p2 b1
      go_wp2_with fail
      go_ret
      refine ⟨rfl, ⟨M, ?_, hfn.out.set HS.out (Nat.le_refl _) rfl ⟨HG.out.kind, ⟨by have := HG.out.links.1; simp; omega, by simp; omega⟩, HG.out.opens, by have := HG.out.some; simp; omega, HG.out.size, HG.out.ok, HG.out.fin, HG.out.dir⟩, hlim.out⟩, (Keeps.new b1'.out hlow.out).trans p3.out⟩
      rw [tot_same (d' := { d with links := d.links + 1 }) HS.out hfn.out rfl]
      exact p1.out
    · have e1 : lkR L S n = 18 := by simp [lkR, askR, hS, hl]
      have e2 : lkS L S n = S := by simp [lkS, hS, hl]
      have e3 : (askR S n fun d => if d.links < (L : Int) then 0 else 18) = 18 := e1
      rw [e1, e2]
      rw [e3] at cA
      have H := W_hid h
      have cA := W_hid cA
      clear h e1 e2 e3 hS
      go_enter Try.func17, Try.ntmps17
      go_wp2_with fail
      refine cA.out.mono ?_
      rintro e w1 ⟨rfl, b1⟩
      go_wp2_with fail
      go_ret
      exact Out.same H.out (Nat.le_refl _) b1 18
end
end IN
end Go.Proofs.Ytieneehpijilpaa

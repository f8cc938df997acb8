/- Contracts of package inode's Unlink, Open, Close, of stores that are there. -/
import Derived.Test.YtieneehpijilpaaInoSet
namespace Go.Proofs.Ytieneehpijilpaa
open Go.ChangeShapes Go.WideShapes Go.ChangeAt Go.RowKit Go.Maps
set_option linter.unusedVariables false
set_option linter.unusedSimpArgs false
namespace IN
section
variable {base sg mb I L B k : Nat} {M : Int → Option Nat} {S : Int → Option Nd}

theorem fine_gone {n : Int} {d d1 : Nd} (hf : Fine I L B k S) (hS : S n = some d) {k' : Nat} (hk : k ≤ k') (hl : d1.l = d.l) (h1 : d1.kind = d.kind) (h2 : 0 ≤ d1.links ∧ d1.links ≤ L) (h3 : 0 ≤ d1.opens ∧ d1.opens ≤ k') (h4 : d1.size = d.size) :
    Fine I L B k' (gone (upd S n (some d1)) n) ∧ (if d1.links = 0 ∧ d1.opens = 0 then ((B : Int) - (tot S I : Int)) + (EM.cnt d1.l : Int) else (B : Int) - (tot S I : Int)) = (B : Int) - (tot (gone (upd S n (some d1)) n) I : Int) := by
  have hb := hf.num n (by rw [hS]; simp)
  obtain ⟨m, rfl⟩ : ∃ m : Nat, n = m := ⟨n.toNat, by omega⟩
  have hg := hf.good m d hS
  have ht := hf.tot
  by_cases hz : d1.links = 0 ∧ d1.opens = 0
  · have e : gone (upd S (m : Int) (some d1)) (m : Int) = upd S (m : Int) none := by
      unfold gone; rw [upd_at]; simp only; rw [if_pos hz, upd_upd]
    rw [e, if_pos hz]
    have h := tot_upd S m I none (by omega) (by omega)
    rw [hS] at h
    simp only [cntOf] at h
    rw [hl]
    refine ⟨(hf.mono hk).turn (by omega) (by omega) (fun x hx => by cases hx) (by simp only [cntOf]; omega), by omega⟩
  · have e : gone (upd S (m : Int) (some d1)) (m : Int) = upd S (m : Int) (some d1) := by
      unfold gone; rw [upd_at]; simp only; rw [if_neg hz]
    rw [e, if_neg hz]
    refine ⟨hf.set hS hk (by rw [hl]) ⟨by rw [h1]; exact hg.kind, h2, h3, by omega, by rw [h4]; exact hg.size, by rw [hl]; exact hg.ok, by rw [hl, h4]; exact hg.fin, by rw [h1, h4, hl]; exact hg.dir⟩, ?_⟩
    rw [tot_same hS hf hl]

set_option maxRecDepth 100000 in
set_option maxHeartbeats 4000000 in
theorem Unlink_any (n : Int) (w : World) (h : PS base w sg mb M I L B k S) (hn : IS.I64 n) (hk : k < 1000000) : Calls Try.prog 18 #[.pointer (some ⟨sg, 0, none⟩), .int .i64 n] w (Out base sg mb I L B k w (ulR S n) (ulS S n)) := by
  have hmf : ∀ (fn : Fn) (first cap : Array Value) (w : World), (Instr.makeFunc fn first cap).run Try.prog w = .ok (.func fn first cap) w := fun _ _ _ _ => rfl
  have cA := ask_three 44 (fun d => if 0 < d.links then 0 else 2) n h.pm hn (fun w => by kernel_rfl) (fun d hS W hW => linked_any n d W (h.pm.keep hW) hn hS)
  cases hS : S n with
  | none =>
    have e1 : ulR S n = 11 := by simp [ulR, askR, hS]
    have e2 : ulS S n = S := by simp [ulS, hS]
    have e3 : (askR S n fun d => if 0 < d.links then 0 else 2) = 11 := e1
    rw [e1, e2]
    rw [e3] at cA
    have H := W_hid h
    have cA := W_hid cA
    clear h e1 e2 e3 hS
    go_enter Try.func18, Try.ntmps18
    go_wp2_with fail
    refine cA.out.mono ?_
    rintro e w1 ⟨rfl, b1⟩
    go_wp2_with fail
    go_ret
    exact Out.same H.out (Nat.le_refl _) b1 11
  | some d =>
    have hg := h.fn.good n d hS
    by_cases hl : 0 < d.links
    · have e1 : ulR S n = 0 := by simp [ulR, askR, hS, hl]
      have e2 : ulS S n = gone (upd S n (some { d with links := d.links - 1 })) n := by simp [ulS, hS, hl]
      have e3 : (askR S n fun d => if 0 < d.links then 0 else 2) = 0 := e1
      rw [e1, e2]
      rw [e3] at cA
      have H := W_hid h
      have cA := W_hid cA
      have hw : IntKind.i64.wrap (d.links - 1) = d.links - 1 := by rw [IntKind.wrap_i64]; have := hg.links; have := hg.opens; have := h.lim; omega
      have HS := W_hid hS
      have HG := W_hid hg
      clear h e1 e2 e3 hS hg
      go_enter Try.func18, Try.ntmps18
      go_wp2_with fail
      refine cA.out.mono ?_
      rintro e w1 ⟨rfl, b1⟩
      have h1 := H.out.keep b1
      have c0 := h1.pm.box.cell (j := 0) rfl
      have hlk := h1.pm.mp.look n hn
      obtain ⟨g, v, hM, hN, hge, hgs, hgm⟩ := h1.pm.has HS.out
      rw [hM] at hlk
      simp only [IS.ptr] at hlk
      have d1 := hN.1.cell (j := 1) rfl
      have f1 := hN.1.fz
      obtain ⟨p1, p2, p3⟩ := h1.pm.setNode (d' := { d with links := d.links - 1 }) (v' := v) hM HS.out hN.1 hN.2 1 (.int .i64 (d.links - 1)) rfl
      have ht := h1.fn.tot
      have hB := h1.lim.2.2
      have cT := W_hid (settle_any n { d with links := d.links - 1 } _ p1 hn (upd_at _ _ _) HG.out.ok ⟨by omega, by omega⟩)
      have F := W_hid (fine_gone (d1 := { d with links := d.links - 1 }) h1.fn HS.out (Nat.le_refl _) rfl rfl ⟨by have := HG.out.links; simp; omega, by have := HG.out.links; simp; omega⟩ ⟨by have := HG.out.opens; simp; omega, by have := HG.out.opens; simp; omega⟩ rfl)
      have b1' := W_hid b1
      have p1 := W_hid p1
      have p3 := W_hid p3
      have hlim := W_hid h1.lim
      have hfn := W_hid h1.fn
      have hlow := W_hid H.out.low
      clear h1 hN hM p2 b1 ht hB
      go_wp2_with fail
      refine cT.out.mono ?_
      rintro e w2 ⟨rfl, ⟨M2, q1⟩, q2⟩
      rw [F.out.2] at q1
      have q1 := W_hid q1
      have q2 := W_hid q2
      clear cT
      go_wp2_with fail
      go_ret
      exact ⟨rfl, ⟨M2, q1.out, F.out.1, hlim.out⟩, (Keeps.new b1'.out hlow.out).trans (p3.out.trans q2.out)⟩
    · have e1 : ulR S n = 2 := by simp [ulR, askR, hS, hl]
      have e2 : ulS S n = S := by simp [ulS, hS, hl]
      have e3 : (askR S n fun d => if 0 < d.links then 0 else 2) = 2 := e1
      rw [e1, e2]
      rw [e3] at cA
      have H := W_hid h
      have cA := W_hid cA
      clear h e1 e2 e3 hS
      go_enter Try.func18, Try.ntmps18
      go_wp2_with fail
      refine cA.out.mono ?_
      rintro e w1 ⟨rfl, b1⟩
      go_wp2_with fail
      go_ret
      exact Out.same H.out (Nat.le_refl _) b1 2

set_option maxRecDepth 100000 in
set_option maxHeartbeats 4000000 in
theorem Open_any (n : Int) (w : World) (h : PS base w sg mb M I L B k S) (hn : IS.I64 n) (hk : k < 1000000) : Calls Try.prog 19 #[.pointer (some ⟨sg, 0, none⟩), .int .i64 n] w (Out base sg mb I L B (k + 1) w (opR S n) (opS S n)) := by
  have hmf : ∀ (fn : Fn) (first cap : Array Value) (w : World), (Instr.makeFunc fn first cap).run Try.prog w = .ok (.func fn first cap) w := fun _ _ _ _ => rfl
  have cA := ask_two n h.pm hn
  cases hS : S n with
  | none =>
    have e1 : opR S n = 11 := by simp [opR, askR, hS]
    have e2 : opS S n = S := by simp [opS, hS]
    have e3 : (askR S n fun _ => 0) = 11 := e1
    rw [e1, e2]
    rw [e3] at cA
    have H := W_hid h
    have cA := W_hid cA
    clear h e1 e2 e3 hS
    go_enter Try.func19, Try.ntmps19
    go_wp2_with fail
    refine cA.out.mono ?_
    rintro e w1 ⟨rfl, b1⟩
    go_wp2_with fail
    go_ret
    exact Out.same H.out (Nat.le_succ _) b1 11
  | some d =>
    have hg := h.fn.good n d hS
    have e1 : opR S n = 0 := by simp [opR, askR, hS]
    have e2 : opS S n = upd S n (some { d with opens := d.opens + 1 }) := by simp [opS, hS]
    have e3 : (askR S n fun _ => 0) = 0 := e1
    rw [e1, e2]
    rw [e3] at cA
    have H := W_hid h
    have cA := W_hid cA
    have hw : IntKind.i64.wrap (d.opens + 1) = d.opens + 1 := by rw [IntKind.wrap_i64]; have := hg.links; have := hg.opens; have := h.lim; omega
    have HS := W_hid hS
    have HG := W_hid hg
    clear h e1 e2 e3 hS hg
    go_enter Try.func19, Try.ntmps19
    go_wp2_with fail
    refine cA.out.mono ?_
    rintro e w1 ⟨rfl, b1⟩
    have h1 := H.out.keep b1
    have c0 := h1.pm.box.cell (j := 0) rfl
    have hlk := h1.pm.mp.look n hn
    obtain ⟨g, v, hM, hN, hge, hgs, hgm⟩ := h1.pm.has HS.out
    rw [hM] at hlk
    simp only [IS.ptr] at hlk
    have d1 := hN.1.cell (j := 2) rfl
    have f1 := hN.1.fz
    obtain ⟨p1, p2, p3⟩ := h1.pm.setNode (d' := { d with opens := d.opens + 1 }) (v' := v) hM HS.out hN.1 hN.2 2 (.int .i64 (d.opens + 1)) rfl
    have b1' := W_hid b1
    have p1 := W_hid p1
    have p3 := W_hid p3
    have hlim := W_hid h1.lim
    have hfn := W_hid h1.fn
    have hlow := W_hid H.out.low
    clear h1 hN hM p2 b1
    go_wp2_with fail
    go_ret
    refine ⟨rfl, ⟨M, ?_, hfn.out.set HS.out (Nat.le_succ _) rfl ⟨HG.out.kind, by simpa using HG.out.links, ⟨by have := HG.out.opens; simp; omega, by have := HG.out.opens; simp; omega⟩, by have := HG.out.some; simp; omega, HG.out.size, HG.out.ok, HG.out.fin, HG.out.dir⟩, hlim.out⟩, (Keeps.new b1'.out hlow.out).trans p3.out⟩
    rw [tot_same (d' := { d with opens := d.opens + 1 }) HS.out hfn.out rfl]
    exact p1.out

set_option maxRecDepth 100000 in
set_option maxHeartbeats 4000000 in
theorem Close_any (n : Int) (w : World) (h : PS base w sg mb M I L B k S) (hn : IS.I64 n) (hk : k < 1000000) : Calls Try.prog 20 #[.pointer (some ⟨sg, 0, none⟩), .int .i64 n] w (Out base sg mb I L B k w (clR S n) (clS S n)) := by
  have hmf : ∀ (fn : Fn) (first cap : Array Value) (w : World), (Instr.makeFunc fn first cap).run Try.prog w = .ok (.func fn first cap) w := fun _ _ _ _ => rfl
  have cA := ask_three 46 (fun d => if 0 < d.opens then 0 else 2) n h.pm hn (fun w => by kernel_rfl) (fun d hS W hW => opened_any n d W (h.pm.keep hW) hn hS)
  cases hS : S n with
  | none =>
    have e1 : clR S n = 11 := by simp [clR, askR, hS]
    have e2 : clS S n = S := by simp [clS, hS]
    have e3 : (askR S n fun d => if 0 < d.opens then 0 else 2) = 11 := e1
    rw [e1, e2]
    rw [e3] at cA
    have H := W_hid h
    have cA := W_hid cA
    clear h e1 e2 e3 hS
    go_enter Try.func20, Try.ntmps20
    go_wp2_with fail
    refine cA.out.mono ?_
    rintro e w1 ⟨rfl, b1⟩
    go_wp2_with fail
    go_ret
    exact Out.same H.out (Nat.le_refl _) b1 11
  | some d =>
    have hg := h.fn.good n d hS
    by_cases hl : 0 < d.opens
    · have e1 : clR S n = 0 := by simp [clR, askR, hS, hl]
      have e2 : clS S n = gone (upd S n (some { d with opens := d.opens - 1 })) n := by simp [clS, hS, hl]
      have e3 : (askR S n fun d => if 0 < d.opens then 0 else 2) = 0 := e1
      rw [e1, e2]
      rw [e3] at cA
      have H := W_hid h
      have cA := W_hid cA
      have hw : IntKind.i64.wrap (d.opens - 1) = d.opens - 1 := by rw [IntKind.wrap_i64]; have := hg.links; have := hg.opens; have := h.lim; omega
      have HS := W_hid hS
      have HG := W_hid hg
      clear h e1 e2 e3 hS hg
      go_enter Try.func20, Try.ntmps20
      go_wp2_with fail
      refine cA.out.mono ?_
      rintro e w1 ⟨rfl, b1⟩
      have h1 := H.out.keep b1
      have c0 := h1.pm.box.cell (j := 0) rfl
      have hlk := h1.pm.mp.look n hn
      obtain ⟨g, v, hM, hN, hge, hgs, hgm⟩ := h1.pm.has HS.out
      rw [hM] at hlk
      simp only [IS.ptr] at hlk
      have d1 := hN.1.cell (j := 2) rfl
      have f1 := hN.1.fz
      obtain ⟨p1, p2, p3⟩ := h1.pm.setNode (d' := { d with opens := d.opens - 1 }) (v' := v) hM HS.out hN.1 hN.2 2 (.int .i64 (d.opens - 1)) rfl
      have ht := h1.fn.tot
      have hB := h1.lim.2.2
      have cT := W_hid (settle_any n { d with opens := d.opens - 1 } _ p1 hn (upd_at _ _ _) HG.out.ok ⟨by omega, by omega⟩)
      have F := W_hid (fine_gone (d1 := { d with opens := d.opens - 1 }) h1.fn HS.out (Nat.le_refl _) rfl rfl ⟨by have := HG.out.links; simp; omega, by have := HG.out.links; simp; omega⟩ ⟨by have := HG.out.opens; simp; omega, by have := HG.out.opens; simp; omega⟩ rfl)
      have b1' := W_hid b1
      have p1 := W_hid p1
      have p3 := W_hid p3
      have hlim := W_hid h1.lim
      have hfn := W_hid h1.fn
      have hlow := W_hid H.out.low
      clear h1 hN hM p2 b1 ht hB
      go_wp2_with fail
      refine cT.out.mono ?_
      rintro e w2 ⟨rfl, ⟨M2, q1⟩, q2⟩
      rw [F.out.2] at q1
      have q1 := W_hid q1
      have q2 := W_hid q2
      clear cT
      go_wp2_with fail
      go_ret
      exact ⟨rfl, ⟨M2, q1.out, F.out.1, hlim.out⟩, (Keeps.new b1'.out hlow.out).trans (p3.out.trans q2.out)⟩
    · have e1 : clR S n = 2 := by simp [clR, askR, hS, hl]
      have e2 : clS S n = S := by simp [clS, hS, hl]
      have e3 : (askR S n fun d => if 0 < d.opens then 0 else 2) = 2 := e1
      rw [e1, e2]
      rw [e3] at cA
      have H := W_hid h
      have cA := W_hid cA
      clear h e1 e2 e3 hS
      go_enter Try.func20, Try.ntmps20
      go_wp2_with fail
      refine cA.out.mono ?_
      rintro e w1 ⟨rfl, b1⟩
      go_wp2_with fail
      go_ret
      exact Out.same H.out (Nat.le_refl _) b1 2
end
end IN
end Go.Proofs.Ytieneehpijilpaa

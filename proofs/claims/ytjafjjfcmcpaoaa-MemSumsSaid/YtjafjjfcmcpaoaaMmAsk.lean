/- Stage 18: what a machine tells: Cell, At, Reg, Live; Run. -/
import Derived.Test.YtjafjjfcmcpaoaaMmOne
namespace Go.Proofs.Ytjafjjfcmcpaoaa
open Go.ChangeShapes Go.WideShapes Go.ChangeAt Go.RowKit
set_option linter.unusedVariables false
set_option linter.unusedSimpArgs false
set_option maxRecDepth 100000
namespace MC
open IN (lt_of_some)

def cellM (S : Ma) (i : Int) : Int := if hasC S.c.length i = true then gt S.c i else 0
def thM (S : Ma) (t : Int) : Option Th := if t < 0 then none else S.t[t.toNat]?
def atM (S : Ma) (t : Int) : Int := (thM S t).elim 0 Th.pc
def regM (S : Ma) (t i : Int) : Int := if isR i = true then (thM S t).elim 0 (fun h => gt h.r i) else 0
theorem r_eight {r : List Int} (h : r.length = 8) : ∃ r0 r1 r2 r3 r4 r5 r6 r7, r = [r0, r1, r2, r3, r4, r5, r6, r7] := by
  match r, h with
  | [r0, r1, r2, r3, r4, r5, r6, r7], _ => exact ⟨r0, r1, r2, r3, r4, r5, r6, r7, rfl⟩
/-- A thread as a value. -/
def thv (v : Value) (h : Th) : Value := .agg #[v, .int .i64 (h.r.getD 0 0), .int .i64 (h.r.getD 1 0), .int .i64 (h.r.getD 2 0), .int .i64 (h.r.getD 3 0), .int .i64 (h.r.getD 4 0), .int .i64 (h.r.getD 5 0), .int .i64 (h.r.getD 6 0), .int .i64 (h.r.getD 7 0), .int .i64 h.pc]
theorem thv_eq {v : Value} {h : Th} {r0 r1 r2 r3 r4 r5 r6 r7 : Int} (e : h.r = [r0, r1, r2, r3, r4, r5, r6, r7]) : thv v h = .agg #[v, .int .i64 r0, .int .i64 r1, .int .i64 r2, .int .i64 r3, .int .i64 r4, .int .i64 r5, .int .i64 r6, .int .i64 r7, .int .i64 h.pc] := by
  unfold thv; rw [e]; rfl
def nth : Th := ⟨[], [0, 0, 0, 0, 0, 0, 0, 0], 0⟩
theorem res_thr {fn : Func} {r : Tmp} (hres : fn.results = #[.cell r TT]) (tmps : Array Value) (w : World) {g : Nat} {l : List Value} (hr : tmps.getD r undef = .pointer (some ⟨g, 0, none⟩)) (hp : Blk w g TT l) (hl : l.length = 10) :
    (results fn tmps).run Try.prog w = .ok (.agg l.toArray) w :=
  results_cell_row hres tmps w g _ _ _ _ hr hp Try.underlying54 rfl (by simp only [List.size_toArray, hl]; kernel_rfl)
theorem thread_nil (w : World) (t : Int) : Calls Try.prog 32 #[.pointer none, .int .i64 t] w fun e w' => e = .returned (thv (.slice none 0 0) nth) ∧ Below w.heap.size w w' := by
  go_enter Try.func32, Try.ntmps32
  go_wp2_with (go_at_call 27; refine (none_nil _).mono ?_; rintro e w' ⟨rfl, rfl⟩)
  refine bodyPost_ret (res_thr (l := [.slice none 0 0, .int .i64 0, .int .i64 0, .int .i64 0, .int .i64 0, .int .i64 0, .int .i64 0, .int .i64 0, .int .i64 0, .int .i64 0]) rfl _ _ rfl (Blk.new _ _ _ rfl) rfl) rfl ?_
  exact ⟨rfl, (Below.refl _ _).alloc (Nat.le_refl _) _⟩
theorem fld2 (v : Value) (a0 a1 a2 a3 a4 a5 a6 a7 p : Int) (w : World) : (Instr.field TT (.agg #[v, .int .i64 a0, .int .i64 a1, .int .i64 a2, .int .i64 a3, .int .i64 a4, .int .i64 a5, .int .i64 a6, .int .i64 a7, .int .i64 p]) 2).run Try.prog w = .ok (.int .i64 p) w := by kernel_rfl
theorem fld1 (v : Value) (a0 a1 a2 a3 a4 a5 a6 a7 p : Int) (w : World) : (Instr.field TT (.agg #[v, .int .i64 a0, .int .i64 a1, .int .i64 a2, .int .i64 a3, .int .i64 a4, .int .i64 a5, .int .i64 a6, .int .i64 a7, .int .i64 p]) 1).run Try.prog w = .ok (.agg #[.int .i64 a0, .int .i64 a1, .int .i64 a2, .int .i64 a3, .int .i64 a4, .int .i64 a5, .int .i64 a6, .int .i64 a7]) w := by kernel_rfl
theorem idx8_0 (a0 a1 a2 a3 a4 a5 a6 a7 : Int) (w : World) : (Instr.index 52 (.agg #[.int .i64 a0, .int .i64 a1, .int .i64 a2, .int .i64 a3, .int .i64 a4, .int .i64 a5, .int .i64 a6, .int .i64 a7]) (.int .i64 ((0 : Nat) : Int))).run Try.prog w = .ok (.int .i64 a0) w := by kernel_rfl
theorem idx8_1 (a0 a1 a2 a3 a4 a5 a6 a7 : Int) (w : World) : (Instr.index 52 (.agg #[.int .i64 a0, .int .i64 a1, .int .i64 a2, .int .i64 a3, .int .i64 a4, .int .i64 a5, .int .i64 a6, .int .i64 a7]) (.int .i64 ((1 : Nat) : Int))).run Try.prog w = .ok (.int .i64 a1) w := by kernel_rfl
theorem idx8_2 (a0 a1 a2 a3 a4 a5 a6 a7 : Int) (w : World) : (Instr.index 52 (.agg #[.int .i64 a0, .int .i64 a1, .int .i64 a2, .int .i64 a3, .int .i64 a4, .int .i64 a5, .int .i64 a6, .int .i64 a7]) (.int .i64 ((2 : Nat) : Int))).run Try.prog w = .ok (.int .i64 a2) w := by kernel_rfl
theorem idx8_3 (a0 a1 a2 a3 a4 a5 a6 a7 : Int) (w : World) : (Instr.index 52 (.agg #[.int .i64 a0, .int .i64 a1, .int .i64 a2, .int .i64 a3, .int .i64 a4, .int .i64 a5, .int .i64 a6, .int .i64 a7]) (.int .i64 ((3 : Nat) : Int))).run Try.prog w = .ok (.int .i64 a3) w := by kernel_rfl
theorem idx8_4 (a0 a1 a2 a3 a4 a5 a6 a7 : Int) (w : World) : (Instr.index 52 (.agg #[.int .i64 a0, .int .i64 a1, .int .i64 a2, .int .i64 a3, .int .i64 a4, .int .i64 a5, .int .i64 a6, .int .i64 a7]) (.int .i64 ((4 : Nat) : Int))).run Try.prog w = .ok (.int .i64 a4) w := by kernel_rfl
theorem idx8_5 (a0 a1 a2 a3 a4 a5 a6 a7 : Int) (w : World) : (Instr.index 52 (.agg #[.int .i64 a0, .int .i64 a1, .int .i64 a2, .int .i64 a3, .int .i64 a4, .int .i64 a5, .int .i64 a6, .int .i64 a7]) (.int .i64 ((5 : Nat) : Int))).run Try.prog w = .ok (.int .i64 a5) w := by kernel_rfl
theorem idx8_6 (a0 a1 a2 a3 a4 a5 a6 a7 : Int) (w : World) : (Instr.index 52 (.agg #[.int .i64 a0, .int .i64 a1, .int .i64 a2, .int .i64 a3, .int .i64 a4, .int .i64 a5, .int .i64 a6, .int .i64 a7]) (.int .i64 ((6 : Nat) : Int))).run Try.prog w = .ok (.int .i64 a6) w := by kernel_rfl
theorem idx8_7 (a0 a1 a2 a3 a4 a5 a6 a7 : Int) (w : World) : (Instr.index 52 (.agg #[.int .i64 a0, .int .i64 a1, .int .i64 a2, .int .i64 a3, .int .i64 a4, .int .i64 a5, .int .i64 a6, .int .i64 a7]) (.int .i64 ((7 : Nat) : Int))).run Try.prog w = .ok (.int .i64 a7) w := by kernel_rfl
theorem idx8 (a0 a1 a2 a3 a4 a5 a6 a7 : Int) (q : Nat) (hq : q < 8) (w : World) : (Instr.index 52 (.agg #[.int .i64 a0, .int .i64 a1, .int .i64 a2, .int .i64 a3, .int .i64 a4, .int .i64 a5, .int .i64 a6, .int .i64 a7]) (.int .i64 (q : Int))).run Try.prog w = .ok (.int .i64 ([a0, a1, a2, a3, a4, a5, a6, a7].getD q 0)) w := by
  match q, hq with
  | 0, _ => exact idx8_0 a0 a1 a2 a3 a4 a5 a6 a7 w
  | 1, _ => exact idx8_1 a0 a1 a2 a3 a4 a5 a6 a7 w
  | 2, _ => exact idx8_2 a0 a1 a2 a3 a4 a5 a6 a7 w
  | 3, _ => exact idx8_3 a0 a1 a2 a3 a4 a5 a6 a7 w
  | 4, _ => exact idx8_4 a0 a1 a2 a3 a4 a5 a6 a7 w
  | 5, _ => exact idx8_5 a0 a1 a2 a3 a4 a5 a6 a7 w
  | 6, _ => exact idx8_6 a0 a1 a2 a3 a4 a5 a6 a7 w
  | 7, _ => exact idx8_7 a0 a1 a2 a3 a4 a5 a6 a7 w
theorem At_nil (w : World) (t : Int) : Calls Try.prog 14 #[.pointer none, .int .i64 t] w fun e w' => e = .returned (.int .i64 0) ∧ Below w.heap.size w w' := by
  have hc := thread_nil w t
  unfold thv nth at hc
  simp only [List.getD_cons_zero, List.getD_cons_succ] at hc
  have hf := fld2 (.slice none 0 0) 0 0 0 0 0 0 0 0 0
  go_enter Try.func14, Try.ntmps14
  go_wp2_with (go_at_call 32; refine hc.mono ?_; rintro e w' ⟨rfl, hb⟩)
  go_ret
  exact ⟨rfl, hb⟩
theorem Reg_nil (w : World) (t i : Int) (hi : I64 i) : Calls Try.prog 21 #[.pointer none, .int .i64 t, .int .i64 i] w fun e w' => e = .returned (.int .i64 0) ∧ Below w.heap.size w w' := by
  have hr := W_hid (fun W => isR_any W i)
  by_cases h : isR i = true
  · obtain ⟨q, rfl, hq⟩ := isR_some h
    rw [h] at hr
    have hc := W_hid (fun W => thread_nil W t)
    unfold thv nth at hc
    simp only [List.getD_cons_zero, List.getD_cons_succ] at hc
    have hf := fld1 (.slice none 0 0) 0 0 0 0 0 0 0 0 0
    have hx := idx8 0 0 0 0 0 0 0 0 q hq
    have e : [(0 : Int), 0, 0, 0, 0, 0, 0, 0].getD q 0 = 0 := by
      have : q = 0 ∨ q = 1 ∨ q = 2 ∨ q = 3 ∨ q = 4 ∨ q = 5 ∨ q = 6 ∨ q = 7 := by omega
      rcases this with rfl | rfl | rfl | rfl | rfl | rfl | rfl | rfl <;> rfl
    rw [e] at hx
    clear e
    go_enter Try.func21, Try.ntmps21
    go_wp2_with (first | (go_at_call 35; refine (hr.out _).mono ?_; rintro e w' ⟨rfl, rfl⟩) | (go_at_call 32; refine (hc.out _).mono ?_; rintro e w' ⟨rfl, hb⟩))
    go_ret
    exact ⟨rfl, hb⟩
  · have h : isR i = false := by simpa using h
    rw [h] at hr
    go_enter Try.func21, Try.ntmps21
    go_wp2_with (go_at_call 35; refine (hr.out _).mono ?_; rintro e w' ⟨rfl, rfl⟩)
    go_ret
    exact ⟨rfl, Below.refl _ _⟩
theorem Cell_nil (w : World) (i : Int) : Calls Try.prog 19 #[.pointer none, .int .i64 i] w fun e w' => e = .returned (.int .i64 0) ∧ w = w' := by
  go_enter Try.func19, Try.ntmps19
  go_wp2_with (go_at_call 27; refine (none_nil _).mono ?_; rintro e w' ⟨rfl, rfl⟩)
  go_ret
  exact ⟨rfl, rfl⟩
theorem Step_nil (w : World) (i : Int) : Calls Try.prog 12 #[.pointer none, .int .i64 i] w fun e w' => e = .returned (.int .i64 (-1)) ∧ w = w' := by
  go_enter Try.func12, Try.ntmps12
  go_wp2_with (go_at_call 27; refine (none_nil _).mono ?_; rintro e w' ⟨rfl, rfl⟩)
  go_ret
  exact ⟨rfl, rfl⟩
theorem Live_nil (w : World) : Calls Try.prog 17 #[.pointer none] w fun e w' => e = .returned (.slice none 0 0) ∧ w = w' := by
  go_enter Try.func17, Try.ntmps17
  go_wp2_with (go_at_call 27; refine (none_nil _).mono ?_; rintro e w' ⟨rfl, rfl⟩)
  go_ret
  exact ⟨rfl, rfl⟩
section
variable {lo a b : Nat} {w w' : World} {gm : Nat} {S : Ma}
theorem Cell_any (h : PW lo a b w gm S) (i : Int) : Calls Try.prog 19 #[ptr gm, .int .i64 i] w fun e w' => e = .returned (.int .i64 (cellM S i)) ∧ w = w' := by
  obtain ⟨gc, vt, vl, L, h⟩ := h
  have m0 := h.box.cell (j := 0) rfl
  have hno := W_hid (none_some m0)
  have hh := W_hid (fun W => has_any W (some ⟨gc, 0, none⟩) S.c.length S.c.length i)
  unfold cellM
  by_cases hc : hasC S.c.length i = true
  · obtain ⟨q, rfl, hq⟩ := hasC_some hc
    rw [if_pos hc, gt_nat]
    rw [hc] at hh
    have kc : w.cell? ⟨gc, q, none⟩ = some (.int .i64 (S.c.getD q 0)) := h.raw.cel.cell (by rw [icl_get, List.getD_eq_getElem?_getD, List.getElem?_eq_getElem hq]; rfl)
    obtain ⟨N, hN⟩ : ∃ N, S.c.length = N := ⟨_, rfl⟩
    obtain ⟨X, hX⟩ : ∃ X, S.c.getD q 0 = X := ⟨_, rfl⟩
    rw [hX] at kc ⊢
    rw [hN] at m0 hh
    have hq2 : (q : Int) < (N : Int) := by omega
    clear hc h hN hX
    go_enter Try.func19, Try.ntmps19
    go_wp2_with (first | (go_at_call 27; refine hno.out.mono ?_; rintro e w' ⟨rfl, rfl⟩) | (go_at_call 34; refine (hh.out _).mono ?_; rintro e w' ⟨rfl, rfl⟩))
    go_ret
    exact ⟨rfl, rfl⟩
  · have hc : hasC S.c.length i = false := by simpa using hc
    rw [hc] at hh
    rw [hc, if_neg (by simp)]
    clear h hc
    go_enter Try.func19, Try.ntmps19
    go_wp2_with (first | (go_at_call 27; refine hno.out.mono ?_; rintro e w' ⟨rfl, rfl⟩) | (go_at_call 34; refine (hh.out _).mono ?_; rintro e w' ⟨rfl, rfl⟩))
    go_ret
    exact ⟨rfl, rfl⟩
theorem thread_any (h : PW lo a b w gm S) (t : Int) : Calls Try.prog 32 #[ptr gm, .int .i64 t] w fun e w' => ∃ v u, e = .returned (thv v u) ∧ u.r.length = 8 ∧ (u = nth ∧ thM S t = none ∨ thM S t = some u) ∧ Below w.heap.size w w' := by
  obtain ⟨gc, vt, vl, L, h⟩ := h
  have m0 := h.box.cell (j := 0) rfl
  have m1 := h.box.cell (j := 1) rfl
  have hno := W_hid (fun (W : World) (hW : W.cell? ⟨gm, 0, none⟩ = some (.slice (some ⟨gc, 0, none⟩) S.c.length S.c.length)) => none_some hW)
  obtain ⟨ao, cp, rfl⟩ := Own.form h.raw.thr
  have hLn := h.tnum
  have hgl : gm < w.heap.size := h.box.lt
  obtain ⟨X, hX⟩ : ∃ X, (Obj.cells #[.slice none 0 0, .int .i64 0, .int .i64 0, .int .i64 0, .int .i64 0, .int .i64 0, .int .i64 0, .int .i64 0, .int .i64 0, .int .i64 0] TT) = X := ⟨_, rfl⟩
  have m0' : (w.alloc X).cell? ⟨gm, 0, none⟩ = some (.slice (some ⟨gc, 0, none⟩) S.c.length S.c.length) := by rw [World.cell?_of_block (w := w) (Below.heap_alloc w X gm hgl)]; exact m0
  have m1' : (w.alloc X).cell? ⟨gm, 1, none⟩ = some (.slice ao L.length cp) := by rw [World.cell?_of_block (w := w) (Below.heap_alloc w X gm hgl)]; exact m1
  by_cases h0 : t < 0
  · have hth : thM S t = none := by unfold thM; rw [if_pos h0]
    subst hX
    clear h hLn
    go_enter Try.func32, Try.ntmps32
    go_wp2_with (go_at_call 27; refine (hno.out _ m0').mono ?_; rintro e w' ⟨rfl, rfl⟩)
    refine bodyPost_ret (res_thr (l := [.slice none 0 0, .int .i64 0, .int .i64 0, .int .i64 0, .int .i64 0, .int .i64 0, .int .i64 0, .int .i64 0, .int .i64 0, .int .i64 0]) rfl _ _ rfl (Blk.new _ _ _ rfl) rfl) rfl ?_
    exact ⟨.slice none 0 0, nth, rfl, rfl, .inl ⟨rfl, hth⟩, (Below.refl _ _).alloc (Nat.le_refl _) _⟩
  · obtain ⟨k, rfl⟩ : ∃ k : Nat, t = k := ⟨t.toNat, by omega⟩
    by_cases h1 : k < L.length
    · obtain ⟨x, hx⟩ : ∃ x, L[k]? = some x := ⟨_, List.getElem?_eq_getElem h1⟩
      obtain ⟨v, u⟩ := x
      obtain ⟨g, cap, hvt, hLc, hcap, hiL, hga, hgb, hT⟩ := h.raw.opened hx
      simp only [Value.slice.injEq, true_and] at hvt
      obtain ⟨rfl, rfl⟩ := hvt
      have hu8 : u.r.length = 8 := h.raw.r8 _ (List.mem_of_getElem? hx)
      obtain ⟨pao, pcap, hvf⟩ := h.raw.vform hx
      simp only at hvf
      obtain ⟨pn, hpn⟩ : ∃ x, u.p.length = x := ⟨_, rfl⟩
      rw [hpn] at hvf
      subst hvf
      obtain ⟨r0, r1, r2, r3, r4, r5, r6, r7, hr8⟩ := r_eight hu8
      have hth : thM S (k : Int) = some u := by
        unfold thM
        rw [if_neg h0, Int.toNat_natCast, ← h.lt, List.getElem?_map, hx]; rfl
      have hT' := W_hid (hT.below (w' := w.alloc X) ((Below.refl _ _).alloc (Nat.le_refl _) _))
      obtain ⟨n, hn⟩ : ∃ n, L.length = n := ⟨_, rfl⟩
      rw [hn] at m1 m1' h1
      have h1' : (k : Int) < (n : Int) := by omega
      have q0 := hT'.out.p
      have q1 : (w.alloc X).cell? ⟨g, k * 10 + 1, none⟩ = some (.int .i64 r0) := by have := hT'.out.r 0 (by omega); rw [hr8] at this; exact this
      have q2 : (w.alloc X).cell? ⟨g, k * 10 + 2, none⟩ = some (.int .i64 r1) := by have := hT'.out.r 1 (by omega); rw [hr8] at this; exact this
      have q3 : (w.alloc X).cell? ⟨g, k * 10 + 3, none⟩ = some (.int .i64 r2) := by have := hT'.out.r 2 (by omega); rw [hr8] at this; exact this
      have q4 : (w.alloc X).cell? ⟨g, k * 10 + 4, none⟩ = some (.int .i64 r3) := by have := hT'.out.r 3 (by omega); rw [hr8] at this; exact this
      have q5 : (w.alloc X).cell? ⟨g, k * 10 + 5, none⟩ = some (.int .i64 r4) := by have := hT'.out.r 4 (by omega); rw [hr8] at this; exact this
      have q6 : (w.alloc X).cell? ⟨g, k * 10 + 6, none⟩ = some (.int .i64 r5) := by have := hT'.out.r 5 (by omega); rw [hr8] at this; exact this
      have q7 : (w.alloc X).cell? ⟨g, k * 10 + 7, none⟩ = some (.int .i64 r6) := by have := hT'.out.r 6 (by omega); rw [hr8] at this; exact this
      have q8 : (w.alloc X).cell? ⟨g, k * 10 + 8, none⟩ = some (.int .i64 r7) := by have := hT'.out.r 7 (by omega); rw [hr8] at this; exact this
      have q9 := hT'.out.pc
      replace hn := W_hid hn
      replace hth := W_hid hth
      replace hr8 := W_hid hr8
      replace hu8 := W_hid hu8
      replace hpn := W_hid hpn
      clear h hT hx hLn h0
      subst hX
      go_enter Try.func32, Try.ntmps32
      go_wp2_with (go_at_call 27; refine (hno.out _ m0').mono ?_; rintro e w' ⟨rfl, rfl⟩)
      refine bodyPost_ret (res_thr (l := [.slice pao pn pcap, .int .i64 r0, .int .i64 r1, .int .i64 r2, .int .i64 r3, .int .i64 r4, .int .i64 r5, .int .i64 r6, .int .i64 r7, .int .i64 u.pc]) rfl _ _ rfl (Blk.new _ _ _ rfl) rfl) rfl ?_
      exact ⟨.slice pao pn pcap, u, by unfold thv; rw [hr8.out]; rfl, hu8.out, .inr hth.out, (Below.refl _ _).alloc (Nat.le_refl _) _⟩
    · have hth : thM S (k : Int) = none := by
        unfold thM
        rw [if_neg h0, Int.toNat_natCast, List.getElem?_eq_none (by omega)]
      have h1' : (L.length : Int) ≤ (k : Int) := by omega
      obtain ⟨n, hn⟩ : ∃ n, L.length = n := ⟨_, rfl⟩
      rw [hn] at m1 m1' h1'
      clear h h0 h1 hLn hn
      subst hX
      go_enter Try.func32, Try.ntmps32
      go_wp2_with (go_at_call 27; refine (hno.out _ m0').mono ?_; rintro e w' ⟨rfl, rfl⟩)
      refine bodyPost_ret (res_thr (l := [.slice none 0 0, .int .i64 0, .int .i64 0, .int .i64 0, .int .i64 0, .int .i64 0, .int .i64 0, .int .i64 0, .int .i64 0, .int .i64 0]) rfl _ _ rfl (Blk.new _ _ _ rfl) rfl) rfl ?_
      exact ⟨.slice none 0 0, nth, rfl, rfl, .inl ⟨rfl, hth⟩, (Below.refl _ _).alloc (Nat.le_refl _) _⟩
theorem At_any (h : PW lo a b w gm S) (t : Int) : Calls Try.prog 14 #[ptr gm, .int .i64 t] w fun e w' => e = .returned (.int .i64 (atM S t)) ∧ Below w.heap.size w w' := by
  have hc := W_hid (thread_any h t)
  have hf := W_hid fld2
  go_enter Try.func14, Try.ntmps14
  go_wp2_with (go_at_call 32; refine hc.out.mono ?_; rintro e w' ⟨v, u, rfl, h8, hu, hb⟩; obtain ⟨r0, r1, r2, r3, r4, r5, r6, r7, hr8⟩ := r_eight h8; rw [thv_eq hr8]; replace h8 := W_hid h8; replace hu := W_hid hu; replace hb := W_hid hb; replace hr8 := W_hid hr8; have hf2 := hf.out v r0 r1 r2 r3 r4 r5 r6 r7 u.pc)
  go_ret
  refine ⟨?_, hb.out⟩
  unfold atM
  rcases hu.out with ⟨rfl, h1⟩ | h1 <;> rw [h1] <;> rfl
theorem Reg_any (h : PW lo a b w gm S) (t i : Int) : Calls Try.prog 21 #[ptr gm, .int .i64 t, .int .i64 i] w fun e w' => e = .returned (.int .i64 (regM S t i)) ∧ Below w.heap.size w w' := by
  have hr := W_hid (fun W => isR_any W i)
  by_cases hi : isR i = true
  · obtain ⟨q, rfl, hq⟩ := isR_some hi
    unfold regM
    rw [if_pos hi]
    rw [hi] at hr
    have hc := W_hid (thread_any h t)
    have hf := W_hid fld1
    have hx := W_hid (fun a0 a1 a2 a3 a4 a5 a6 a7 W => idx8 a0 a1 a2 a3 a4 a5 a6 a7 q hq W)
    clear hi
    go_enter Try.func21, Try.ntmps21
    go_wp2_with (first | (go_at_call 35; refine (hr.out _).mono ?_; rintro e w' ⟨rfl, rfl⟩) | (go_at_call 32; refine hc.out.mono ?_; rintro e w' ⟨v, u, rfl, h8, hu, hb⟩; obtain ⟨r0, r1, r2, r3, r4, r5, r6, r7, hr8⟩ := r_eight h8; rw [thv_eq hr8]; replace h8 := W_hid h8; replace hu := W_hid hu; replace hb := W_hid hb; replace hr8 := W_hid hr8; have hf2 := hf.out v r0 r1 r2 r3 r4 r5 r6 r7 u.pc; have hx2 := hx.out r0 r1 r2 r3 r4 r5 r6 r7; obtain ⟨Y, hY⟩ : ∃ Y, [r0, r1, r2, r3, r4, r5, r6, r7].getD q 0 = Y := ⟨_, rfl⟩; simp only [hY] at hx2; replace hY := W_hid hY))
    go_ret
    refine ⟨?_, hb.out⟩
    have h8 := h8.out
    have hu := hu.out
    have e8 : [r0, r1, r2, r3, r4, r5, r6, r7] = u.r := hr8.out.symm
    have key : [r0, r1, r2, r3, r4, r5, r6, r7].getD q 0 = (thM S t).elim 0 (fun h => gt h.r (q : Int)) := by
      rw [e8]
      rcases hu with ⟨rfl, h1⟩ | h1
      · rw [h1]
        have : q = 0 ∨ q = 1 ∨ q = 2 ∨ q = 3 ∨ q = 4 ∨ q = 5 ∨ q = 6 ∨ q = 7 := by omega
        rcases this with rfl | rfl | rfl | rfl | rfl | rfl | rfl | rfl <;> rfl
      · rw [h1]; exact (gt_nat _ _).symm
    rw [← key, hY.out]; rfl
  · have h : isR i = false := by simpa using hi
    unfold regM
    rw [h, if_neg (by simp)]
    rw [h] at hr
    go_enter Try.func21, Try.ntmps21
    go_wp2_with (go_at_call 35; refine (hr.out _).mono ?_; rintro e w' ⟨rfl, rfl⟩)
    go_ret
    exact ⟨rfl, Below.refl _ _⟩
end
end MC
end Go.Proofs.Ytjafjjfcmcpaoaa

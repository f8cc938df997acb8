/- Contracts of package proc: put, New, Spawn, Nice, Get. -/
import Derived.Test.YtahcpimpmedbiaaPrcAsk
namespace Go.Proofs.Ytahcpimpmedbiaa
open Go.ChangeShapes Go.WideShapes Go.ChangeAt Go.RowKit Go.Maps
set_option linter.unusedVariables false
set_option linter.unusedSimpArgs false
set_option maxRecDepth 100000
namespace PC
open IS (ptr I64 Nums upd)
open IN (Keeps lt_of_some)

/-- A table in memory, with the blocks that it is. -/
def TW (base : Nat) (w : World) (tb N : Nat) (L : List Pr) (X : Nat → Prop) : Prop := ∃ mb M, TM base w tb mb M N (get L) ∧ ∀ k, X k ↔ TX tb mb M k
/-- What a call leaves of a table. -/
def TO (base : Nat) (w : World) (tb N : Nat) (L : List Pr) (X : Nat → Prop) (w' : World) : Prop := ∃ X', TW base w' tb N L X' ∧ Keeps base (fun k _ => X k) w w' ∧ ∀ k, X' k → X k ∨ w.heap.size ≤ k
theorem keeps_iff {B : Nat} {X Y : Nat → Prop} {w w' : World} (h : Keeps B (fun k _ => X k) w w') (hXY : ∀ k, X k → Y k) : Keeps B (fun k _ => Y k) w w' :=
  ⟨h.os, h.tape, h.output, h.size, h.low, fun k o ho hY => h.block k o ho fun hX => hY (hXY k hX)⟩
section
variable {base : Nat} {w w' : World} {tb N : Nat} {L : List Pr} {X : Nat → Prop}
theorem TW.lt (h : TW base w tb N L X) : ∀ k, X k → k < w.heap.size := by
  obtain ⟨mb, M, h1, h2⟩ := h
  exact fun k hk => h1.tlt k ((h2 k).1 hk)
theorem TW.ge (h : TW base w tb N L X) : ∀ k, X k → base ≤ k := by
  obtain ⟨mb, M, h1, h2⟩ := h
  exact fun k hk => h1.low k ((h2 k).1 hk)
theorem TW.keeps (h : TW base w tb N L X) {C : Nat} {Y : Nat → Prop} (hK : Keeps C (fun k _ => Y k) w w') (hY : ∀ k, X k → ¬ Y k) : TW base w' tb N L X := by
  obtain ⟨mb, M, h1, h2⟩ := h
  exact ⟨mb, M, h1.keeps hK fun k hk => hY k ((h2 k).2 hk), h2⟩
theorem TW.keep (h : TW base w tb N L X) (hb : Below w.heap.size w w') : TW base w' tb N L X := by
  obtain ⟨mb, M, h1, h2⟩ := h
  exact ⟨mb, M, h1.keep hb, h2⟩
theorem TW.base_le (h : TW base w tb N L X) : base ≤ w.heap.size := by
  obtain ⟨mb, M, h1, h2⟩ := h
  exact h1.base_le
theorem TW.same (h : TW base w tb N L X) (hb : Below w.heap.size w w') : TO base w tb N L X w' :=
  ⟨X, h.keep hb, Keeps.new hb h.base_le, fun k hk => .inl hk⟩
end

theorem cell_alloc {w : World} {p : Addr} {v : Value} (h : w.cell? p = some v) (o : Obj) : (w.alloc o).cell? p = some v := by
  rw [((Below.refl w.heap.size w).alloc (Nat.le_refl _) o).cell (cell_lt h)]; exact h

/-- put: a process more. -/
theorem put_any {base : Nat} {w : World} {tb mb : Nat} {M : Int → Option Nat} {N : Nat} {S : Int → Option Pr} (h : TM base w tb mb M N S) (p par nice : Int) (hp : 1 ≤ p ∧ p < 65536) (hS : S p = none) :
    Calls Try.prog 23 #[.pointer (some ⟨tb, 0, none⟩), .int .i64 p, .int .i64 par, .int .i64 nice] w fun e w' => e = .returned (.tuple #[]) ∧
      TM base w' tb mb (upd M p (some w.heap.size)) N (updS S p (some ⟨p, par, 1, 0, nice⟩)) ∧ Keeps base (fun k _ => TX tb mb M k) w w' ∧ ∀ k, TX tb mb (upd M p (some w.heap.size)) k → TX tb mb M k ∨ w.heap.size ≤ k := by
  have c0 := cell_alloc (h.box.cell (j := 0) rfl) (.cells (prow ⟨p, par, 1, 0, nice⟩).toArray 43)
  have c0' := h.box.cell (j := 0) rfl
  have hA : Below w.heap.size w (w.alloc (.cells (prow ⟨p, par, 1, 0, nice⟩).toArray 43)) := (Below.refl _ _).alloc (Nat.le_refl _) _
  have ha := h.keep hA
  obtain ⟨w2, hrun, hm, hg, hs⟩ := ha.mp.put p w.heap.size (by omega)
  have hend := h.put (x := ⟨p, par, 1, 0, nice⟩) rfl rfl hS hm hg
  have hend := W_hid hend
  simp only [prow] at c0 hrun
  replace hm := W_hid hm
  replace hg := W_hid hg
  replace hs := W_hid hs
  clear h ha hA
  go_enter Try.func23, Try.ntmps23
  go_wp2_with fail
  go_end0
  exact ⟨rfl, hend.out⟩

theorem New_no (n : Int) (hn : n < 1 ∨ 1024 < n) (w : World) : Calls Try.prog 11 #[.int .i64 n] w fun e w' => e = .returned (.tuple #[.pointer none, .int .i64 2]) ∧ w = w' := by
  by_cases h1 : n < 1
  · clear hn
    go_enter Try.func11, Try.ntmps11
    go_wp2
    go_ret2
    exact ⟨rfl, rfl⟩
  · have h2 : 1024 < n := by omega
    have h3 : decide (n < 1) = false := by simp; omega
    clear hn
    go_enter Try.func11, Try.ntmps11
    go_wp2
    go_ret2
    exact ⟨rfl, rfl⟩
theorem TM.new (w : World) (N : Nat) : TM w.heap.size ((w.alloc (.map #[] 0)).alloc (.cells #[.map (some w.heap.size), .int .i64 (N : Int)] 58)) (w.heap.size + 1) w.heap.size (fun _ => none) N (fun _ => none) :=
  ⟨Blk.new _ _ [.map (some w.heap.size), .int .i64 (N : Int)] (by simp), (CM.new w).alloc _, fun _ => by simp, fun _ _ _ h => (by cases h), fun _ _ h => (by cases h), fun _ _ _ h => (by cases h), by omega, Nat.le_refl _, fun _ _ h => (by cases h)⟩
theorem New_yes (N : Nat) (h1 : 1 ≤ N) (h2 : N ≤ 1024) (w : World) : Calls Try.prog 11 #[.int .i64 (N : Int)] w fun e w' => ∃ tb X, e = .returned (.tuple #[.pointer (some ⟨tb, 0, none⟩), .int .i64 0]) ∧ TW w.heap.size w' tb N [⟨1, 0, 1, 0, 0⟩] X ∧ Below w.heap.size w w' := by
  have hT := TM.new w N
  have hB : Below w.heap.size w ((w.alloc (.map #[] 0)).alloc (.cells #[.map (some w.heap.size), .int .i64 (N : Int)] 58)) := ((Below.refl _ _).alloc (Nat.le_refl _) _).alloc (by simp) _
  have hp := put_any hT 1 0 0 (by omega) rfl
  have h3 : decide ((N : Int) < 1) = false := by simp; omega
  have h4 : decide ((1024 : Int) < (N : Int)) = false := by simp; omega
  have hB := W_hid hB
  have hmk : ∀ W : World, (Instr.makeMap 56 none).run Try.prog W = .ok (.map (some W.heap.size)) (W.alloc (.map #[] 0)) := fun W => by kernel_rfl
  clear hT
  go_enter Try.func11, Try.ntmps11
  go_wp2_with (go_at_call 23; refine hp.mono ?_; rintro e w1 ⟨rfl, hT1, hK1, -⟩; have hT1 := W_hid hT1; have hK1 := W_hid hK1)
  go_ret2
  refine ⟨_, TX _ _ _, rfl, ⟨_, _, hT1.out.congr fun p => ?_, fun k => Iff.rfl⟩, ?_⟩
  · unfold updS get
    by_cases e : p = 1
    · subst e; rfl
    · rw [if_neg e]
      have : ¬ (1 : Int) = p := fun e' => e e'.symm
      simp [hasP, this]
  · exact hB.out.trans (hK1.out.below (Nat.le_refl _))

section
variable {base : Nat} {w w' : World} {tb N : Nat} {L : List Pr} {X : Nat → Prop}
set_option maxRecDepth 100000 in
set_option maxHeartbeats 1000000 in
theorem Nice_any (h : TW base w tb N L X) (p n : Int) (hp : I64 p) : Calls Try.prog 22 #[.pointer (some ⟨tb, 0, none⟩), .int .i64 p, .int .i64 n] w fun e w' => e = .returned (.int .i64 (niceR L p n).1) ∧ TO base w tb N (niceR L p n).2 X w' := by
  have hid := h.same (Below.refl _ _)
  obtain ⟨mb, M, hT, hX⟩ := h
  unfold niceR
  cases hr : runs L p with
  | false =>
    rw [if_pos rfl]
    have hc := running_no hT hp hr
    have hid := W_hid hid
    clear hT hX hr
    go_enter Try.func22, Try.ntmps22
    go_wp2_with (go_at_call 33; refine hc.mono ?_; rintro e w' ⟨rfl, rfl⟩)
    go_ret
    exact ⟨rfl, hid.out⟩
  | true =>
    rw [if_neg (by simp)]
    obtain ⟨x, hx, hst⟩ : ∃ x, get L p = some x ∧ x.st = 1 := by
      unfold runs at hr
      cases e : get L p with
      | none => rw [e] at hr; cases hr
      | some x => rw [e] at hr; exact ⟨x, rfl, by simpa [isRun] using hr⟩
    obtain ⟨g, hM⟩ := hT.some' hx
    have hc := running_yes hT hp hM hx hst
    have hn := fun w => pisNice_any n w
    cases hni : isNice n with
    | false =>
      rw [if_pos rfl]
      rw [hni] at hn
      have hid := W_hid hid
      clear hT hX hr hM hx hst hni
      go_enter Try.func22, Try.ntmps22
      go_wp2_with (first | (go_at_call 33; refine hc.mono ?_; rintro e w' ⟨rfl, rfl⟩) | (go_at_call 34; refine (hn _).mono ?_; rintro e w' ⟨rfl, rfl⟩))
      go_ret
      exact ⟨rfl, hid.out⟩
    | true =>
      rw [if_neg (by simp)]
      rw [hni] at hn
      have hb := hT.node p g x hM hx
      have c4 := hb.cell (j := 4) rfl
      have f4 := hb.fz
      have hset := hT.set (y := { x with nice := n }) hM hx 4 (.int .i64 n) rfl (by simpa using hT.pid p x hx)
      have hend : TO base w tb N (niceL L p n) X (w.setCell ⟨g, 4, none⟩ (.int .i64 n)) :=
        ⟨X, ⟨mb, M, hset.1.congr fun q => (get_nice hx q).symm, hX⟩, keeps_iff hset.2 fun k hk => (hX k).2 hk, fun k hk => .inl hk⟩
      have hend := W_hid hend
      clear hid hT hX hr hM hx hst hni hb hset
      go_enter Try.func22, Try.ntmps22
      go_wp2_with (first | (go_at_call 33; refine hc.mono ?_; rintro e w' ⟨rfl, rfl⟩) | (go_at_call 34; refine (hn _).mono ?_; rintro e w' ⟨rfl, rfl⟩))
      go_ret
      exact ⟨rfl, hend.out⟩
end
end PC
end Go.Proofs.Ytahcpimpmedbiaa

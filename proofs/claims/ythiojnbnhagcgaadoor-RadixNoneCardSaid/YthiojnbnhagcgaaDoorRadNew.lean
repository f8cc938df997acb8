/- Contracts of package radix's New, Root, Word. -/
import Derived.Test.YthiojnbnhagcgaaDoorRadMap3
namespace Go.Proofs.YthiojnbnhagcgaaDoor
open Go.ChangeShapes Go.WideShapes Go.ChangeAt Go.RowKit
set_option linter.unusedVariables false
set_option linter.unusedSimpArgs false

theorem wpList_insert_b {ops : Array Oper} {rest : List Oper} {o : Oper} {a : Act} {w : World} {Q : Exit → Act → World → Prop} (hg : o.guard = none) (m x v : Operand) (hop : o.op = Op.insert 51 m x v)
    (b f : Nat) (ws : Nat → Nat) (M : Nat → Option (Nat → Nat)) (hm : a.eval m = .map (some b)) (hx : a.eval x = .int .u64 (f : Int)) (hv : a.eval v = .agg (tw ws).toArray) (h : MB w b M) (hf : f < 65536)
    (hK : ∀ w', MB w' b (upd M f (some ws)) → w.grownBy w' (some b) → w'.heap.size = w.heap.size → wpList Tryd.prog ops Q rest (a.put o.dst undef) w') : wpList Tryd.prog ops Q (o :: rest) a w := by
  refine wpList_plain hg fun K' hK' => ?_
  obtain ⟨w', hrun, r1, r2, r3⟩ := h.put f ws hf
  unfold Oper.wp
  simp [execOp, hop, hm, hx, hv, hrun, Result.andThen]
  exact hK' _ _ (hK w' r1 r2 r3)

/-- A root alone. -/
def F0 (r : Nat) : RX.Tabs := fun l j => if l = 4 ∧ j = 0 then some r else none
def G0 : RX.Pags := fun _ _ => none
theorem inv0 (r n : Nat) (hr : r < n) (hn : n ≤ 65536) : RX.Inv (F0 r) G0 r n := by
  have key : ∀ {l j f}, F0 r l j = some f → l = 4 ∧ j = 0 ∧ f = r := by
    intro l j f h
    unfold F0 at h
    split at h
    · rename_i e; exact ⟨e.1, e.2, (Option.some.inj h).symm⟩
    · cases h
  refine ⟨hn, by simp [F0], fun {l j f} h => ?_, fun {l j l' j' f} h h' => ?_, fun {k c f p} h => (by cases h), fun {l j f} h h3 => ?_, fun {k c x} h => (by cases h), fun {c x} h => (by cases h)⟩
  · have := key h; omega
  · have := key h; have := key h'; omega
  · have := key h; omega
theorem rep0 (r : Nat) : RX.Rep (upd (fun _ => none) r (some zero)) (F0 r) G0 := by
  refine ⟨fun {l j f} h => ?_, fun {f} h => ?_⟩
  · unfold F0 at h
    split at h
    · rename_i e
      obtain rfl := Option.some.inj h
      refine ⟨zero, RX.upd_at _ _ _, fun i hi => ?_⟩
      rw [e.1, e.2]
      unfold RX.word F0 G0
      rw [if_neg (by omega)]
      rfl
    · cases h
  · refine RX.upd_ne fun e => h 4 0 ?_
    rw [e]; simp [F0]

set_option maxRecDepth 100000 in
set_option maxHeartbeats 2000000 in
theorem New_yesT (pg pb n m f : Nat) (T : Nat → Bool) (w : World) (hP : PL w pg pb n m T) (hk : KT w) (hk1 : 0 ≠ pg) (hk2 : 0 ≠ pb) (hlow : FR.Low T n 1 f) :
    Calls Tryd.prog 5 #[.pointer (some ⟨pg, 0, none⟩)] w fun e w' =>
      ∃ g b M, e = .returned (.tuple #[.pointer (some ⟨g, 0, none⟩), .int .i64 0]) ∧ w.heap.size ≤ g ∧ w.heap.size ≤ b ∧ Full w' g pg pb n m (FR.st T f 1 true) f b M (F0 f) G0 ∧ But [pg, pb] w w' := by
  have hmm := @run_makeMap Tryd.prog
  have hA := W_hid (fun w h => Alloc_any pg pb n m T _ 1 f 0 w h (gets_one hlow))
  have hn2 := hP.n2
  have hf := (low_one hlow).1
  have hlt := hP.lts
  have hkl := hk.lt
  have HP := W_hid hP
  have HK := W_hid hk
  clear hP hk
  go_enter Tryd.func5, Tryd.ntmps5
  go_wp2_with fail
  refine (hA.out _ HP.out).mono ?_
  rintro e w1 ⟨rfl, hP1, t1⟩
  have hP1' := W_hid hP1
  have t1' := W_hid t1
  have hmb := W_hid (MB.new w1)
  have hs1 := t1.size
  clear hP1 t1
  go_wp2_with (first | (refine wpList_insert_b rfl _ _ _ rfl w1.heap.size f zero (fun _ => none) rfl rfl rfl hmb.out (by omega) ?_; intro w2 hM2 hg2 hs2; have hM2' := W_hid hM2; have hg2' := W_hid hg2; clear hM2 hg2))
  have hsz : w2.heap.size = w1.heap.size + 1 := by rw [hs2]; simp
  have hb2 : Below w1.heap.size w1 w2 := ((Below.refl _ w1).alloc (Nat.le_refl _) _).grown hg2'.out (by simp) (fun j hj => by have := Option.some.inj hj; omega)
  have hb3 := hb2.alloc hb2.size (.cells #[.pointer (some ⟨pg, 0, none⟩), .int .u64 (f : Int), .map (some w1.heap.size)] 53)
  have hkt := HK.out.two t1'.out hk1 hk2
  have htk : Tk (F0 f) (FR.st T f 1 true) := by
    intro l j y hy
    unfold F0 at hy
    split at hy
    · obtain rfl := Option.some.inj hy
      unfold FR.st; rw [if_pos (by omega)]
    · cases hy
  have hfull : Full (w2.alloc (.cells #[.pointer (some ⟨pg, 0, none⟩), .int .u64 (f : Int), .map (some w1.heap.size)] 53)) (w1.heap.size + 1) pg pb n m (FR.st T f 1 true) f w1.heap.size (upd (fun _ => none) f (some zero)) (F0 f) G0 :=
    ⟨⟨⟨Blk.new w2 _ _ hsz.symm, hM2'.out.alloc _, hkt.keep hb3⟩, hP1'.out.below hb3 (by omega) (by omega), by omega, by omega, by omega, by omega, by omega, by omega, hk1, hk2, by omega⟩, inv0 f n hf hn2, rep0 f, htk⟩
  have hbut : But [pg, pb] w (w2.alloc (.cells #[.pointer (some ⟨pg, 0, none⟩), .int .u64 (f : Int), .map (some w1.heap.size)] 53)) := (But.two t1'.out (by simp) (by simp)).trans (But.of hb3)
  replace hfull := W_hid hfull
  replace hbut := W_hid hbut
  clear hb2 hb3 hkt htk hsz hs2
  go_ret2
  exact ⟨_, _, _, rfl, by omega, by omega, hfull.out, hbut.out⟩

set_option maxRecDepth 100000 in
theorem New_nilT (w : World) : Calls Tryd.prog 5 #[.pointer none] w fun e w' => e = .returned (.tuple #[.pointer none, .int .i64 1]) ∧ w = w' := by
  have hA := W_hid (Alloc_nil 1 w)
  go_enter Tryd.func5, Tryd.ntmps5
  go_wp2_with fail
  refine hA.out.mono ?_
  rintro e w1 ⟨rfl, rfl⟩
  go_wp2
  go_ret2
  exact ⟨rfl, rfl⟩

set_option maxRecDepth 100000 in
theorem Root_any (g pg r b : Nat) (M : Nat → Option (Nat → Nat)) (w : World) (h : TM w g pg r b M) : Calls Tryd.prog 14 #[.pointer (some ⟨g, 0, none⟩)] w fun e w' => e = .returned (.int .u64 (r : Int)) ∧ w = w' := by
  have hN := W_hid (none_tree g pg r b M w h)
  have c1 := h.box.cell (j := 1) rfl
  clear h
  go_enter Tryd.func14, Tryd.ntmps14
  go_wp2_with fail
  refine hN.out.mono ?_
  rintro e w1 ⟨rfl, rfl⟩
  go_wp2
  go_ret
  exact ⟨rfl, rfl⟩
set_option maxRecDepth 100000 in
theorem Root_nil (w : World) : Calls Tryd.prog 14 #[.pointer none] w fun e w' => e = .returned (.int .u64 0) ∧ w = w' := by
  have hN := W_hid (none_nilT w)
  go_enter Tryd.func14, Tryd.ntmps14
  go_wp2_with fail
  refine hN.out.mono ?_
  rintro e w1 ⟨rfl, rfl⟩
  go_wp2
  go_ret
  exact ⟨rfl, rfl⟩
set_option maxRecDepth 100000 in
theorem Tables_nil (w : World) : Calls Tryd.prog 13 #[.pointer none] w fun e w' => e = .returned (.slice none 0 0) ∧ w = w' := by
  have hN := W_hid (none_nilT w)
  go_enter Tryd.func13, Tryd.ntmps13
  go_wp2_with fail
  refine hN.out.mono ?_
  rintro e w1 ⟨rfl, rfl⟩
  go_wp2
  go_ret
  exact ⟨rfl, rfl⟩
set_option maxRecDepth 100000 in
theorem Pages_nil (w : World) : Calls Tryd.prog 12 #[.pointer none] w fun e w' => e = .returned (.slice none 0 0) ∧ w = w' := by
  have hN := W_hid (none_nilT w)
  go_enter Tryd.func12, Tryd.ntmps12
  go_wp2_with fail
  refine hN.out.mono ?_
  rintro e w1 ⟨rfl, rfl⟩
  go_wp2
  go_ret
  exact ⟨rfl, rfl⟩
set_option maxRecDepth 100000 in
theorem Word_nil (f i : Int) (w : World) : Calls Tryd.prog 8 #[.pointer none, .int .u64 f, .int .i64 i] w fun e w' => e = .returned (.tuple #[.int .u64 0, .bool false]) ∧ w = w' := by
  have hN := W_hid (none_nilT w)
  go_enter Tryd.func8, Tryd.ntmps8
  go_wp2_with fail
  refine hN.out.mono ?_
  rintro e w1 ⟨rfl, rfl⟩
  go_wp2
  go_ret2
  exact ⟨rfl, rfl⟩

set_option maxRecDepth 100000 in
set_option maxHeartbeats 1000000 in
theorem Drop_nil (w : World) : Calls Tryd.prog 11 #[.pointer none] w fun e w' => e = .returned (.int .i64 1) ∧ Below w.heap.size w w' := by
  have hmf : ∀ (fn : Fn) (first cap : Array Value) (w : World), (Instr.makeFunc fn first cap).run Tryd.prog w = .ok (.func fn first cap) w := fun _ _ _ _ => rfl
  have hD := W_hid (fun s f w => do_nil s f w)
  go_enter Tryd.func11, Tryd.ntmps11
  go_wp2_with fail
  refine (hD.out _ _ _).mono ?_
  rintro e w1 ⟨rfl, bel⟩
  have hres := W_hid (((Below.refl _ _).alloc (Nat.le_refl w.heap.size) _).trans (bel.mono (by simp)))
  clear bel
  go_wp2
  go_ret
  exact ⟨rfl, hres.out⟩
end Go.Proofs.YthiojnbnhagcgaaDoor

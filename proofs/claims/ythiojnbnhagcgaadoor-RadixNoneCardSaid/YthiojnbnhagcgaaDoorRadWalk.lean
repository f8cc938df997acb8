/- Contracts of package radix's Walk. -/
import Derived.Test.YthiojnbnhagcgaaDoorRadDo
import Derived.Test.YthiojnbnhagcgaaDoorRadPage
namespace Go.Proofs.YthiojnbnhagcgaaDoor
open Go.ChangeShapes Go.WideShapes Go.ChangeAt Go.RowKit
set_option linter.unusedVariables false
set_option linter.unusedSimpArgs false

/-- A tree with its tables and pages. -/
structure Full (w : World) (g pg pb n m : Nat) (T : Nat → Bool) (r b : Nat) (M : Nat → Option (Nat → Nat)) (F : RX.Tabs) (G : RX.Pags) : Prop where
  tt : TT w g pg pb n m T r b M
  inv : RX.Inv F G r n
  rep : RX.Rep M F G
  tk : Tk F T
theorem Full.keep {w w' : World} {g pg pb n m r b : Nat} {T : Nat → Bool} {M : Nat → Option (Nat → Nat)} {F : RX.Tabs} {G : RX.Pags} (h : Full w g pg pb n m T r b M F G) (hb : Below w.heap.size w w') : Full w' g pg pb n m T r b M F G := ⟨h.tt.keep hb, h.inv, h.rep, h.tk⟩

/-- What Walk says where its arguments are sound. -/
def walkC (G : RX.Pags) (va : Nat) (want : Int) : Int :=
  match RX.pg G va with
  | none => 26
  | some (_, _, p) => if bits BinOp.andNot IntKind.i64 want p != 0 then 27 else 0
def walkA (G : RX.Pags) (va : Nat) (want : Int) : Nat :=
  match RX.pg G va with
  | none => 0
  | some (k, f, p) => if bits BinOp.andNot IntKind.i64 want p != 0 then 0 else 4096 * f + va % EN.sz (k - 1)

def Walk1 (G : RX.Pags) (va : Nat) (want : Int) (w : World) (ba : Nat) (e : Ending) (w' : World) : Prop :=
  But [ba] w w' ∧ ((walkC G va want = 0 ∧ e = .returned (.tuple #[]) ∧ Blk w' ba 22 [.int .u64 ((walkA G va want : Nat) : Int)]) ∨ (walkC G va want ≠ 0 ∧ walkA G va want = 0 ∧ e = .panicked (fault (walkC G va want)) ∧ Blk w' ba 22 [.int .u64 0]))

set_option maxRecDepth 100000 in
set_option maxHeartbeats 2000000 in
theorem walk1_any (g pg pb n m r b va bt bv bw ba : Nat) (want : Int) (T : Nat → Bool) (M : Nat → Option (Nat → Nat)) (F : RX.Tabs) (G : RX.Pags) (w : World) (h : Full w g pg pb n m T r b M F G) (hva : va < 140737488355328)
    (h0 : Blk w bt 26 [.pointer (some ⟨g, 0, none⟩)]) (h1 : Blk w bv 22 [.int .u64 (va : Int)]) (h2 : Blk w bw 3 [.int .i64 want]) (h3 : Blk w ba 22 [.int .u64 0]) :
    Calls Tryd.prog 23 #[.pointer (some ⟨bt, 0, none⟩), .pointer (some ⟨bv, 0, none⟩), .pointer (some ⟨bw, 0, none⟩), .pointer (some ⟨ba, 0, none⟩)] w fun e w' => Walk1 G va want w ba e w' := by
  obtain ⟨L, fr, hd⟩ := RX.desc_some h.inv va 1 hva (by omega) (by omega)
  have c0 : w.cell? ⟨bt, 0, none⟩ = some (.pointer (some ⟨g, 0, none⟩)) := h0.cell rfl
  have c1 : w.cell? ⟨bv, 0, none⟩ = some (.int .u64 (va : Int)) := h1.cell rfl
  have H3 := W_hid h3
  have H1 := W_hid h1
  have H2 := W_hid h2
  have hlta := h3.lt
  rcases RX.desc_page h.inv hd with ⟨hp, f, p, hpg, hL2, hG, hF, hE⟩ | ⟨hp, hpg⟩
  · have hF := W_hid (fun w h' => find_yes g pg r b n va L 26 fr M F G h.inv h.rep hva hd hp w h')
    rw [hE] at hF
    have hPg := W_hid (fun w => page_any va L fr (false, decide (L = 2), p, f) true hva hd.l1 hd.l4 w)
    have H := W_hid h
    have hpp := h.inv.page hG
    clear h h0 h1 h2 h3 hE hd
    go_enter Tryd.func23, Tryd.ntmps23
    go_wp2_with fail
    refine (hF.out _ H.out.tt.tm).mono ?_
    rintro e w2 ⟨rfl, bel2⟩
    go_wp2_with fail
    refine (hPg.out _).mono ?_
    rintro e w3 ⟨rfl, bel3⟩
    have bel3' := W_hid (bel2.trans (bel3.mono bel2.size))
    have k1 : w3.cell? ⟨bv, 0, none⟩ = some (.int .u64 (va : Int)) := (H1.out.keep bel3'.out).cell rfl
    have k2 : w3.cell? ⟨bw, 0, none⟩ = some (.int .i64 want) := (H2.out.keep bel3'.out).cell rfl
    have B3 := H3.out.keep bel3'.out
    have k3 : w3.cell? ⟨ba, 0, none⟩ = some (.int .u64 0) := B3.cell rfl
    have f3 := B3.fz
    have hB3 := W_hid B3
    have x1 : ¬ bv = w3.heap.size := Nat.ne_of_lt (H1.out.keep bel3'.out).lt
    have x2 : ¬ bw = w3.heap.size := Nat.ne_of_lt (H2.out.keep bel3'.out).lt
    have x3 : ¬ ba = w3.heap.size := Nat.ne_of_lt B3.lt
    have y3 : ¬ w3.heap.size = ba := Ne.symm x3
    have l1 : ∀ o, (w3.alloc o).cell? ⟨bv, 0, none⟩ = some (.int .u64 (va : Int)) := fun o => ((H1.out.keep bel3'.out).alloc o).cell rfl
    have l2 : ∀ o, (w3.alloc o).cell? ⟨bw, 0, none⟩ = some (.int .i64 want) := fun o => ((H2.out.keep bel3'.out).alloc o).cell rfl
    have l3 : ∀ o, (w3.alloc o).cell? ⟨ba, 0, none⟩ = some (.int .u64 0) := fun o => (B3.alloc o).cell rfl
    have l4 : ∀ o i, (w3.alloc o).frozen? ⟨ba, i, none⟩ = false := fun o i => (B3.alloc o).fz i
    have hf36 : f < 68719476736 := hpp.2.2.1.2.2.1
    have hsz := EN.sz_pos (L - 1)
    have hmod := Nat.mod_le va (EN.sz (L - 1))
    have hmod2 := Nat.mod_lt va hsz
    have hms := EN.sz_le (L - 1) (by omega)
    clear bel2 bel3 B3
    cases ht : (bits BinOp.andNot IntKind.i64 want p != 0) with
    | true =>
      have hC : Hid (walkC G va want = 27 ∧ walkA G va want = 0) := W_hid (by unfold walkC walkA; rw [hpg]; simp only [ht]; exact ⟨rfl, rfl⟩)
      clear hpg
      go_wp2
      exact ⟨rfl, (But.of bel3'.out).alloc _, .inr ⟨by rw [hC.out.1]; decide, hC.out.2, by rw [hC.out.1]; rfl, hB3.out.alloc _⟩⟩
    | false =>
      have hC : Hid (walkC G va want = 0 ∧ walkA G va want = 4096 * f + va % EN.sz (L - 1)) := W_hid (by unfold walkC walkA; rw [hpg]; simp only [ht]; exact ⟨rfl, rfl⟩)
      obtain ⟨q, hq⟩ : ∃ q, q = va - va % EN.sz (L - 1) := ⟨_, rfl⟩
      rw [← hq]
      have hv : Hid ((4096 : Int) * f + va - q = ((4096 * f + va % EN.sz (L - 1) : Nat) : Int)) := W_hid (by omega)
      have hq2 : q ≤ va := by omega
      clear hpg hq hmod hmod2 hsz hms
      go_wp2
      all_goals
        go_end0
        refine ⟨((But.of bel3'.out).alloc _).set (.inl (by simp)) _, .inl ⟨hC.out.1, rfl, ?_⟩⟩
        rw [hC.out.2, ← hv.out]
        exact (hB3.out.alloc _).set 0 _
  · have hF := W_hid (fun w h' => find_no g pg r b n va L 26 fr M F G h.inv h.rep hva hd hp w h')
    have H := W_hid h
    have hC : Hid (walkC G va want = 26 ∧ walkA G va want = 0) := W_hid (by unfold walkC walkA; rw [hpg]; exact ⟨rfl, rfl⟩)
    clear h h0 h1 h2 h3 hd hpg
    go_enter Tryd.func23, Tryd.ntmps23
    go_wp2_with fail
    refine (hF.out _ H.out.tt.tm).mono ?_
    rintro e w2 ⟨rfl, bel2⟩
    exact ⟨rfl, But.of bel2, .inr ⟨by rw [hC.out.1]; decide, hC.out.2, by rw [hC.out.1], H3.out.keep bel2⟩⟩

/-- Are Walk's arguments sound? -/
def walkOk (va : Nat) (want : Int) : Bool := decide (va < 140737488355328) && (bits BinOp.andNot IntKind.i64 want 7 == 0)

set_option maxRecDepth 100000 in
set_option maxHeartbeats 2000000 in
theorem Walk_yes (g pg pb n m r b va : Nat) (want : Int) (T : Nat → Bool) (M : Nat → Option (Nat → Nat)) (F : RX.Tabs) (G : RX.Pags) (w : World) (h : Full w g pg pb n m T r b M F G) (hok : walkOk va want = true) :
    Calls Tryd.prog 7 #[.pointer (some ⟨g, 0, none⟩), .int .u64 (va : Int), .int .i64 want] w fun e w' =>
      e = .returned (.tuple #[.int .u64 ((walkA G va want : Nat) : Int), .int .i64 (walkC G va want)]) ∧ Below w.heap.size w w' := by
  unfold walkOk at hok
  rw [Bool.and_eq_true, decide_eq_true_eq] at hok
  obtain ⟨hva, d2⟩ := hok
  have d1 : decide ((va : Int) < 140737488355328) = true := by simp; omega
  have hmf : ∀ (fn : Fn) (first cap : Array Value) (w : World), (Instr.makeFunc fn first cap).run Tryd.prog w = .ok (.func fn first cap) w := fun _ _ _ _ => rfl
  have H := W_hid h
  clear h
  go_enter Tryd.func7, Tryd.ntmps7
  go_wp2_with fail
  refine calls_world (fun W => Full W g pg pb n m T r b M F G ∧ Blk W w.heap.size 26 [.pointer (some ⟨g, 0, none⟩)] ∧ Blk W (w.heap.size + 1) 22 [.int .u64 (va : Int)] ∧ Blk W (w.heap.size + 1 + 1) 3 [.int .i64 want] ∧ Blk W (w.heap.size + 1 + 1 + 1) 22 [.int .u64 0] ∧ Below w.heap.size w W)
    ⟨H.out.keep (((((Below.refl _ _).alloc (Nat.le_refl _) _).alloc (by simp) _).alloc (by simp; omega) _).alloc (by simp; omega) _), (((Blk.new w _ _ rfl).alloc _).alloc _).alloc _, ((Blk.new (w.alloc _) _ _ (by simp)).alloc _).alloc _, (Blk.new ((w.alloc _).alloc _) _ _ (by simp)).alloc _, Blk.new (((w.alloc _).alloc _).alloc _) _ _ (by simp),
      ((((Below.refl _ _).alloc (Nat.le_refl _) _).alloc (by simp) _).alloc (by simp; omega) _).alloc (by simp; omega) _⟩ ?_
  rintro W ⟨hF, b0, b1, b2, b3, bel⟩
  clear H
  have hlt := b3.lt
  have hW := W_hid (walk1_any g pg pb n m r b va w.heap.size (w.heap.size + 1) (w.heap.size + 1 + 1) (w.heap.size + 1 + 1 + 1) want T M F G (W.alloc (.cells #[.int .i64 0] 27)) (hF.keep ((Below.refl _ _).alloc (Nat.le_refl _) _)) hva (b0.alloc _) (b1.alloc _) (b2.alloc _) (b3.alloc _))
  have hy : ∀ w', But [w.heap.size + 1 + 1 + 1] (W.alloc (.cells #[.int .i64 0] 27)) w' → Blk w' W.heap.size 27 [.int .i64 0] := fun w' hB => (Blk.new W 27 [.int .i64 0] rfl).but hB (by simp; omega)
  refine (do_yes g pg r b 23 M _ W hF.tt.tm _ (fun w => by kernel_rfl) (fun e w' hE => ?_) hW.out).mono ?_
  · obtain ⟨hB, ⟨-, rfl, -⟩ | ⟨-, -, rfl, -⟩⟩ := hE
    · exact ⟨.inl rfl, hy _ hB⟩
    · exact ⟨.inr ⟨_, rfl⟩, hy _ hB⟩
  have hbB : ∀ w', But [w.heap.size + 1 + 1 + 1] (W.alloc (.cells #[.int .i64 0] 27)) w' → Below w.heap.size w w' := fun w' hB => (bel.alloc bel.size _).trans (hB.below (by simp; omega) (by simp; omega))
  replace hbB := W_hid hbB
  have hbs := W_hid bel.size
  clear b0 b1 b2 b3 bel hF hW hy
  rintro e w' ⟨w1, ⟨⟨hB, ⟨hC, -, hA⟩ | ⟨-, -, he, -⟩⟩, rfl, rfl⟩ | ⟨c, ⟨hB, ⟨-, he, -⟩ | ⟨hC, hC2, he, hA⟩⟩, rfl, rfl⟩⟩
  · have k0 : (w1.setCell ⟨W.heap.size, 0, none⟩ (.int .i64 0)).cell? ⟨w.heap.size + 1 + 1 + 1, 0, none⟩ = some (.int .u64 ((walkA G va want : Nat) : Int)) := (hA.far (by show _ ≠ W.heap.size; omega) _).cell rfl
    have hres := W_hid ((hbB.out _ hB).setCell (p := ⟨W.heap.size, 0, none⟩) hbs.out (.int .i64 0))
    replace hC := W_hid hC
    clear hA hB hbB
    go_wp2
    go_ret2
    exact ⟨by rw [hC.out]; rfl, hres.out⟩
  · cases he
  · cases he
  · obtain rfl := fault_inj he
    have k0 : (w1.setCell ⟨W.heap.size, 0, none⟩ (.int .i64 (walkC G va want))).cell? ⟨w.heap.size + 1 + 1 + 1, 0, none⟩ = some (.int .u64 0) := (hA.far (by show _ ≠ W.heap.size; omega) _).cell rfl
    have hres := W_hid ((hbB.out _ hB).setCell (p := ⟨W.heap.size, 0, none⟩) hbs.out (.int .i64 (walkC G va want)))
    replace hC2 := W_hid hC2
    clear hA hB hbB he hC
    go_wp2
    go_ret2
    exact ⟨by rw [hC2.out]; rfl, hres.out⟩

set_option maxRecDepth 100000 in
set_option maxHeartbeats 2000000 in
theorem Walk_arg (g pg r b va : Nat) (want : Int) (M : Nat → Option (Nat → Nat)) (w : World) (h : TM w g pg r b M) (hok : walkOk va want = false) :
    Calls Tryd.prog 7 #[.pointer (some ⟨g, 0, none⟩), .int .u64 (va : Int), .int .i64 want] w fun e w' => e = .returned (.tuple #[.int .u64 0, .int .i64 2]) ∧ Below w.heap.size w w' := by
  have hmf : ∀ (fn : Fn) (first cap : Array Value) (w : World), (Instr.makeFunc fn first cap).run Tryd.prog w = .ok (.func fn first cap) w := fun _ _ _ _ => rfl
  have H := W_hid h
  have hD := W_hid (fun f w h => do_arg g pg r b M f w h)
  clear h
  unfold walkOk at hok
  by_cases hva : va < 140737488355328
  · have d1 : decide ((va : Int) < 140737488355328) = true := by simp; omega
    have d2 : (bits BinOp.andNot IntKind.i64 want 7 == 0) = false := by simpa [hva] using hok
    clear hok hva
    go_enter Tryd.func7, Tryd.ntmps7
    go_wp2_with fail
    refine (hD.out _ _ (H.out.keep (((((Below.refl _ _).alloc (Nat.le_refl _) _).alloc (by simp) _).alloc (by simp; omega) _).alloc (by simp; omega) _))).mono ?_
    rintro e w2 ⟨rfl, bel⟩
    have k0 : w2.cell? ⟨w.heap.size + 1 + 1 + 1, 0, none⟩ = some (.int .u64 0) := (Blk.keep (Blk.new (((w.alloc _).alloc _).alloc _) _ _ (by simp)) bel).cell rfl
    have hres := W_hid (((((Below.refl _ _).alloc (Nat.le_refl _) _).alloc (by simp) _).alloc (by simp; omega) _ |>.alloc (by simp; omega) _).trans (bel.mono (by simp; omega)))
    clear bel
    go_wp2
    go_ret2
    exact ⟨rfl, hres.out⟩
  · have d1 : decide ((va : Int) < 140737488355328) = false := by simp; omega
    clear hok hva
    go_enter Tryd.func7, Tryd.ntmps7
    go_wp2_with fail
    refine (hD.out _ _ (H.out.keep (((((Below.refl _ _).alloc (Nat.le_refl _) _).alloc (by simp) _).alloc (by simp; omega) _).alloc (by simp; omega) _))).mono ?_
    rintro e w2 ⟨rfl, bel⟩
    have k0 : w2.cell? ⟨w.heap.size + 1 + 1 + 1, 0, none⟩ = some (.int .u64 0) := (Blk.keep (Blk.new (((w.alloc _).alloc _).alloc _) _ _ (by simp)) bel).cell rfl
    have hres := W_hid (((((Below.refl _ _).alloc (Nat.le_refl _) _).alloc (by simp) _).alloc (by simp; omega) _ |>.alloc (by simp; omega) _).trans (bel.mono (by simp; omega)))
    clear bel
    go_wp2
    go_ret2
    exact ⟨rfl, hres.out⟩

set_option maxRecDepth 100000 in
set_option maxHeartbeats 2000000 in
theorem Walk_nil (va want : Int) (w : World) :
    Calls Tryd.prog 7 #[.pointer none, .int .u64 va, .int .i64 want] w fun e w' => e = .returned (.tuple #[.int .u64 0, .int .i64 1]) ∧ Below w.heap.size w w' := by
  have hmf : ∀ (fn : Fn) (first cap : Array Value) (w : World), (Instr.makeFunc fn first cap).run Tryd.prog w = .ok (.func fn first cap) w := fun _ _ _ _ => rfl
  have hD := W_hid (fun s f w => do_nil s f w)
  obtain ⟨t1, d1⟩ : ∃ t, decide (va < 140737488355328) = t := ⟨_, rfl⟩
  obtain ⟨t2, d2⟩ : ∃ t, (bits BinOp.andNot IntKind.i64 want 7 == 0) = t := ⟨_, rfl⟩
  cases t1 <;> cases t2 <;>
  · go_enter Tryd.func7, Tryd.ntmps7
    go_wp2_with fail
    refine (hD.out _ _ _).mono ?_
    rintro e w2 ⟨rfl, bel⟩
    have k0 : w2.cell? ⟨w.heap.size + 1 + 1 + 1, 0, none⟩ = some (.int .u64 0) := (Blk.keep (Blk.new (((w.alloc _).alloc _).alloc _) _ _ (by simp)) bel).cell rfl
    have hres := W_hid (((((Below.refl _ _).alloc (Nat.le_refl _) _).alloc (by simp) _).alloc (by simp; omega) _ |>.alloc (by simp; omega) _).trans (bel.mono (by simp; omega)))
    clear bel
    go_wp2
    go_ret2
    exact ⟨rfl, hres.out⟩
end Go.Proofs.YthiojnbnhagcgaaDoor

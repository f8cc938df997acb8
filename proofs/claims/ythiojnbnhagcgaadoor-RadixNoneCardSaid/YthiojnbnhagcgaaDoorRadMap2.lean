/- Contract of package radix's Map. -/
import Derived.Test.YthiojnbnhagcgaaDoorRadMap1
namespace Go.Proofs.YthiojnbnhagcgaaDoor
open Go.ChangeShapes Go.WideShapes Go.ChangeAt Go.RowKit
set_option linter.unusedVariables false
set_option linter.unusedSimpArgs false

theorem Full.far {w : World} {g pg pb n m r b y j : Nat} {T : Nat → Bool} {M : Nat → Option (Nat → Nat)} {F : RX.Tabs} {G : RX.Pags} (h : Full w g pg pb n m T r b M F G) (v : Value) (h1 : g ≠ y) (h2 : pg ≠ y) (h3 : pb ≠ y) (h4 : b ≠ y) (h5 : 0 ≠ y) : Full (w.setCell ⟨y, j, none⟩ v) g pg pb n m T r b M F G :=
  ⟨h.tt.map2 (h.tt.tm.mb.far (p := ⟨y, j, none⟩) h4 v) ((Two.refl y b w).setCell (p := ⟨y, j, none⟩) (.inl rfl) v) h1 h2 h3 h5, h.inv, h.rep, h.tk⟩
theorem Full.lts {w : World} {g pg pb n m r b : Nat} {T : Nat → Bool} {M : Nat → Option (Nat → Nat)} {F : RX.Tabs} {G : RX.Pags} (h : Full w g pg pb n m T r b M F G) : g < w.heap.size ∧ pg < w.heap.size ∧ pb < w.heap.size ∧ b < w.heap.size ∧ 0 < w.heap.size :=
  ⟨h.tt.tm.box.lt, h.tt.pl.lts.1, h.tt.pl.lts.2, h.tt.tm.mb.lt, h.tt.tm.kt.lt⟩
theorem Full.drewN {w : World} {g pg pb n m r b : Nat} {T : Nat → Bool} {M : Nat → Option (Nat → Nat)} {F : RX.Tabs} {G : RX.Pags} (h : Full w g pg pb n m T r b M F G) (k : Nat) : Full (w.drewN k) g pg pb n m T r b M F G := h.keep ⟨rfl, rfl, rfl, Nat.le_refl _, fun _ _ => rfl⟩
def lv (h : Bool) : Nat := if h then 2 else 1
theorem lv_two (h : Bool) : decide (lv h = 2) = h := by cases h <;> rfl
theorem lv_le (h : Bool) : 1 ≤ lv h ∧ lv h ≤ 2 := by cases h <;> decide

set_option maxRecDepth 100000 in
set_option maxHeartbeats 4000000 in
theorem Map_yes (g pg pb n m r b va f : Nat) (h : Bool) (p c : Int) (T T' : Nat → Bool) (M : Nat → Option (Nat → Nat)) (F F' : RX.Tabs) (G G' : RX.Pags) (w : World) (hF : Full w g pg pb n m T r b M F G) (hva : va < 140737488355328)
    (hr : EN.right false h p f (lv h : Nat)) (hal : va % EN.sz (lv h - 1) = 0) (hR : MapR F G T n va (lv h) f p c F' G' T') :
    Calls Tryd.prog 9 #[.pointer (some ⟨g, 0, none⟩), .agg #[.int .u64 (va : Int), .int .u64 (f : Int), .int .i64 p, .bool h]] w fun e w' =>
      e = .returned (.int .i64 c) ∧ (∃ M', Full w' g pg pb n m T' r b M' F' G') ∧ But [pg, pb, b] w w' := by
  have hmf : ∀ (fn : Fn) (first cap : Array Value) (w : World), (Instr.makeFunc fn first cap).run Tryd.prog w = .ok (.func fn first cap) w := fun _ _ _ _ => rfl
  have hf36 := hr.2.2.1
  have hE := W_hid (fun w hk => Encode_yes false h p f (lv h : Nat) hr w hk)
  have hlv := lv_le h
  have hSp := W_hid (fun (w : World) (t : Nat) => Calls.quiet_of_same ((span_any (lv h) (by omega) (by omega) (w.drewN t)).mono fun e w' ⟨he, hw⟩ => ⟨he, hw.symm⟩))
  have hDn := W_hid (fun (w : World) (t : Nat) => Calls.quiet_of_same ((down_yes va (EN.sz (lv h - 1)) (by omega) (sz_lt _ (by omega)) (sz_ones _ (by omega)) (w.drewN t)).mono fun e w' ⟨he, hw⟩ => ⟨he, hw.symm⟩))
  have hd0 : WM.down va (EN.sz (lv h - 1)) = va := WM.down_self _ _ hal
  rw [hd0] at hDn
  have d1 : decide ((va : Int) < 140737488355328) = true := by simp; omega
  have H := W_hid hF
  have hR' := W_hid hR
  have hr' := W_hid hr
  obtain ⟨V, hV⟩ : ∃ V, V = EN.wd h p f := ⟨_, rfl⟩
  rw [← hV] at hE
  replace hV := W_hid hV
  have hlts := W_hid (show pg < w.heap.size ∧ pb < w.heap.size ∧ b < w.heap.size from ⟨hF.tt.pl.lts.1, hF.tt.pl.lts.2, hF.tt.tm.mb.lt⟩)
  clear hF hR hr hd0 hal
  go_enter Tryd.func9, Tryd.ntmps9
  cases h with
  | true =>
    have hE2 : Hid (∀ w, KT w → Calls Tryd.prog 25 #[.agg #[.bool false, .bool true, .int .i64 p, .int .u64 (f : Int)], .int .i64 2] w fun e w' => e = .returned (.tuple #[.int .u64 (V : Int), .int .i64 0]) ∧ Below w.heap.size w w') := hE
    have hSp2 : Hid (∀ (w : World) (t : Nat), Calls Tryd.prog 27 #[.int .i64 2] (w.drewN t) fun e w' => e = .returned (.int .u64 ((EN.sz (2 - 1) : Nat) : Int)) ∧ ∃ m, w' = w.drewN m) := hSp
    have hDn2 : Hid (∀ (w : World) (t : Nat), Calls Tryd.prog 26 #[.int .u64 (va : Int), .int .u64 ((EN.sz (2 - 1) : Nat) : Int)] (w.drewN t) fun e w' => e = .returned (.tuple #[.int .u64 (va : Int), .int .i64 0]) ∧ ∃ m, w' = w.drewN m) := hDn
    obtain ⟨sz, hsz⟩ : ∃ sz, sz = EN.sz (2 - 1) := ⟨_, rfl⟩
    rw [← hsz] at hSp2 hDn2
    clear hE hSp hDn hlv hsz
    go_wp2_with fail
    refine calls_world (fun W => Full W g pg pb n m T r b M F G ∧ Blk W w.heap.size 26 [.pointer (some ⟨g, 0, none⟩)] ∧ Blk W (w.heap.size + 1) 24 [.int .u64 (va : Int), .int .u64 (f : Int), .int .i64 p, .bool true] ∧ Blk W (w.heap.size + 1 + 1) 3 [.int .i64 2] ∧ Below w.heap.size w W)
      ⟨H.out.keep ((((Below.refl _ _).alloc (Nat.le_refl _) _).alloc (by simp) _).alloc (by simp; omega) _), ((Blk.new w _ _ rfl).alloc _).alloc _, (Blk.new (w.alloc _) _ _ (by simp)).alloc _, Blk.new ((w.alloc _).alloc _) _ _ (by simp), (((Below.refl _ _).alloc (Nat.le_refl _) _).alloc (by simp) _).alloc (by simp; omega) _⟩ ?_
    rintro W ⟨hF, b0, b1, b2, bel⟩
    clear H
    refine (hE2.out _ hF.tt.tm.kt).mono ?_
    rintro e W1 ⟨rfl, bel1⟩
    have hF1 := W_hid (hF.keep bel1)
    have x0 := W_hid (b0.keep bel1)
    have x1 := W_hid (b1.keep bel1)
    have x2 := W_hid (b2.keep bel1)
    have bl1 := W_hid (bel.trans (bel1.mono bel.size))
    clear hF b0 b1 b2 bel bel1 hE2
    go_wp2_with fail
    refine wp_world (fun W => Full W g pg pb n m T r b M F G ∧ Blk W w.heap.size 26 [.pointer (some ⟨g, 0, none⟩)] ∧ Blk W (w.heap.size + 1) 24 [.int .u64 (va : Int), .int .u64 (f : Int), .int .i64 p, .bool true] ∧ Blk W (w.heap.size + 1 + 1) 3 [.int .i64 2] ∧ Blk W W1.heap.size 22 [.int .u64 (V : Int)] ∧ Below w.heap.size w W)
      ⟨hF1.out.keep ((Below.refl _ _).alloc (Nat.le_refl _) _), x0.out.alloc _, x1.out.alloc _, x2.out.alloc _, Blk.new W1 _ _ rfl, bl1.out.alloc bl1.out.size _⟩ ?_
    have hlt1 := W_hid x2.out.lt
    clear hF1 x0 x1 x2 bl1
    rintro W2 ⟨hF, b0, b1, b2, b3, bel⟩
    have k1 : W2.cell? ⟨w.heap.size + 1, 0, none⟩ = some (.int .u64 (va : Int)) := b1.cell rfl
    have k2 : W2.cell? ⟨w.heap.size + 1 + 1, 0, none⟩ = some (.int .i64 2) := b2.cell rfl
    have k0 : W2.cell? ⟨w.heap.size, 0, none⟩ = some (.pointer (some ⟨g, 0, none⟩)) := b0.cell rfl
    have hF2 := W_hid hF
    have x0 := W_hid b0
    have x1 := W_hid b1
    have x2 := W_hid b2
    have x3 := W_hid b3
    have bl2 := W_hid bel
    clear hF b0 b1 b2 b3 bel
    go_quiet (first | (go_at_call 27; exact hSp2.out _ _) | (go_at_call 26; exact hDn2.out _ _))
    go_wp2_with fail
    refine calls_world (fun W => Full W g pg pb n m T r b M F G ∧ Blk W w.heap.size 26 [.pointer (some ⟨g, 0, none⟩)] ∧ Blk W (w.heap.size + 1) 24 [.int .u64 (va : Int), .int .u64 (f : Int), .int .i64 p, .bool true] ∧ Blk W (w.heap.size + 1 + 1) 3 [.int .i64 2] ∧ Blk W W1.heap.size 22 [.int .u64 (V : Int)] ∧ Below w.heap.size w W)
      ⟨hF2.out.drewN nq, x0.out, x1.out, x2.out, x3.out, below_drewN bl2.out nq⟩ ?_
    clear hF2 x0 x1 x2 x3 bl2 k0 k1 k2 hSp2 hDn2
    rintro W3 ⟨hF, b0, b1, b2, b3, bel⟩
    have hpl := hlts.out
    have h1w := hlt1.out
    have hbs := bel.size
    have hV' := hV.out
    subst hV'
    have hW := W_hid (map1_any g pg pb n m r b va 2 f w.heap.size (w.heap.size + 1) (w.heap.size + 1 + 1) W1.heap.size p c T T' M F F' G G' (W3.alloc (.cells #[.int .i64 0] 27)) (hF.keep ((Below.refl _ _).alloc (Nat.le_refl _) _)) hva (by omega) hr'.out hR'.out (b0.alloc _) (b1.alloc _) (b2.alloc _) (b3.alloc _) (by omega) (by omega) (by omega) (by omega))
    have hfl := hF.lts
    have hy : ∀ w', But [pg, pb, b] (W3.alloc (.cells #[.int .i64 0] 27)) w' → Blk w' W3.heap.size 27 [.int .i64 0] := fun w' hB => (Blk.new W3 27 [.int .i64 0] rfl).but hB (by simp; omega)
    refine (do_yes g pg r b 28 M _ W3 hF.tt.tm _ (fun w => by kernel_rfl) (fun e w' hE => ?_) hW.out).mono ?_
    · obtain ⟨hB, -, ⟨-, rfl⟩ | ⟨-, rfl⟩⟩ := hE
      · exact ⟨.inl rfl, hy _ hB⟩
      · exact ⟨.inr ⟨_, rfl⟩, hy _ hB⟩
    have hbut : ∀ w1 v, But [pg, pb, b] (W3.alloc (.cells #[.int .i64 0] 27)) w1 → But [pg, pb, b] w (w1.setCell ⟨W3.heap.size, 0, none⟩ v) := fun w1 v hB =>
      ((((But.refl [pg, pb, b] w).low bel).alloc (.cells #[.int .i64 0] 27)).trans hB).set (.inr (by show _ ≤ W3.heap.size; omega)) v
    replace hbut := W_hid hbut
    have hfar := W_hid (fun w1 v M' (hh : Full w1 g pg pb n m T' r b M' F' G') => hh.far (y := W3.heap.size) (j := 0) v (by omega) (by omega) (by omega) (by omega) (by omega))
    clear b0 b1 b2 b3 bel hF hW hy hfl hpl h1w hbs
    rintro e w' ⟨w1, ⟨⟨hB, ⟨M', hF'⟩, ⟨hc, -⟩ | ⟨-, he⟩⟩, rfl, rfl⟩ | ⟨c', ⟨hB, ⟨M', hF'⟩, ⟨-, he⟩ | ⟨-, he⟩⟩, rfl, rfl⟩⟩
    · have hres := W_hid (show (∃ M', Full (w1.setCell ⟨W3.heap.size, 0, none⟩ (.int .i64 0)) g pg pb n m T' r b M' F' G') ∧ But [pg, pb, b] w (w1.setCell ⟨W3.heap.size, 0, none⟩ (.int .i64 0)) from ⟨⟨M', hfar.out _ _ _ hF'⟩, hbut.out _ _ hB⟩)
      replace hc := W_hid hc
      clear hB hF' hfar hbut
      go_wp2
      go_ret
      exact ⟨by rw [hc.out]; rfl, hres.out⟩
    · cases he
    · cases he
    · obtain rfl := fault_inj he
      have hres := W_hid (show (∃ M', Full (w1.setCell ⟨W3.heap.size, 0, none⟩ (.int .i64 c')) g pg pb n m T' r b M' F' G') ∧ But [pg, pb, b] w (w1.setCell ⟨W3.heap.size, 0, none⟩ (.int .i64 c')) from ⟨⟨M', hfar.out _ _ _ hF'⟩, hbut.out _ _ hB⟩)
      clear hB hF' hfar hbut he
      go_wp2
      go_ret
      exact ⟨rfl, hres.out⟩
  | false =>
    have hE2 : Hid (∀ w, KT w → Calls Tryd.prog 25 #[.agg #[.bool false, .bool false, .int .i64 p, .int .u64 (f : Int)], .int .i64 1] w fun e w' => e = .returned (.tuple #[.int .u64 (V : Int), .int .i64 0]) ∧ Below w.heap.size w w') := hE
    have hSp2 : Hid (∀ (w : World) (t : Nat), Calls Tryd.prog 27 #[.int .i64 1] (w.drewN t) fun e w' => e = .returned (.int .u64 ((EN.sz (1 - 1) : Nat) : Int)) ∧ ∃ m, w' = w.drewN m) := hSp
    have hDn2 : Hid (∀ (w : World) (t : Nat), Calls Tryd.prog 26 #[.int .u64 (va : Int), .int .u64 ((EN.sz (1 - 1) : Nat) : Int)] (w.drewN t) fun e w' => e = .returned (.tuple #[.int .u64 (va : Int), .int .i64 0]) ∧ ∃ m, w' = w.drewN m) := hDn
    obtain ⟨sz, hsz⟩ : ∃ sz, sz = EN.sz (1 - 1) := ⟨_, rfl⟩
    rw [← hsz] at hSp2 hDn2
    clear hE hSp hDn hlv hsz
    go_wp2_with fail
    refine calls_world (fun W => Full W g pg pb n m T r b M F G ∧ Blk W w.heap.size 26 [.pointer (some ⟨g, 0, none⟩)] ∧ Blk W (w.heap.size + 1) 24 [.int .u64 (va : Int), .int .u64 (f : Int), .int .i64 p, .bool false] ∧ Blk W (w.heap.size + 1 + 1) 3 [.int .i64 1] ∧ Below w.heap.size w W)
      ⟨H.out.keep ((((Below.refl _ _).alloc (Nat.le_refl _) _).alloc (by simp) _).alloc (by simp; omega) _), ((Blk.new w _ _ rfl).alloc _).alloc _, (Blk.new (w.alloc _) _ _ (by simp)).alloc _, Blk.new ((w.alloc _).alloc _) _ _ (by simp), (((Below.refl _ _).alloc (Nat.le_refl _) _).alloc (by simp) _).alloc (by simp; omega) _⟩ ?_
    rintro W ⟨hF, b0, b1, b2, bel⟩
    clear H
    refine (hE2.out _ hF.tt.tm.kt).mono ?_
    rintro e W1 ⟨rfl, bel1⟩
    have hF1 := W_hid (hF.keep bel1)
    have x0 := W_hid (b0.keep bel1)
    have x1 := W_hid (b1.keep bel1)
    have x2 := W_hid (b2.keep bel1)
    have bl1 := W_hid (bel.trans (bel1.mono bel.size))
    clear hF b0 b1 b2 bel bel1 hE2
    go_wp2_with fail
    refine wp_world (fun W => Full W g pg pb n m T r b M F G ∧ Blk W w.heap.size 26 [.pointer (some ⟨g, 0, none⟩)] ∧ Blk W (w.heap.size + 1) 24 [.int .u64 (va : Int), .int .u64 (f : Int), .int .i64 p, .bool false] ∧ Blk W (w.heap.size + 1 + 1) 3 [.int .i64 1] ∧ Blk W W1.heap.size 22 [.int .u64 (V : Int)] ∧ Below w.heap.size w W)
      ⟨hF1.out.keep ((Below.refl _ _).alloc (Nat.le_refl _) _), x0.out.alloc _, x1.out.alloc _, x2.out.alloc _, Blk.new W1 _ _ rfl, bl1.out.alloc bl1.out.size _⟩ ?_
    have hlt1 := W_hid x2.out.lt
    clear hF1 x0 x1 x2 bl1
    rintro W2 ⟨hF, b0, b1, b2, b3, bel⟩
    have k1 : W2.cell? ⟨w.heap.size + 1, 0, none⟩ = some (.int .u64 (va : Int)) := b1.cell rfl
    have k2 : W2.cell? ⟨w.heap.size + 1 + 1, 0, none⟩ = some (.int .i64 1) := b2.cell rfl
    have k0 : W2.cell? ⟨w.heap.size, 0, none⟩ = some (.pointer (some ⟨g, 0, none⟩)) := b0.cell rfl
    have hF2 := W_hid hF
    have x0 := W_hid b0
    have x1 := W_hid b1
    have x2 := W_hid b2
    have x3 := W_hid b3
    have bl2 := W_hid bel
    clear hF b0 b1 b2 b3 bel
    go_quiet (first | (go_at_call 27; exact hSp2.out _ _) | (go_at_call 26; exact hDn2.out _ _))
    go_wp2_with fail
    refine calls_world (fun W => Full W g pg pb n m T r b M F G ∧ Blk W w.heap.size 26 [.pointer (some ⟨g, 0, none⟩)] ∧ Blk W (w.heap.size + 1) 24 [.int .u64 (va : Int), .int .u64 (f : Int), .int .i64 p, .bool false] ∧ Blk W (w.heap.size + 1 + 1) 3 [.int .i64 1] ∧ Blk W W1.heap.size 22 [.int .u64 (V : Int)] ∧ Below w.heap.size w W)
      ⟨hF2.out.drewN nq, x0.out, x1.out, x2.out, x3.out, below_drewN bl2.out nq⟩ ?_
    clear hF2 x0 x1 x2 x3 bl2 k0 k1 k2 hSp2 hDn2
    rintro W3 ⟨hF, b0, b1, b2, b3, bel⟩
    have hpl := hlts.out
    have h1w := hlt1.out
    have hbs := bel.size
    have hV' := hV.out
    subst hV'
    have hW := W_hid (map1_any g pg pb n m r b va 1 f w.heap.size (w.heap.size + 1) (w.heap.size + 1 + 1) W1.heap.size p c T T' M F F' G G' (W3.alloc (.cells #[.int .i64 0] 27)) (hF.keep ((Below.refl _ _).alloc (Nat.le_refl _) _)) hva (by omega) hr'.out hR'.out (b0.alloc _) (b1.alloc _) (b2.alloc _) (b3.alloc _) (by omega) (by omega) (by omega) (by omega))
    have hfl := hF.lts
    have hy : ∀ w', But [pg, pb, b] (W3.alloc (.cells #[.int .i64 0] 27)) w' → Blk w' W3.heap.size 27 [.int .i64 0] := fun w' hB => (Blk.new W3 27 [.int .i64 0] rfl).but hB (by simp; omega)
    refine (do_yes g pg r b 28 M _ W3 hF.tt.tm _ (fun w => by kernel_rfl) (fun e w' hE => ?_) hW.out).mono ?_
    · obtain ⟨hB, -, ⟨-, rfl⟩ | ⟨-, rfl⟩⟩ := hE
      · exact ⟨.inl rfl, hy _ hB⟩
      · exact ⟨.inr ⟨_, rfl⟩, hy _ hB⟩
    have hbut : ∀ w1 v, But [pg, pb, b] (W3.alloc (.cells #[.int .i64 0] 27)) w1 → But [pg, pb, b] w (w1.setCell ⟨W3.heap.size, 0, none⟩ v) := fun w1 v hB =>
      ((((But.refl [pg, pb, b] w).low bel).alloc (.cells #[.int .i64 0] 27)).trans hB).set (.inr (by show _ ≤ W3.heap.size; omega)) v
    replace hbut := W_hid hbut
    have hfar := W_hid (fun w1 v M' (hh : Full w1 g pg pb n m T' r b M' F' G') => hh.far (y := W3.heap.size) (j := 0) v (by omega) (by omega) (by omega) (by omega) (by omega))
    clear b0 b1 b2 b3 bel hF hW hy hfl hpl h1w hbs
    rintro e w' ⟨w1, ⟨⟨hB, ⟨M', hF'⟩, ⟨hc, -⟩ | ⟨-, he⟩⟩, rfl, rfl⟩ | ⟨c', ⟨hB, ⟨M', hF'⟩, ⟨-, he⟩ | ⟨-, he⟩⟩, rfl, rfl⟩⟩
    · have hres := W_hid (show (∃ M', Full (w1.setCell ⟨W3.heap.size, 0, none⟩ (.int .i64 0)) g pg pb n m T' r b M' F' G') ∧ But [pg, pb, b] w (w1.setCell ⟨W3.heap.size, 0, none⟩ (.int .i64 0)) from ⟨⟨M', hfar.out _ _ _ hF'⟩, hbut.out _ _ hB⟩)
      replace hc := W_hid hc
      clear hB hF' hfar hbut
      go_wp2
      go_ret
      exact ⟨by rw [hc.out]; rfl, hres.out⟩
    · cases he
    · cases he
    · obtain rfl := fault_inj he
      have hres := W_hid (show (∃ M', Full (w1.setCell ⟨W3.heap.size, 0, none⟩ (.int .i64 c')) g pg pb n m T' r b M' F' G') ∧ But [pg, pb, b] w (w1.setCell ⟨W3.heap.size, 0, none⟩ (.int .i64 c')) from ⟨⟨M', hfar.out _ _ _ hF'⟩, hbut.out _ _ hB⟩)
      clear hB hF' hfar hbut he
      go_wp2
      go_ret
      exact ⟨rfl, hres.out⟩
end Go.Proofs.YthiojnbnhagcgaaDoor

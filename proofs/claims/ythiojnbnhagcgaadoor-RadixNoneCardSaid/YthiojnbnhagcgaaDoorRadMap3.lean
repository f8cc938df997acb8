/- Map where its arguments are none, or the tree is nil. -/
import Derived.Test.YthiojnbnhagcgaaDoorRadMap2
namespace Go.Proofs.YthiojnbnhagcgaaDoor
open Go.ChangeShapes Go.WideShapes Go.ChangeAt Go.RowKit
set_option linter.unusedVariables false
set_option linter.unusedSimpArgs false

set_option maxRecDepth 100000 in
set_option maxHeartbeats 4000000 in
theorem Map_arg (g pg r b va f : Nat) (h : Bool) (p : Int) (M : Nat → Option (Nat → Nat)) (w : World) (hT : TM w g pg r b M) (hf : f < 18446744073709551616) (hva : va < 18446744073709551616)
    (hno : ¬ (EN.right false h p f (lv h : Nat) ∧ va % EN.sz (lv h - 1) = 0 ∧ va < 140737488355328)) :
    Calls Tryd.prog 9 #[.pointer (some ⟨g, 0, none⟩), .agg #[.int .u64 (va : Int), .int .u64 (f : Int), .int .i64 p, .bool h]] w fun e w' =>
      e = .returned (.int .i64 2) ∧ Below w.heap.size w w' := by
  have hmf : ∀ (fn : Fn) (first cap : Array Value) (w : World), (Instr.makeFunc fn first cap).run Tryd.prog w = .ok (.func fn first cap) w := fun _ _ _ _ => rfl
  obtain ⟨V, ec, hec, hE⟩ : ∃ V ec : Nat, ((EN.right false h p f (lv h : Nat) ∧ ec = 0) ∨ (¬ EN.right false h p f (lv h : Nat) ∧ ec = 2)) ∧ Hid (∀ w, KT w → Calls Tryd.prog 25 #[.agg #[.bool false, .bool h, .int .i64 p, .int .u64 (f : Int)], .int .i64 ((lv h : Nat) : Int)] w fun e w' => e = .returned (.tuple #[.int .u64 (V : Int), .int .i64 (ec : Int)]) ∧ Below w.heap.size w w') := by
    by_cases h1 : EN.right false h p f (lv h : Nat)
    · exact ⟨_, 0, .inl ⟨h1, rfl⟩, W_hid (fun w hk => Encode_yes false h p f (lv h : Nat) h1 w hk)⟩
    · exact ⟨0, 2, .inr ⟨h1, rfl⟩, W_hid (fun w hk => Encode_no false h p f (lv h : Nat) h1 w hk)⟩
  have hlv := lv_le h
  have hSp := W_hid (fun (w : World) (t : Nat) => Calls.quiet_of_same ((span_any (lv h) (by omega) (by omega) (w.drewN t)).mono fun e w' ⟨he, hw⟩ => ⟨he, hw.symm⟩))
  have hDn := W_hid (fun (w : World) (t : Nat) => Calls.quiet_of_same ((down_yes va (EN.sz (lv h - 1)) hva (sz_lt _ (by omega)) (sz_ones _ (by omega)) (w.drewN t)).mono fun e w' ⟨he, hw⟩ => ⟨he, hw.symm⟩))
  obtain ⟨D, hDe⟩ : ∃ D, D = WM.down va (EN.sz (lv h - 1)) := ⟨_, rfl⟩
  rw [← hDe] at hDn
  have hts : ((ec : Int) == 0) = false ∨ (((ec : Int) == 0) = true ∧ ((D : Int) == (va : Int)) = false) ∨ (((ec : Int) == 0) = true ∧ ((D : Int) == (va : Int)) = true ∧ decide ((va : Int) < 140737488355328) = false) := by
    by_cases h1 : EN.right false h p f (lv h : Nat)
    · rcases hec with ⟨-, e2⟩ | ⟨hn, -⟩
      · by_cases h2 : va % EN.sz (lv h - 1) = 0
        · refine .inr (.inr ⟨by rw [e2]; rfl, ?_, ?_⟩)
          · rw [hDe, WM.down_self _ _ h2]; simp
          · have : ¬ va < 140737488355328 := fun h3 => hno ⟨h1, h2, h3⟩
            simp; omega
        · refine .inr (.inl ⟨by rw [e2]; rfl, ?_⟩)
          have := WM.down_ne _ _ h2
          rw [← hDe] at this
          simp; omega
      · exact absurd h1 hn
    · rcases hec with ⟨h2, -⟩ | ⟨-, e2⟩
      · exact absurd h2 h1
      · exact .inl (by rw [e2]; rfl)
  clear hec hDe hno
  go_enter Tryd.func9, Tryd.ntmps9
  cases h with
  | true =>
    have hE2 : Hid (∀ w, KT w → Calls Tryd.prog 25 #[.agg #[.bool false, .bool true, .int .i64 p, .int .u64 (f : Int)], .int .i64 2] w fun e w' => e = .returned (.tuple #[.int .u64 (V : Int), .int .i64 ec]) ∧ Below w.heap.size w w') := hE
    have hSp2 : Hid (∀ (w : World) (t : Nat), Calls Tryd.prog 27 #[.int .i64 2] (w.drewN t) fun e w' => e = .returned (.int .u64 ((EN.sz (2 - 1) : Nat) : Int)) ∧ ∃ m, w' = w.drewN m) := hSp
    have hDn2 : Hid (∀ (w : World) (t : Nat), Calls Tryd.prog 26 #[.int .u64 (va : Int), .int .u64 ((EN.sz (2 - 1) : Nat) : Int)] (w.drewN t) fun e w' => e = .returned (.tuple #[.int .u64 (D : Int), .int .i64 0]) ∧ ∃ m, w' = w.drewN m) := hDn
    obtain ⟨sz, hsz⟩ : ∃ sz, sz = EN.sz (2 - 1) := ⟨_, rfl⟩
    rw [← hsz] at hSp2 hDn2
    clear hE hSp hDn hlv hsz
    go_wp2_with fail
    refine calls_world (fun W => TM W g pg r b M ∧ Blk W w.heap.size 26 [.pointer (some ⟨g, 0, none⟩)] ∧ Blk W (w.heap.size + 1) 24 [.int .u64 (va : Int), .int .u64 (f : Int), .int .i64 p, .bool true] ∧ Blk W (w.heap.size + 1 + 1) 3 [.int .i64 2] ∧ Below w.heap.size w W)
      ⟨hT.keep ((((Below.refl _ _).alloc (Nat.le_refl _) _).alloc (by simp) _).alloc (by simp; omega) _), ((Blk.new w _ _ rfl).alloc _).alloc _, (Blk.new (w.alloc _) _ _ (by simp)).alloc _, Blk.new ((w.alloc _).alloc _) _ _ (by simp), (((Below.refl _ _).alloc (Nat.le_refl _) _).alloc (by simp) _).alloc (by simp; omega) _⟩ ?_
    rintro W ⟨hF, b0, b1, b2, bel⟩
    refine (hE2.out _ hF.kt).mono ?_
    rintro e W1 ⟨rfl, bel1⟩
    have hF1 := hF.keep bel1
    have x0 := b0.keep bel1
    have x1 := b1.keep bel1
    have x2 := b2.keep bel1
    have bl1 := bel.trans (bel1.mono bel.size)
    replace hF1 := W_hid hF1
    replace x0 := W_hid x0
    replace x1 := W_hid x1
    replace x2 := W_hid x2
    replace bl1 := W_hid bl1
    clear hF b0 b1 b2 bel bel1 hE2
    go_wp2_with fail
    refine wp_world (fun W => TM W g pg r b M ∧ Blk W w.heap.size 26 [.pointer (some ⟨g, 0, none⟩)] ∧ Blk W (w.heap.size + 1) 24 [.int .u64 (va : Int), .int .u64 (f : Int), .int .i64 p, .bool true] ∧ Blk W (w.heap.size + 1 + 1) 3 [.int .i64 2] ∧ Below w.heap.size w W)
      ⟨hF1.out.keep ((Below.refl _ _).alloc (Nat.le_refl _) _), x0.out.alloc _, x1.out.alloc _, x2.out.alloc _, bl1.out.alloc bl1.out.size _⟩ ?_
    clear hF1 x0 x1 x2 bl1
    rintro W2 ⟨hF, b0, b1, b2, bel⟩
    have k1 : W2.cell? ⟨w.heap.size + 1, 0, none⟩ = some (.int .u64 (va : Int)) := b1.cell rfl
    have k2 : W2.cell? ⟨w.heap.size + 1 + 1, 0, none⟩ = some (.int .i64 2) := b2.cell rfl
    have k0 : W2.cell? ⟨w.heap.size, 0, none⟩ = some (.pointer (some ⟨g, 0, none⟩)) := b0.cell rfl
    have hF2 := W_hid hF
    have bl2 := W_hid bel
    clear hF b0 b1 b2 bel
    go_quiet (first | (go_at_call 27; exact hSp2.out _ _) | (go_at_call 26; exact hDn2.out _ _))
    have hDo := W_hid (fun f w h => do_arg g pg r b M f w h)
    rcases hts with ht1 | ⟨ht1, ht2⟩ | ⟨ht1, ht2, ht3⟩ <;>
    · go_wp2_with fail
      refine (hDo.out _ (W2.drewN nq) (hF2.out.keep ⟨rfl, rfl, rfl, Nat.le_refl _, fun _ _ => rfl⟩)).mono ?_
      rintro e w3 ⟨rfl, bel3⟩
      have hres := W_hid ((below_drewN bl2.out nq).trans (bel3.mono bl2.out.size))
      clear bel3
      go_wp2
      go_ret
      exact ⟨rfl, hres.out⟩
  | false =>
    have hE2 : Hid (∀ w, KT w → Calls Tryd.prog 25 #[.agg #[.bool false, .bool false, .int .i64 p, .int .u64 (f : Int)], .int .i64 1] w fun e w' => e = .returned (.tuple #[.int .u64 (V : Int), .int .i64 ec]) ∧ Below w.heap.size w w') := hE
    have hSp2 : Hid (∀ (w : World) (t : Nat), Calls Tryd.prog 27 #[.int .i64 1] (w.drewN t) fun e w' => e = .returned (.int .u64 ((EN.sz (1 - 1) : Nat) : Int)) ∧ ∃ m, w' = w.drewN m) := hSp
    have hDn2 : Hid (∀ (w : World) (t : Nat), Calls Tryd.prog 26 #[.int .u64 (va : Int), .int .u64 ((EN.sz (1 - 1) : Nat) : Int)] (w.drewN t) fun e w' => e = .returned (.tuple #[.int .u64 (D : Int), .int .i64 0]) ∧ ∃ m, w' = w.drewN m) := hDn
    obtain ⟨sz, hsz⟩ : ∃ sz, sz = EN.sz (1 - 1) := ⟨_, rfl⟩
    rw [← hsz] at hSp2 hDn2
    clear hE hSp hDn hlv hsz
    go_wp2_with fail
    refine calls_world (fun W => TM W g pg r b M ∧ Blk W w.heap.size 26 [.pointer (some ⟨g, 0, none⟩)] ∧ Blk W (w.heap.size + 1) 24 [.int .u64 (va : Int), .int .u64 (f : Int), .int .i64 p, .bool false] ∧ Blk W (w.heap.size + 1 + 1) 3 [.int .i64 1] ∧ Below w.heap.size w W)
      ⟨hT.keep ((((Below.refl _ _).alloc (Nat.le_refl _) _).alloc (by simp) _).alloc (by simp; omega) _), ((Blk.new w _ _ rfl).alloc _).alloc _, (Blk.new (w.alloc _) _ _ (by simp)).alloc _, Blk.new ((w.alloc _).alloc _) _ _ (by simp), (((Below.refl _ _).alloc (Nat.le_refl _) _).alloc (by simp) _).alloc (by simp; omega) _⟩ ?_
    rintro W ⟨hF, b0, b1, b2, bel⟩
    refine (hE2.out _ hF.kt).mono ?_
    rintro e W1 ⟨rfl, bel1⟩
    have hF1 := hF.keep bel1
    have x0 := b0.keep bel1
    have x1 := b1.keep bel1
    have x2 := b2.keep bel1
    have bl1 := bel.trans (bel1.mono bel.size)
    replace hF1 := W_hid hF1
    replace x0 := W_hid x0
    replace x1 := W_hid x1
    replace x2 := W_hid x2
    replace bl1 := W_hid bl1
    clear hF b0 b1 b2 bel bel1 hE2
    go_wp2_with fail
    refine wp_world (fun W => TM W g pg r b M ∧ Blk W w.heap.size 26 [.pointer (some ⟨g, 0, none⟩)] ∧ Blk W (w.heap.size + 1) 24 [.int .u64 (va : Int), .int .u64 (f : Int), .int .i64 p, .bool false] ∧ Blk W (w.heap.size + 1 + 1) 3 [.int .i64 1] ∧ Below w.heap.size w W)
      ⟨hF1.out.keep ((Below.refl _ _).alloc (Nat.le_refl _) _), x0.out.alloc _, x1.out.alloc _, x2.out.alloc _, bl1.out.alloc bl1.out.size _⟩ ?_
    clear hF1 x0 x1 x2 bl1
    rintro W2 ⟨hF, b0, b1, b2, bel⟩
    have k1 : W2.cell? ⟨w.heap.size + 1, 0, none⟩ = some (.int .u64 (va : Int)) := b1.cell rfl
    have k2 : W2.cell? ⟨w.heap.size + 1 + 1, 0, none⟩ = some (.int .i64 1) := b2.cell rfl
    have k0 : W2.cell? ⟨w.heap.size, 0, none⟩ = some (.pointer (some ⟨g, 0, none⟩)) := b0.cell rfl
    have hF2 := W_hid hF
    have bl2 := W_hid bel
    clear hF b0 b1 b2 bel
    go_quiet (first | (go_at_call 27; exact hSp2.out _ _) | (go_at_call 26; exact hDn2.out _ _))
    have hDo := W_hid (fun f w h => do_arg g pg r b M f w h)
    rcases hts with ht1 | ⟨ht1, ht2⟩ | ⟨ht1, ht2, ht3⟩ <;>
    · go_wp2_with fail
      refine (hDo.out _ (W2.drewN nq) (hF2.out.keep ⟨rfl, rfl, rfl, Nat.le_refl _, fun _ _ => rfl⟩)).mono ?_
      rintro e w3 ⟨rfl, bel3⟩
      have hres := W_hid ((below_drewN bl2.out nq).trans (bel3.mono bl2.out.size))
      clear bel3
      go_wp2
      go_ret
      exact ⟨rfl, hres.out⟩

set_option maxRecDepth 100000 in
set_option maxHeartbeats 4000000 in
theorem Map_nil (va f : Nat) (h : Bool) (p : Int) (w : World) (hf : f < 18446744073709551616) (hk : KT w) (hva : va < 18446744073709551616) :
    Calls Tryd.prog 9 #[.pointer none, .agg #[.int .u64 (va : Int), .int .u64 (f : Int), .int .i64 p, .bool h]] w fun e w' =>
      e = .returned (.int .i64 1) ∧ Below w.heap.size w w' := by
  have hmf : ∀ (fn : Fn) (first cap : Array Value) (w : World), (Instr.makeFunc fn first cap).run Tryd.prog w = .ok (.func fn first cap) w := fun _ _ _ _ => rfl
  obtain ⟨V, ec, hec, hE⟩ : ∃ V ec : Nat, ((EN.right false h p f (lv h : Nat) ∧ ec = 0) ∨ (¬ EN.right false h p f (lv h : Nat) ∧ ec = 2)) ∧ Hid (∀ w, KT w → Calls Tryd.prog 25 #[.agg #[.bool false, .bool h, .int .i64 p, .int .u64 (f : Int)], .int .i64 ((lv h : Nat) : Int)] w fun e w' => e = .returned (.tuple #[.int .u64 (V : Int), .int .i64 (ec : Int)]) ∧ Below w.heap.size w w') := by
    by_cases h1 : EN.right false h p f (lv h : Nat)
    · exact ⟨_, 0, .inl ⟨h1, rfl⟩, W_hid (fun w hk => Encode_yes false h p f (lv h : Nat) h1 w hk)⟩
    · exact ⟨0, 2, .inr ⟨h1, rfl⟩, W_hid (fun w hk => Encode_no false h p f (lv h : Nat) h1 w hk)⟩
  have hlv := lv_le h
  have hSp := W_hid (fun (w : World) (t : Nat) => Calls.quiet_of_same ((span_any (lv h) (by omega) (by omega) (w.drewN t)).mono fun e w' ⟨he, hw⟩ => ⟨he, hw.symm⟩))
  have hDn := W_hid (fun (w : World) (t : Nat) => Calls.quiet_of_same ((down_yes va (EN.sz (lv h - 1)) hva (sz_lt _ (by omega)) (sz_ones _ (by omega)) (w.drewN t)).mono fun e w' ⟨he, hw⟩ => ⟨he, hw.symm⟩))
  obtain ⟨D, hDe⟩ : ∃ D, D = WM.down va (EN.sz (lv h - 1)) := ⟨_, rfl⟩
  rw [← hDe] at hDn
  clear hec hDe 
  go_enter Tryd.func9, Tryd.ntmps9
  cases h with
  | true =>
    have hE2 : Hid (∀ w, KT w → Calls Tryd.prog 25 #[.agg #[.bool false, .bool true, .int .i64 p, .int .u64 (f : Int)], .int .i64 2] w fun e w' => e = .returned (.tuple #[.int .u64 (V : Int), .int .i64 ec]) ∧ Below w.heap.size w w') := hE
    have hSp2 : Hid (∀ (w : World) (t : Nat), Calls Tryd.prog 27 #[.int .i64 2] (w.drewN t) fun e w' => e = .returned (.int .u64 ((EN.sz (2 - 1) : Nat) : Int)) ∧ ∃ m, w' = w.drewN m) := hSp
    have hDn2 : Hid (∀ (w : World) (t : Nat), Calls Tryd.prog 26 #[.int .u64 (va : Int), .int .u64 ((EN.sz (2 - 1) : Nat) : Int)] (w.drewN t) fun e w' => e = .returned (.tuple #[.int .u64 (D : Int), .int .i64 0]) ∧ ∃ m, w' = w.drewN m) := hDn
    obtain ⟨sz, hsz⟩ : ∃ sz, sz = EN.sz (2 - 1) := ⟨_, rfl⟩
    rw [← hsz] at hSp2 hDn2
    clear hE hSp hDn hlv hsz
    go_wp2_with fail
    refine calls_world (fun W => KT W ∧ Blk W w.heap.size 26 [.pointer none] ∧ Blk W (w.heap.size + 1) 24 [.int .u64 (va : Int), .int .u64 (f : Int), .int .i64 p, .bool true] ∧ Blk W (w.heap.size + 1 + 1) 3 [.int .i64 2] ∧ Below w.heap.size w W)
      ⟨hk.keep ((((Below.refl _ _).alloc (Nat.le_refl _) _).alloc (by simp) _).alloc (by simp; omega) _), ((Blk.new w _ _ rfl).alloc _).alloc _, (Blk.new (w.alloc _) _ _ (by simp)).alloc _, Blk.new ((w.alloc _).alloc _) _ _ (by simp), (((Below.refl _ _).alloc (Nat.le_refl _) _).alloc (by simp) _).alloc (by simp; omega) _⟩ ?_
    rintro W ⟨hF, b0, b1, b2, bel⟩
    refine (hE2.out _ hF).mono ?_
    rintro e W1 ⟨rfl, bel1⟩
    have hF1 := hF.keep bel1
    have x0 := b0.keep bel1
    have x1 := b1.keep bel1
    have x2 := b2.keep bel1
    have bl1 := bel.trans (bel1.mono bel.size)
    replace hF1 := W_hid hF1
    replace x0 := W_hid x0
    replace x1 := W_hid x1
    replace x2 := W_hid x2
    replace bl1 := W_hid bl1
    clear hF b0 b1 b2 bel bel1 hE2
    go_wp2_with fail
    refine wp_world (fun W => KT W ∧ Blk W w.heap.size 26 [.pointer none] ∧ Blk W (w.heap.size + 1) 24 [.int .u64 (va : Int), .int .u64 (f : Int), .int .i64 p, .bool true] ∧ Blk W (w.heap.size + 1 + 1) 3 [.int .i64 2] ∧ Below w.heap.size w W)
      ⟨hF1.out.keep ((Below.refl _ _).alloc (Nat.le_refl _) _), x0.out.alloc _, x1.out.alloc _, x2.out.alloc _, bl1.out.alloc bl1.out.size _⟩ ?_
    clear hF1 x0 x1 x2 bl1
    rintro W2 ⟨hF, b0, b1, b2, bel⟩
    have k1 : W2.cell? ⟨w.heap.size + 1, 0, none⟩ = some (.int .u64 (va : Int)) := b1.cell rfl
    have k2 : W2.cell? ⟨w.heap.size + 1 + 1, 0, none⟩ = some (.int .i64 2) := b2.cell rfl
    have k0 : W2.cell? ⟨w.heap.size, 0, none⟩ = some (.pointer none) := b0.cell rfl
    have hF2 := W_hid hF
    have bl2 := W_hid bel
    clear hF b0 b1 b2 bel
    go_quiet (first | (go_at_call 27; exact hSp2.out _ _) | (go_at_call 26; exact hDn2.out _ _))
    obtain ⟨t1, ht1⟩ : ∃ t, ((ec : Int) == 0) = t := ⟨_, rfl⟩
    obtain ⟨t2, ht2⟩ : ∃ t, ((D : Int) == (va : Int)) = t := ⟨_, rfl⟩
    obtain ⟨t3, ht3⟩ : ∃ t, decide ((va : Int) < 140737488355328) = t := ⟨_, rfl⟩
    have hDo := W_hid (fun s f w => do_nil s f w)
    cases t1 <;> cases t2 <;> cases t3 <;>
    · go_wp2_with fail
      refine (hDo.out _ _ _).mono ?_
      rintro e w3 ⟨rfl, bel3⟩
      have hres := W_hid ((below_drewN bl2.out nq).trans (bel3.mono bl2.out.size))
      clear bel3
      go_wp2
      go_ret
      exact ⟨rfl, hres.out⟩
  | false =>
    have hE2 : Hid (∀ w, KT w → Calls Tryd.prog 25 #[.agg #[.bool false, .bool false, .int .i64 p, .int .u64 (f : Int)], .int .i64 1] w fun e w' => e = .returned (.tuple #[.int .u64 (V : Int), .int .i64 ec]) ∧ Below w.heap.size w w') := hE
    have hSp2 : Hid (∀ (w : World) (t : Nat), Calls Tryd.prog 27 #[.int .i64 1] (w.drewN t) fun e w' => e = .returned (.int .u64 ((EN.sz (1 - 1) : Nat) : Int)) ∧ ∃ m, w' = w.drewN m) := hSp
    have hDn2 : Hid (∀ (w : World) (t : Nat), Calls Tryd.prog 26 #[.int .u64 (va : Int), .int .u64 ((EN.sz (1 - 1) : Nat) : Int)] (w.drewN t) fun e w' => e = .returned (.tuple #[.int .u64 (D : Int), .int .i64 0]) ∧ ∃ m, w' = w.drewN m) := hDn
    obtain ⟨sz, hsz⟩ : ∃ sz, sz = EN.sz (1 - 1) := ⟨_, rfl⟩
    rw [← hsz] at hSp2 hDn2
    clear hE hSp hDn hlv hsz
    go_wp2_with fail
    refine calls_world (fun W => KT W ∧ Blk W w.heap.size 26 [.pointer none] ∧ Blk W (w.heap.size + 1) 24 [.int .u64 (va : Int), .int .u64 (f : Int), .int .i64 p, .bool false] ∧ Blk W (w.heap.size + 1 + 1) 3 [.int .i64 1] ∧ Below w.heap.size w W)
      ⟨hk.keep ((((Below.refl _ _).alloc (Nat.le_refl _) _).alloc (by simp) _).alloc (by simp; omega) _), ((Blk.new w _ _ rfl).alloc _).alloc _, (Blk.new (w.alloc _) _ _ (by simp)).alloc _, Blk.new ((w.alloc _).alloc _) _ _ (by simp), (((Below.refl _ _).alloc (Nat.le_refl _) _).alloc (by simp) _).alloc (by simp; omega) _⟩ ?_
    rintro W ⟨hF, b0, b1, b2, bel⟩
    refine (hE2.out _ hF).mono ?_
    rintro e W1 ⟨rfl, bel1⟩
    have hF1 := hF.keep bel1
    have x0 := b0.keep bel1
    have x1 := b1.keep bel1
    have x2 := b2.keep bel1
    have bl1 := bel.trans (bel1.mono bel.size)
    replace hF1 := W_hid hF1
    replace x0 := W_hid x0
    replace x1 := W_hid x1
    replace x2 := W_hid x2
    replace bl1 := W_hid bl1
    clear hF b0 b1 b2 bel bel1 hE2
    go_wp2_with fail
    refine wp_world (fun W => KT W ∧ Blk W w.heap.size 26 [.pointer none] ∧ Blk W (w.heap.size + 1) 24 [.int .u64 (va : Int), .int .u64 (f : Int), .int .i64 p, .bool false] ∧ Blk W (w.heap.size + 1 + 1) 3 [.int .i64 1] ∧ Below w.heap.size w W)
      ⟨hF1.out.keep ((Below.refl _ _).alloc (Nat.le_refl _) _), x0.out.alloc _, x1.out.alloc _, x2.out.alloc _, bl1.out.alloc bl1.out.size _⟩ ?_
    clear hF1 x0 x1 x2 bl1
    rintro W2 ⟨hF, b0, b1, b2, bel⟩
    have k1 : W2.cell? ⟨w.heap.size + 1, 0, none⟩ = some (.int .u64 (va : Int)) := b1.cell rfl
    have k2 : W2.cell? ⟨w.heap.size + 1 + 1, 0, none⟩ = some (.int .i64 1) := b2.cell rfl
    have k0 : W2.cell? ⟨w.heap.size, 0, none⟩ = some (.pointer none) := b0.cell rfl
    have hF2 := W_hid hF
    have bl2 := W_hid bel
    clear hF b0 b1 b2 bel
    go_quiet (first | (go_at_call 27; exact hSp2.out _ _) | (go_at_call 26; exact hDn2.out _ _))
    obtain ⟨t1, ht1⟩ : ∃ t, ((ec : Int) == 0) = t := ⟨_, rfl⟩
    obtain ⟨t2, ht2⟩ : ∃ t, ((D : Int) == (va : Int)) = t := ⟨_, rfl⟩
    obtain ⟨t3, ht3⟩ : ∃ t, decide ((va : Int) < 140737488355328) = t := ⟨_, rfl⟩
    have hDo := W_hid (fun s f w => do_nil s f w)
    cases t1 <;> cases t2 <;> cases t3 <;>
    · go_wp2_with fail
      refine (hDo.out _ _ _).mono ?_
      rintro e w3 ⟨rfl, bel3⟩
      have hres := W_hid ((below_drewN bl2.out nq).trans (bel3.mono bl2.out.size))
      clear bel3
      go_wp2
      go_ret
      exact ⟨rfl, hres.out⟩
end Go.Proofs.YthiojnbnhagcgaaDoor

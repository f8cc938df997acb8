/- Contract of the closure of package radix's Map. -/
import Derived.Test.YthiojnbnhagcgaaDoorRadWalk
namespace Go.Proofs.YthiojnbnhagcgaaDoor
open Go.ChangeShapes Go.WideShapes Go.ChangeAt Go.RowKit
set_option linter.unusedVariables false
set_option linter.unusedSimpArgs false

theorem tk_add : ∀ (fs : List Nat) {F : RX.Tabs} {T : Nat → Bool} {va L : Nat}, Tk F T → Tk (RX.addT F va L fs) (takeAll T fs)
  | [], F, T, va, L, h => by rw [take_nil]; exact h
  | f :: fs, F, T, va, L, h => by
    have h1 : Tk (RX.updF F (L - 1) (va / EN.sz (L - 1)) (some f)) (takeAll T [f]) := fun a b y hy => by
      unfold takeAll
      by_cases e : y = f
      · rw [if_pos (by simp [e])]
      · rw [if_neg (by simp [e])]
        unfold RX.updF at hy
        split at hy
        · exact absurd (Option.some.inj hy).symm e
        · exact h a b y hy
    have h2 := tk_add fs (va := va) (L := L - 1) h1
    have e : takeAll (takeAll T [f]) fs = takeAll T (f :: fs) := by
      funext x
      unfold takeAll
      by_cases e1 : x ∈ fs <;> by_cases e2 : x = f <;> simp [e1, e2]
    rw [e] at h2
    exact h2

/-- How Map goes at the tables: mapped already, no frames, or done. -/
inductive MapR (F : RX.Tabs) (G : RX.Pags) (T : Nat → Bool) (n va l f : Nat) (p : Int) : Int → RX.Tabs → RX.Pags → (Nat → Bool) → Prop
  | busy (L : Nat) (fr : Nat → Nat) (hd : RX.Desc F va l L fr) (hp : RX.pres F G L (va / EN.sz (L - 1)) = true) : MapR F G T n va l f p 102 F G T
  | full (L : Nat) (fr : Nat → Nat) (hd : RX.Desc F va l L fr) (hp : RX.pres F G L (va / EN.sz (L - 1)) = false) (fs : List Nat) (hl : fs.length < L - l) (ht : Takes T n fs) (hn : FR.NoLow (takeAll T fs) n 1) : MapR F G T n va l f p 24 F G T
  | done (L : Nat) (fr : Nat → Nat) (hd : RX.Desc F va l L fr) (hp : RX.pres F G L (va / EN.sz (L - 1)) = false) (fs : List Nat) (hl : fs.length = L - l) (ht : Takes T n fs) :
      MapR F G T n va l f p 0 (RX.addT F va L fs) (RX.updG G l (va / EN.sz (l - 1)) (some (f, p))) (takeAll T fs)
theorem mapR_some {F : RX.Tabs} {G : RX.Pags} {r n : Nat} (I : RX.Inv F G r n) (T : Nat → Bool) (va l f : Nat) (p : Int) (hva : va < 140737488355328) (h1 : 1 ≤ l) (h4 : l ≤ 4) : ∃ c F' G' T', MapR F G T n va l f p c F' G' T' := by
  obtain ⟨L, fr, hd⟩ := RX.desc_some I va l hva h1 h4
  cases hp : RX.pres F G L (va / EN.sz (L - 1)) with
  | true => exact ⟨_, _, _, _, .busy L fr hd hp⟩
  | false =>
    rcases takes_or T n (L - l) with ⟨fs, hl, h⟩ | ⟨fs, hl, h, hn⟩
    · exact ⟨_, _, _, _, .done L fr hd hp fs hl h⟩
    · exact ⟨_, _, _, _, .full L fr hd hp fs hl h hn⟩

theorem map_done {F : RX.Tabs} {G : RX.Pags} {M : Nat → Option (Nat → Nat)} {r n va l f : Nat} {p : Int} {fr : Nat → Nat} (I : RX.Inv F G r n) (R : RX.Rep M F G) (O : RX.Open F G va l fr) (hl : 1 ≤ l ∧ l ≤ 2) (hr : EN.right false (decide (l = 2)) p f l) (hva : va < 140737488355328) :
    RX.Inv F (RX.updG G l (va / EN.sz (l - 1)) (some (f, p))) r n ∧ RX.Rep (upd M (fr l) (some (wset ((M (fr l)).getD zero) (EN.idx va l) (EN.wd (decide (l = 2)) p f)))) F (RX.updG G l (va / EN.sz (l - 1)) (some (f, p))) := by
  have hon := O.on l (Nat.le_refl _) (by omega)
  have hnF := O.noF
  have e1 := RX.at_sz va l hl.1
  have hmul := Nat.div_mul_le_self va (EN.sz (l - 1))
  refine ⟨RX.inv_page I hl hr (by omega) (by rw [RX.sz_down va l hl.1]; exact hon) (fun e => by subst e; exact hnF), ?_⟩
  have h := RX.rep_page I R hon (EN.idx_lt va l) (some (f, p))
  rw [e1] at h
  have hw : RX.word F (RX.updG G l (va / EN.sz (l - 1)) (some (f, p))) l (va / EN.sz (l - 1)) = EN.wd (decide (l = 2)) p f := by
    unfold RX.word
    rw [hnF, RX.updG_at]
  rw [hw] at h
  exact h

def Map1 (g pg pb n m r b : Nat) (c : Int) (F' : RX.Tabs) (G' : RX.Pags) (T' : Nat → Bool) (w : World) (e : Ending) (w' : World) : Prop :=
  But [pg, pb, b] w w' ∧ (∃ M', Full w' g pg pb n m T' r b M' F' G') ∧ ((c = 0 ∧ e = .returned (.tuple #[])) ∨ (c ≠ 0 ∧ e = .panicked (fault c)))

set_option maxRecDepth 100000 in
set_option maxHeartbeats 4000000 in
theorem map1_any (g pg pb n m r b va l f bt bm bl bv : Nat) (p c : Int) (T T' : Nat → Bool) (M : Nat → Option (Nat → Nat)) (F F' : RX.Tabs) (G G' : RX.Pags) (w : World) (h : Full w g pg pb n m T r b M F G) (hva : va < 140737488355328)
    (hl : 1 ≤ l ∧ l ≤ 2) (hr : EN.right false (decide (l = 2)) p f l) (hR : MapR F G T n va l f p c F' G' T')
    (h0 : Blk w bt 26 [.pointer (some ⟨g, 0, none⟩)]) (h1 : Blk w bm 24 [.int .u64 (va : Int), .int .u64 (f : Int), .int .i64 p, .bool (decide (l = 2))]) (h2 : Blk w bl 3 [.int .i64 (l : Int)]) (h3 : Blk w bv 22 [.int .u64 ((EN.wd (decide (l = 2)) p f : Nat) : Int)])
    (ht : bt ≠ pg ∧ bt ≠ pb ∧ bt ≠ b) (hm : bm ≠ pg ∧ bm ≠ pb ∧ bm ≠ b) (hll : bl ≠ pg ∧ bl ≠ pb ∧ bl ≠ b) (hv : bv ≠ pg ∧ bv ≠ pb ∧ bv ≠ b) :
    Calls Tryd.prog 28 #[.pointer (some ⟨bt, 0, none⟩), .pointer (some ⟨bm, 0, none⟩), .pointer (some ⟨bl, 0, none⟩), .pointer (some ⟨bv, 0, none⟩)] w fun e w' => Map1 g pg pb n m r b c F' G' T' w e w' := by
  have hC : ∀ w', But [pg, pb, b] w w' → w'.cell? ⟨bt, 0, none⟩ = some (.pointer (some ⟨g, 0, none⟩)) ∧ w'.cell? ⟨bm, 0, none⟩ = some (.int .u64 (va : Int)) ∧ w'.cell? ⟨bl, 0, none⟩ = some (.int .i64 (l : Int)) ∧ w'.cell? ⟨bv, 0, none⟩ = some (.int .u64 ((EN.wd (decide (l = 2)) p f : Nat) : Int)) :=
    fun w' t => ⟨(h0.but t (by simp; omega)).cell rfl, (h1.but t (by simp; omega)).cell rfl, (h2.but t (by simp; omega)).cell rfl, (h3.but t (by simp; omega)).cell rfl⟩
  obtain ⟨V, hV⟩ : ∃ V, V = EN.wd (decide (l = 2)) p f := ⟨_, rfl⟩
  rw [← hV] at hC
  obtain ⟨c0, c1, c2, c3⟩ := hC w (But.refl _ _)
  have hCd := hC w.drew ⟨rfl, rfl, rfl, Nat.le_refl _, fun _ _ _ => rfl⟩
  have H := W_hid h
  have hD : ∀ w', w' = w.drew → Full w' g pg pb n m T r b M F G := fun w' e => by subst e; exact ⟨⟨⟨h.tt.tm.box, h.tt.tm.mb.heap rfl, h.tt.tm.kt⟩, ⟨h.tt.pl.box, h.tt.pl.row, h.tt.pl.ne, h.tt.pl.n1, h.tt.pl.n2, h.tt.pl.nm, h.tt.pl.m8, h.tt.pl.m2, h.tt.pl.pad⟩, h.tt.g1, h.tt.g2, h.tt.g3, h.tt.b1, h.tt.b2, h.tt.k0, h.tt.k1, h.tt.k2, h.tt.k3⟩, h.inv, h.rep, h.tk⟩
  have hDD := W_hid (hD _ rfl)
  replace hC := W_hid hC
  replace hV := W_hid hV
  clear h0 h1 h2 h3 hD
  cases hR with
  | busy L fr hd hp =>
    have hVac := W_hid (fun w h' => vacant_no g pg r b n va L l fr M F G h.inv h.rep hva hd hp w h')
    have hF0 := W_hid h
    clear h hd hp
    go_enter Tryd.func28, Tryd.ntmps28
    refine wp_region_held_drew (S := (fun w' => w'.cell? ⟨bt, 0, none⟩ = some (.pointer (some ⟨g, 0, none⟩)) ∧ w'.cell? ⟨bm, 0, none⟩ = some (.int .u64 (va : Int)) ∧ w'.cell? ⟨bl, 0, none⟩ = some (.int .i64 (l : Int)) ∧ w'.cell? ⟨bv, 0, none⟩ = some (.int .u64 (V : Int)))) (by kernel_rfl) hCd (fun hHeld => ?_)
    refine wpAnyH_take (i := 0) (v := .pointer (some ⟨g, 0, none⟩)) rfl (by kernel_rfl) (by kernel_rfl) (by kernel_rfl) (fun _ _ _ h => h) (Or.inl ⟨by rfl, fun w ⟨s1, s2, s3, s4⟩ => ?_⟩) hHeld ?_
    · go_simp
    simp only [Act.put, List.setIfInBounds_toArray, List.set_cons_zero, List.set_cons_succ]
    refine wpAnyH_take (i := 1) (v := .pointer (some ⟨g, 0, none⟩)) rfl (by kernel_rfl) (by kernel_rfl) (by kernel_rfl) (fun _ _ _ h => h) (Or.inl ⟨by rfl, fun w ⟨s1, s2, s3, s4⟩ => ?_⟩) hHeld ?_
    · go_simp
    simp only [Act.put, List.setIfInBounds_toArray, List.set_cons_zero, List.set_cons_succ]
    refine wpAnyH_take (i := 2) (v := .pointer (some ⟨g, 0, none⟩)) rfl (by kernel_rfl) (by kernel_rfl) (by kernel_rfl) (fun _ _ _ h => h) (Or.inl ⟨by rfl, fun w ⟨s1, s2, s3, s4⟩ => ?_⟩) hHeld ?_
    · go_simp
    simp only [Act.put, List.setIfInBounds_toArray, List.set_cons_zero, List.set_cons_succ]
    refine wpAnyH_take (i := 3) (v := .pointer (some ⟨bm, 0, none⟩)) rfl (by kernel_rfl) (by kernel_rfl) (by kernel_rfl) (fun _ _ _ h => h) (Or.inl ⟨by rfl, fun w ⟨s1, s2, s3, s4⟩ => ?_⟩) hHeld ?_
    · go_simp
    simp only [Act.put, List.setIfInBounds_toArray, List.set_cons_zero, List.set_cons_succ]
    refine wpAnyH_take (i := 4) (v := .int .u64 (va : Int)) rfl (by kernel_rfl) (by kernel_rfl) (by kernel_rfl) (fun _ _ _ h => h) (Or.inl ⟨by rfl, fun w ⟨s1, s2, s3, s4⟩ => ?_⟩) hHeld ?_
    · go_simp
    simp only [Act.put, List.setIfInBounds_toArray, List.set_cons_zero, List.set_cons_succ]
    refine wpAnyH_take (i := 5) (v := .int .i64 (l : Int)) rfl (by kernel_rfl) (by kernel_rfl) (by kernel_rfl) (fun _ _ _ h => h) (Or.inl ⟨by rfl, fun w ⟨s1, s2, s3, s4⟩ => ?_⟩) hHeld ?_
    · go_simp
    simp only [Act.put, List.setIfInBounds_toArray, List.set_cons_zero, List.set_cons_succ]
    refine wpAnyH_take (i := 7) (v := .int .i64 (l : Int)) rfl (by kernel_rfl) (by kernel_rfl) (by kernel_rfl) (fun _ _ _ h => h) (Or.inl ⟨by rfl, fun w ⟨s1, s2, s3, s4⟩ => ?_⟩) hHeld ?_
    · go_simp
    simp only [Act.put, List.setIfInBounds_toArray, List.set_cons_zero, List.set_cons_succ]
    refine wpAnyH_take (i := 9) (v := .int .i64 (l : Int)) rfl (by kernel_rfl) (by kernel_rfl) (by kernel_rfl) (fun _ _ _ h => h) (Or.inl ⟨by rfl, fun w ⟨s1, s2, s3, s4⟩ => ?_⟩) hHeld ?_
    · go_simp
    simp only [Act.put, List.setIfInBounds_toArray, List.set_cons_zero, List.set_cons_succ]
    refine wpAnyH_take (i := 10) (v := .int .u64 (V : Int)) rfl (by kernel_rfl) (by kernel_rfl) (by kernel_rfl) (fun _ _ _ h => h) (Or.inl ⟨by rfl, fun w ⟨s1, s2, s3, s4⟩ => ?_⟩) hHeld ?_
    · go_simp
    simp only [Act.put, List.setIfInBounds_toArray, List.set_cons_zero, List.set_cons_succ]
    refine wpAnyH_ready (rs := [6]) (by kernel_rfl) (by simp) ?_
    refine AllReadyH.cons rfl (fun K hK => ?_) AllReadyH.nil
    go_simp
    refine (hVac.out _ hDD.out.tt.tm).mono ?_
    rintro e w2 ⟨rfl, bel2⟩
    exact ⟨rfl, But.undrew (n := 1) (But.of bel2), ⟨M, hDD.out.keep bel2⟩, .inr ⟨by decide, rfl⟩⟩
  | full L fr hd hp fs hl2 hts hno =>
    have hVac := W_hid (fun w h' => vacant_yes g pg r b n va L l fr M F G h.inv h.rep hva hd hp w h')
    have hge := hd.ge
    have hLen := W_hid (fun w h' => (lengthen_any g pg pb n m r b va L l (RX.ent F G L (va / EN.sz (L - 1))) false fr T M F G fs w h' h.inv h.rep (RX.open_of hd hp) h.tk hva hl.1 hge (.inr ⟨hl2, hno⟩) hts).mono (fun e w' hh => hh.resolve_left (fun x => by have := x.1; omega)))
    have hF0 := W_hid h
    generalize RX.ent F G L (va / EN.sz (L - 1)) = E at *
    clear h hd hp hts hno
    go_enter Tryd.func28, Tryd.ntmps28
    refine wp_region_held_drew (S := (fun w' => w'.cell? ⟨bt, 0, none⟩ = some (.pointer (some ⟨g, 0, none⟩)) ∧ w'.cell? ⟨bm, 0, none⟩ = some (.int .u64 (va : Int)) ∧ w'.cell? ⟨bl, 0, none⟩ = some (.int .i64 (l : Int)) ∧ w'.cell? ⟨bv, 0, none⟩ = some (.int .u64 (V : Int)))) (by kernel_rfl) hCd (fun hHeld => ?_)
    refine wpAnyH_take (i := 0) (v := .pointer (some ⟨g, 0, none⟩)) rfl (by kernel_rfl) (by kernel_rfl) (by kernel_rfl) (fun _ _ _ h => h) (Or.inl ⟨by rfl, fun w ⟨s1, s2, s3, s4⟩ => ?_⟩) hHeld ?_
    · go_simp
    simp only [Act.put, List.setIfInBounds_toArray, List.set_cons_zero, List.set_cons_succ]
    refine wpAnyH_take (i := 1) (v := .pointer (some ⟨g, 0, none⟩)) rfl (by kernel_rfl) (by kernel_rfl) (by kernel_rfl) (fun _ _ _ h => h) (Or.inl ⟨by rfl, fun w ⟨s1, s2, s3, s4⟩ => ?_⟩) hHeld ?_
    · go_simp
    simp only [Act.put, List.setIfInBounds_toArray, List.set_cons_zero, List.set_cons_succ]
    refine wpAnyH_take (i := 2) (v := .pointer (some ⟨g, 0, none⟩)) rfl (by kernel_rfl) (by kernel_rfl) (by kernel_rfl) (fun _ _ _ h => h) (Or.inl ⟨by rfl, fun w ⟨s1, s2, s3, s4⟩ => ?_⟩) hHeld ?_
    · go_simp
    simp only [Act.put, List.setIfInBounds_toArray, List.set_cons_zero, List.set_cons_succ]
    refine wpAnyH_take (i := 3) (v := .pointer (some ⟨bm, 0, none⟩)) rfl (by kernel_rfl) (by kernel_rfl) (by kernel_rfl) (fun _ _ _ h => h) (Or.inl ⟨by rfl, fun w ⟨s1, s2, s3, s4⟩ => ?_⟩) hHeld ?_
    · go_simp
    simp only [Act.put, List.setIfInBounds_toArray, List.set_cons_zero, List.set_cons_succ]
    refine wpAnyH_take (i := 4) (v := .int .u64 (va : Int)) rfl (by kernel_rfl) (by kernel_rfl) (by kernel_rfl) (fun _ _ _ h => h) (Or.inl ⟨by rfl, fun w ⟨s1, s2, s3, s4⟩ => ?_⟩) hHeld ?_
    · go_simp
    simp only [Act.put, List.setIfInBounds_toArray, List.set_cons_zero, List.set_cons_succ]
    refine wpAnyH_take (i := 5) (v := .int .i64 (l : Int)) rfl (by kernel_rfl) (by kernel_rfl) (by kernel_rfl) (fun _ _ _ h => h) (Or.inl ⟨by rfl, fun w ⟨s1, s2, s3, s4⟩ => ?_⟩) hHeld ?_
    · go_simp
    simp only [Act.put, List.setIfInBounds_toArray, List.set_cons_zero, List.set_cons_succ]
    refine wpAnyH_take (i := 7) (v := .int .i64 (l : Int)) rfl (by kernel_rfl) (by kernel_rfl) (by kernel_rfl) (fun _ _ _ h => h) (Or.inl ⟨by rfl, fun w ⟨s1, s2, s3, s4⟩ => ?_⟩) hHeld ?_
    · go_simp
    simp only [Act.put, List.setIfInBounds_toArray, List.set_cons_zero, List.set_cons_succ]
    refine wpAnyH_take (i := 9) (v := .int .i64 (l : Int)) rfl (by kernel_rfl) (by kernel_rfl) (by kernel_rfl) (fun _ _ _ h => h) (Or.inl ⟨by rfl, fun w ⟨s1, s2, s3, s4⟩ => ?_⟩) hHeld ?_
    · go_simp
    simp only [Act.put, List.setIfInBounds_toArray, List.set_cons_zero, List.set_cons_succ]
    refine wpAnyH_take (i := 10) (v := .int .u64 (V : Int)) rfl (by kernel_rfl) (by kernel_rfl) (by kernel_rfl) (fun _ _ _ h => h) (Or.inl ⟨by rfl, fun w ⟨s1, s2, s3, s4⟩ => ?_⟩) hHeld ?_
    · go_simp
    simp only [Act.put, List.setIfInBounds_toArray, List.set_cons_zero, List.set_cons_succ]
    refine wpAnyH_ready (rs := [6]) (by kernel_rfl) (by simp) ?_
    refine AllReadyH.cons rfl (fun K hK => ?_) AllReadyH.nil
    go_simp
    refine (hVac.out _ hDD.out.tt.tm).mono ?_
    rintro e w2 ⟨rfl, bel2⟩
    have hB2 : But [pg, pb, b] w w2 := But.undrew (n := 1) (But.of bel2)
    have hS2 := hC.out _ hB2
    have hF2 := W_hid (hDD.out.keep bel2)
    refine hK.out _ _ hS2 (fun hHeld2 => ?_)
    clear hK K
    try simp only [Act.put, List.setIfInBounds_toArray, List.set_cons_zero, List.set_cons_succ]
    refine wpAnyH_ready (rs := [8]) (by kernel_rfl) (by simp) ?_
    refine AllReadyH.cons rfl (fun K hK => ?_) AllReadyH.nil
    go_simp
    refine (hLen.out _ hF2.out.tt).mono ?_
    rintro e w3 ⟨-, rfl, hT3, hB3⟩
    exact ⟨rfl, hB2.trans hB3, ⟨M, hT3, hF0.out.inv, hF0.out.rep, hF0.out.tk⟩, .inr ⟨by decide, rfl⟩⟩
  | done L fr hd hp fs hl2 hts =>
    have hVac := W_hid (fun w h' => vacant_yes g pg r b n va L l fr M F G h.inv h.rep hva hd hp w h')
    have hge := hd.ge
    have hLen := W_hid (fun w h' => (lengthen_any g pg pb n m r b va L l (RX.ent F G L (va / EN.sz (L - 1))) false fr T M F G fs w h' h.inv h.rep (RX.open_of hd hp) h.tk hva hl.1 hge (.inl hl2) hts).mono (fun e w' hh => hh.resolve_right (fun x => by have := x.1; omega)))
    have htk := W_hid (tk_add fs (va := va) (L := L) h.tk)
    generalize RX.ent F G L (va / EN.sz (L - 1)) = E at *
    clear h hd hp hts
    go_enter Tryd.func28, Tryd.ntmps28
    go_region_held3 (fun w' => w'.cell? ⟨bt, 0, none⟩ = some (.pointer (some ⟨g, 0, none⟩)) ∧ w'.cell? ⟨bm, 0, none⟩ = some (.int .u64 (va : Int)) ∧ w'.cell? ⟨bl, 0, none⟩ = some (.int .i64 (l : Int)) ∧ w'.cell? ⟨bv, 0, none⟩ = some (.int .u64 (V : Int)))
      (first | (with_reducible exact hCd) | (with_reducible exact hS2) | (with_reducible exact hS3) | (with_reducible exact hS4))
      (first
        | (go_at_call 30; refine (hVac.out _ hDD.out.tt.tm).mono ?_; rintro e w2 ⟨rfl, bel2⟩; have hB2 : But [pg, pb, b] w w2 := But.undrew (n := 1) (But.of bel2); have hS2 := hC.out _ hB2; have hF2 := W_hid (hDD.out.keep bel2); replace hB2 := W_hid hB2; clear bel2)
        | (go_at_call 29; refine (hLen.out _ hF2.out.tt).mono ?_; rintro e w3 ⟨-, M3, rfl, hT3, hL3, hB3⟩; have hS3 := hC.out _ (hB2.out.trans hB3); have hT3' := W_hid hT3; have hL3' := W_hid hL3; have hB3' := W_hid (hB2.out.trans hB3); clear hT3 hL3 hB3)
        | (go_at_call 21; refine (setw_any g pg r b va l l V (RX.frT fr L fs) E false M3 hva hl.1 (by omega) (RX.Way.lt hL3'.out.inv hL3'.out.opn.toWay l) _ hT3'.out.tm).mono ?_; rintro e w4 ⟨rfl, hM4, t4⟩; have hS4 := hC.out _ (hB3'.out.trans (But.two t4 (by simp) (by simp))); have hM4' := W_hid hM4; have t4' := W_hid t4; clear hM4 t4))
    have hL := hL3'.out
    have hopn := hL.opn
    rw [show L - (L - l) = l by omega] at hopn
    have hmd := map_done hL.inv hL.rep hopn hl hr hva
    rw [← hV.out] at hmd
    have hres := W_hid (show Map1 g pg pb n m r b 0 (RX.addT F va L fs) (RX.updG G l (va / EN.sz (l - 1)) (some (f, p))) (takeAll T fs) w (.returned (.tuple #[])) w4 from
      ⟨hB3'.out.trans (But.two t4'.out (by simp) (by simp)), ⟨_, ⟨hT3'.out.map hM4'.out t4'.out, hmd.1, hmd.2, htk.out⟩⟩, .inl ⟨rfl, rfl⟩⟩)
    go_end0
    exact hres.out
end Go.Proofs.YthiojnbnhagcgaaDoor

/- A list made of pieces: one region more, joined to the last one or behind it (the body of replace's inner loop). -/
import Derived.Test.YtfbhcnamkojboaaRegDo3
import Derived.Test.YtfbhcnamkojboaaRound
namespace Go.Proofs.Ytfbhcnamkojboaa
open Go.ChangeShapes Go.WideShapes Go.ChangeAt Go.RowKit Go.Shelf
open SQ
set_option linter.unusedVariables false
set_option linter.unusedSimpArgs false
attribute [local go_sem] Oper.semAt_some
open RG (Rg)

/-- The body of the first range over a function. -/
def rfBody : Code → Option Code
  | .rangeFunc _ _ _ b => some b
  | .seq a b => (rfBody a).or (rfBody b)
  | .block _ c => rfBody c
  | .loop c => rfBody c
  | .cond _ a b => (rfBody a).or (rfBody b)
  | _ => none
theorem push_len (l : List Rg) : ∀ out : List Rg, (l.foldl RG.push out).length ≤ out.length + l.length := by
  induction l with
  | nil => intro out; simp
  | cons r l ih =>
    intro out
    have h1 : (RG.push out r).length ≤ out.length + 1 := by
      rcases List.eq_nil_or_concat out with rfl | ⟨q, x, rfl⟩
      · simp [RG.push_nil]
      · rw [List.concat_eq_append, RG.push_snoc]
        split <;> simp
    have := ih (RG.push out r)
    simp only [List.foldl_cons, List.length_cons]
    omega
theorem push_take (O X : List Rg) (k : Nat) (x : Rg) (hx : X[k]? = some x) : (X.take (k + 1)).foldl RG.push O = RG.push ((X.take k).foldl RG.push O) x := by
  rw [List.take_add_one, hx]; simp
theorem own_get {V : World} {base n : Nat} {v : Value} {L : List Rg} (h : V.ownsRow base 25 4 v n (rcl L)) (hn : 0 < n) : ∃ g cap, v = .slice (some ⟨g, 0, none⟩) n cap ∧ base ≤ g ∧ n ≤ cap ∧ ∀ j, (hj : j < L.length) → RE V g (j * 4) L[j] := by
  rcases h.2 with ⟨_, h0⟩ | ⟨g, cap, cur, h1, h2, h3, h4, _⟩
  · omega
  · refine ⟨g, cap, h1, h2, h4, fun j hj => ?_⟩
    subst h1
    have hl : L.length = n := by have := h.1; rw [rcl_length] at this; omega
    obtain ⟨b, o, e, _, hc⟩ := (RS_own h).at_ hn
    cases e
    have := hc j (by omega)
    simpa using this
theorem own_fz {V : World} {base n cap g : Nat} {xs : List Value} {v : Value} (h : V.ownsRow base 25 4 v n xs) (hv : v = .slice (some ⟨g, 0, none⟩) n cap) (i : Nat) : V.frozen? ⟨g, i, none⟩ = false := by
  subst hv
  rcases h.2 with ⟨h', _⟩ | ⟨g', cap', cur, h', hb, hg, _⟩
  · simp at h'
  · simp only [Value.slice.injEq, Option.some.injEq, Addr.mk.injEq, and_true, true_and] at h'
    obtain ⟨rfl, rfl⟩ := h'
    simp [World.frozen?, hg]
theorem rcl_set (L' : List Rg) (f' t' t : Nat) (p' s' : Int) (n : Nat) (hn : L'.length = n) : (rcl (L' ++ [(⟨f', t', p', s'⟩ : Rg)])).set (n * 4 + 1) (.int .u64 (t : Int)) = rcl (L' ++ [(⟨f', t, p', s'⟩ : Rg)]) := by
  rw [rcl_append, rcl_append, rcl_single, rcl_single, List.set_append_right _ _ (by rw [rcl_length]; omega), rcl_length, hn, show n * 4 + 1 - n * 4 = 1 by omega]
  rfl
theorem SQ.Kq.then' {m q : Nat} {A B C : World} (h : Kp q A B) (k : Kq m q B C) (hm : A.heap.size ≤ m) : Kp q A C := h.trans (k.low hm)
/-- The round's answer: the region is pushed. -/
def pushPost (m q base : Nat) (L : List Rg) (x : Rg) (V : World) : Exit → Act → World → Prop
  | .normal, _, W' => Kq m q V W' ∧ OutB q base (RG.push L x) W'
  | _, _, _ => False

set_option maxRecDepth 100000 in
set_option maxHeartbeats 8000000 in
theorem rep_body (c : Code) (hcode : Try.f21.body.bind rfBody = some c) (lq m q base bx : Nat) (V : World) (L : List Rg) (f t : Nat) (p s : Int)
    (u0 u1 u2 u3 u4 u5 u6 u7 u8 u10 u11 u13 u14 u15 u16 u17 u18 u19 u20 u21 u22 u23 u24 u25 u26 u27 u28 u29 u30 u32 u33 u34 u35 u36 u37 u38 u39 u40 u41 u42 u43 u44 u45 u46 u47 u48 u49 u50 u51 u52 u53 u54 u55 u56 : Value)
    (hO : OutB q base L V) (hX : RB V bx ⟨f, t, p, s⟩) (hbx : m ≤ bx) (hmV : m ≤ V.heap.size) (hq : q < base) (hlen : L.length ≤ 137438953472) (hbase : base ≤ V.heap.size) :
    c.wpIn (Fence.wide.inRound lq) 0 Try.prog (pushPost m q base L ⟨f, t, p, s⟩ V)
      { tmps := #[u0, u1, u2, u3, u4, u5, u6, u7, u8, .pointer (some ⟨q, 0, none⟩), u10, u11, .pointer (some ⟨bx, 0, none⟩), u13, u14, u15, u16, u17, u18, u19, u20, u21, u22, u23, u24, u25, u26, u27, u28, u29, u30, .agg #[.int .u64 (f : Int), .int .u64 (t : Int), .int .i64 p, .int .i64 s], u32, u33, u34, u35, u36, u37, u38, u39, u40, u41, u42, u43, u44, u45, u46, u47, u48, u49, u50, u51, u52, u53, u54, u55, u56], defers := [] } V := by
  obtain ⟨i0, hi0, hz0, hz1, hz2⟩ := info_parts info_reg
  obtain ⟨v, hv, hrow⟩ := hO
  obtain ⟨x0, x1, x2, x3⟩ := hX.re
  have hc := hv.cell (j := 0) rfl
  have hf := hv.fz 0
  have happ := W_hid (fun (w2 : World) v' h1 h2 h3 => OutB.appended (q := q) (base := base) (n := m) (L := L) (V := V) (w1 := w2) (v := v) (v' := v') (tmp := .cells #[.int .u64 (f : Int), .int .u64 (t : Int), .int .i64 p, .int .i64 s] 25) (r := ⟨f, t, p, s⟩) hv hrow h1 h2 h3 hq hmV)
  have hH := W_hid hrow
  rcases List.eq_nil_or_concat L with rfl | ⟨L', ⟨f', t', p', s'⟩, rfl⟩
  · have hpu : Hid (RG.push [] ⟨f, t, p, s⟩ = [⟨f, t, p, s⟩]) := rfl
    obtain ⟨va, vc, rfl⟩ := Own.form hrow
    simp only [List.length_nil] at hrow hc hH happ
    simp only [Try.f21, rfBody, Option.bind_some, Option.or, Option.some.injEq] at hcode
    subst hcode
    -- REGION 8, EMPTY
    gi_wp2
    refine SQ.region_round (S := (fun w' => w'.cell? ⟨q, 0, none⟩ = some (.slice va 0 vc))) (by kernel_rfl) (by kernel_rfl) (by rintro ⟨_, _, h⟩; exact h) hc (fun hHeld => ?_)
    refine wpAnyH_take (i := 0) (v := .int .i64 (-1)) rfl (by kernel_rfl) (by kernel_rfl) (by kernel_rfl) (fun _ _ _ h => h) (Or.inl ⟨by rfl, fun w0 s1 => ?_⟩) hHeld ?_
    · go_simp
    try simp only [Act.put, List.setIfInBounds_toArray, List.set_cons_zero, List.set_cons_succ, List.getElem_toArray, List.getElem_cons_zero, List.getElem_cons_succ]
    refine wpAnyH_take (i := 1) (v := .bool false) rfl (by kernel_rfl) (by kernel_rfl) (by kernel_rfl) (fun _ _ _ h => h) (Or.inl ⟨by rfl, fun w0 s1 => ?_⟩) hHeld ?_
    · go_simp
    try simp only [Act.put, List.setIfInBounds_toArray, List.set_cons_zero, List.set_cons_succ, List.getElem_toArray, List.getElem_cons_zero, List.getElem_cons_succ]
    refine wpAnyH_take (i := 2) (v := .bool false) rfl (by kernel_rfl) (by kernel_rfl) (by kernel_rfl) (fun _ _ _ h => h) (Or.inl ⟨by rfl, fun w0 s1 => ?_⟩) hHeld ?_
    · go_simp
    try simp only [Act.put, List.setIfInBounds_toArray, List.set_cons_zero, List.set_cons_succ, List.getElem_toArray, List.getElem_cons_zero, List.getElem_cons_succ]
    refine wpAnyH_take (i := 3) (v := undef) rfl (by kernel_rfl) (by kernel_rfl) (by kernel_rfl) (fun _ _ _ h => h) (Or.inr ⟨by rfl, rfl⟩) hHeld ?_
    try simp only [Act.put, List.setIfInBounds_toArray, List.set_cons_zero, List.set_cons_succ, List.getElem_toArray, List.getElem_cons_zero, List.getElem_cons_succ]
    refine wpAnyH_take (i := 4) (v := undef) rfl (by kernel_rfl) (by kernel_rfl) (by kernel_rfl) (fun _ _ _ h => h) (Or.inr ⟨by rfl, rfl⟩) hHeld ?_
    try simp only [Act.put, List.setIfInBounds_toArray, List.set_cons_zero, List.set_cons_succ, List.getElem_toArray, List.getElem_cons_zero, List.getElem_cons_succ]
    refine wpAnyH_take (i := 5) (v := undef) rfl (by kernel_rfl) (by kernel_rfl) (by kernel_rfl) (fun _ _ _ h => h) (Or.inr ⟨by rfl, rfl⟩) hHeld ?_
    try simp only [Act.put, List.setIfInBounds_toArray, List.set_cons_zero, List.set_cons_succ, List.getElem_toArray, List.getElem_cons_zero, List.getElem_cons_succ]
    refine wpAnyH_take (i := 6) (v := undef) rfl (by kernel_rfl) (by kernel_rfl) (by kernel_rfl) (fun _ _ _ h => h) (Or.inr ⟨by rfl, rfl⟩) hHeld ?_
    try simp only [Act.put, List.setIfInBounds_toArray, List.set_cons_zero, List.set_cons_succ, List.getElem_toArray, List.getElem_cons_zero, List.getElem_cons_succ]
    refine wpAnyH_take (i := 7) (v := undef) rfl (by kernel_rfl) (by kernel_rfl) (by kernel_rfl) (fun _ _ _ h => h) (Or.inr ⟨by rfl, rfl⟩) hHeld ?_
    try simp only [Act.put, List.setIfInBounds_toArray, List.set_cons_zero, List.set_cons_succ, List.getElem_toArray, List.getElem_cons_zero, List.getElem_cons_succ]
    refine wpAnyH_take (i := 8) (v := undef) rfl (by kernel_rfl) (by kernel_rfl) (by kernel_rfl) (fun _ _ _ h => h) (Or.inr ⟨by rfl, rfl⟩) hHeld ?_
    try simp only [Act.put, List.setIfInBounds_toArray, List.set_cons_zero, List.set_cons_succ, List.getElem_toArray, List.getElem_cons_zero, List.getElem_cons_succ]
    refine wpAnyH_take (i := 9) (v := .bool false) rfl (by kernel_rfl) (by kernel_rfl) (by kernel_rfl) (fun _ _ _ h => h) (Or.inl ⟨by rfl, fun w0 s1 => ?_⟩) hHeld ?_
    · go_simp
    try simp only [Act.put, List.setIfInBounds_toArray, List.set_cons_zero, List.set_cons_succ, List.getElem_toArray, List.getElem_cons_zero, List.getElem_cons_succ]
    refine wpAnyH_done (by kernel_rfl) ?_ _
    gi_wp2_with (first | (gi_at_builtin; apply Hid.out) | gi_in)
    refine W_hid ?_
    refine wpListIn_append_own_at _ rfl (.tmp 51) (.tmp 53) 22 rfl base 25 i0 (.agg #[.int .u64 0, .int .u64 0, .int .i64 0, .int .i64 0]) 4 32 Try.underlying22 hi0 hz0 hz1 hz2 rfl (by decide) _ 0 (rcl []) rfl (hrow.alloc _) ⟨V.heap.size, 0, none⟩ 1 1 (rv ⟨f, t, p, s⟩) rfl rfl (four_new _ _ _ _ _ _ _) (by intro u hu; simp only [rv, List.mem_cons, List.not_mem_nil, or_false] at hu; rcases hu with rfl | rfl | rfl | rfl <;> rfl) (by unfold maxLen; omega) (by omega) (by simp; omega) ?_
    intro v' w3 hown' hgrow _ hat
    obtain ⟨hO3, hK3, hv3⟩ := happ.out w3 v' hown' (by first | exact hgrow | exact Own.undrew hgrow) hat
    obtain ⟨va2, vc2, rfl⟩ := Own.form hown'
    have hc3 := hv3.cell (j := 0) rfl
    have hf3 := hv3.fz 0
    gi_wp2
    exact ⟨hK3, by rw [hpu.out]; exact hO3⟩
  · rw [List.concat_eq_append] at *
    obtain ⟨n, hn⟩ : ∃ n, L'.length = n := ⟨_, rfl⟩
    have hlen1 : (L' ++ [(⟨f', t', p', s'⟩ : Rg)]).length = n + 1 := by simp [hn]
    have hn63 : n ≤ 137438953472 := by omega
    rw [hlen1] at hrow
    obtain ⟨g, cap, rfl, hg, hcap, hE⟩ := own_get hrow (by omega)
    have hY := hE n (by omega)
    have hget : (L' ++ [(⟨f', t', p', s'⟩ : Rg)])[n]'(by omega) = ⟨f', t', p', s'⟩ := by
      subst hn; simp
    rw [hget] at hY
    have hY := W_hid hY
    obtain ⟨y0, y1, y2, y3⟩ := hY.out
    have hpu := W_hid (RG.push_snoc L' ⟨f', t', p', s'⟩ ⟨f, t, p, s⟩)
    have hJ := W_hid (fun w => joins_any f' t' p' s' f t p s w)
    have hrw := W_hid hrow
    have hgfz : ∀ i, V.frozen? ⟨g, i, none⟩ = false := fun i => (own_fz hrw.out rfl i)
    have n2 : ((n : Int) + 1 - 1) = n := by omega
    have hgq : Hid (g ≠ q) := by show _ ≠ _; omega
    have hwn : IntKind.i64.wrap (n : Int) = (n : Int) := by simp [IntKind.wrap, IntKind.signed, IntKind.bits]; omega
    simp only [Try.f21, rfBody, Option.bind_some, Option.or, Option.some.injEq] at hcode
    by_cases hj : RG.joins ⟨f', t', p', s'⟩ ⟨f, t, p, s⟩
    · rw [decide_eq_true hj] at hJ
      rw [if_pos hj] at hpu
      clear hj hE hget happ hlen1 hH
      subst hcode
      gi_wp2
      refine SQ.region_round (S := (fun w' => w'.cell? ⟨q, 0, none⟩ = some (.slice (some ⟨g, 0, none⟩) (n + 1) cap) ∧ w'.cell? ⟨bx, 0, none⟩ = some (.int .u64 (f : Int)) ∧ w'.cell? ⟨bx, 0 + 1, none⟩ = some (.int .u64 (t : Int)) ∧ w'.cell? ⟨bx, 0 + 2, none⟩ = some (.int .i64 p) ∧ w'.cell? ⟨bx, 0 + 3, none⟩ = some (.int .i64 s) ∧ w'.cell? ⟨g, n * 4, none⟩ = some (.int .u64 (f' : Int)) ∧ w'.cell? ⟨g, n * 4 + 1, none⟩ = some (.int .u64 (t' : Int)) ∧ w'.cell? ⟨g, n * 4 + 2, none⟩ = some (.int .i64 p') ∧ w'.cell? ⟨g, n * 4 + 3, none⟩ = some (.int .i64 s'))) (by kernel_rfl) (by kernel_rfl) (by rintro ⟨_, _, h⟩; exact h) ⟨hc, x0, x1, x2, x3, y0, y1, y2, y3⟩ (fun hHeld => ?_)
      refine wpAnyH_take (i := 0) (v := .int .i64 (n : Int)) rfl (by kernel_rfl) (by kernel_rfl) (by kernel_rfl) (fun _ _ _ h => h) (Or.inl ⟨by rfl, fun w0 ⟨s1, s2, s3, s4, s5, s6, s7, s8, s9⟩ => ?_⟩) hHeld ?_
      · go_simp
      try simp only [Act.put, List.setIfInBounds_toArray, List.set_cons_zero, List.set_cons_succ, List.getElem_toArray, List.getElem_cons_zero, List.getElem_cons_succ]
      refine wpAnyH_take (i := 1) (v := .bool true) rfl (by kernel_rfl) (by kernel_rfl) (by kernel_rfl) (fun _ _ _ h => h) (Or.inl ⟨by rfl, fun w0 ⟨s1, s2, s3, s4, s5, s6, s7, s8, s9⟩ => ?_⟩) hHeld ?_
      · go_simp
      try simp only [Act.put, List.setIfInBounds_toArray, List.set_cons_zero, List.set_cons_succ, List.getElem_toArray, List.getElem_cons_zero, List.getElem_cons_succ]
      refine wpAnyH_take (i := 2) (v := .bool true) rfl (by kernel_rfl) (by kernel_rfl) (by kernel_rfl) (fun _ _ _ h => h) (Or.inl ⟨by rfl, fun w0 ⟨s1, s2, s3, s4, s5, s6, s7, s8, s9⟩ => ?_⟩) hHeld ?_
      · go_simp
      try simp only [Act.put, List.setIfInBounds_toArray, List.set_cons_zero, List.set_cons_succ, List.getElem_toArray, List.getElem_cons_zero, List.getElem_cons_succ]
      refine wpAnyH_take (i := 3) (v := .slice (some ⟨g, 0, none⟩) (n + 1) cap) rfl (by kernel_rfl) (by kernel_rfl) (by kernel_rfl) (fun _ _ _ h => h) (Or.inl ⟨by rfl, fun w0 ⟨s1, s2, s3, s4, s5, s6, s7, s8, s9⟩ => ?_⟩) hHeld ?_
      · go_simp
      try simp only [Act.put, List.setIfInBounds_toArray, List.set_cons_zero, List.set_cons_succ, List.getElem_toArray, List.getElem_cons_zero, List.getElem_cons_succ]
      refine wpAnyH_take (i := 4) (v := .int .i64 (n : Int)) rfl (by kernel_rfl) (by kernel_rfl) (by kernel_rfl) (fun _ _ _ h => h) (Or.inl ⟨by rfl, fun w0 ⟨s1, s2, s3, s4, s5, s6, s7, s8, s9⟩ => ?_⟩) hHeld ?_
      · go_simp
      try simp only [Act.put, List.setIfInBounds_toArray, List.set_cons_zero, List.set_cons_succ, List.getElem_toArray, List.getElem_cons_zero, List.getElem_cons_succ]
      refine wpAnyH_take (i := 5) (v := .pointer (some ⟨g, n * 4, none⟩)) rfl (by kernel_rfl) (by kernel_rfl) (by kernel_rfl) (fun _ _ _ h => h) (Or.inl ⟨by rfl, fun w0 ⟨s1, s2, s3, s4, s5, s6, s7, s8, s9⟩ => ?_⟩) hHeld ?_
      · (go_simp; intro h9; omega)
      try simp only [Act.put, List.setIfInBounds_toArray, List.set_cons_zero, List.set_cons_succ, List.getElem_toArray, List.getElem_cons_zero, List.getElem_cons_succ]
      refine wpAnyH_take (i := 6) (v := (.agg #[.int .u64 (f' : Int), .int .u64 (t' : Int), .int .i64 p', .int .i64 s'])) rfl (by kernel_rfl) (by kernel_rfl) (by kernel_rfl) (fun _ _ _ h => h) (Or.inl ⟨by rfl, fun w0 ⟨s1, s2, s3, s4, s5, s6, s7, s8, s9⟩ => ?_⟩) hHeld ?_
      · go_simp
      try simp only [Act.put, List.setIfInBounds_toArray, List.set_cons_zero, List.set_cons_succ, List.getElem_toArray, List.getElem_cons_zero, List.getElem_cons_succ]
      refine wpAnyH_take (i := 7) (v := .agg #[.int .u64 (f : Int), .int .u64 (t : Int), .int .i64 p, .int .i64 s]) rfl (by kernel_rfl) (by kernel_rfl) (by kernel_rfl) (fun _ _ _ h => h) (Or.inl ⟨by rfl, fun w0 ⟨s1, s2, s3, s4, s5, s6, s7, s8, s9⟩ => ?_⟩) hHeld ?_
      · go_simp
      try simp only [Act.put, List.setIfInBounds_toArray, List.set_cons_zero, List.set_cons_succ, List.getElem_toArray, List.getElem_cons_zero, List.getElem_cons_succ]
      refine wpAnyH_ready (rs := [8]) (by kernel_rfl) (by simp) ?_
      refine AllReadyH.cons rfl (fun K hK => ?_) AllReadyH.nil
      go_simp
      refine (hJ.out _).mono ?_
      rintro e w2 ⟨rfl, bel2⟩
      replace bel2 := Own.bundrew bel2
      have hX2 : RB w2 bx ⟨f, t, p, s⟩ := hX.keep bel2
      have hv2 := W_hid (hv.keep bel2)
      have hrow2 := W_hid (Own.below hrow bel2)
      have hk2 : Hid (Kq m q V w2) := (Kq.refl q hmV).below bel2 hv.lt
      have hs2 := bel2.size
      obtain ⟨x0', x1', x2', x3'⟩ := RB.re hX2
      have hc' := hv2.out.cell (j := 0) rfl
      have hf' := hv2.out.fz 0
      have hgz2 := own_fz hrow2.out rfl (n * 4 + 1)
      obtain ⟨y0', y1', y2', y3'⟩ := hY.out.keep bel2
      refine hK.out _ _ ⟨hc', x0', x1', x2', x3', y0', y1', y2', y3'⟩ (fun hHeld1 => ?_)
      clear hK K
      try simp only [Act.put, List.setIfInBounds_toArray, List.set_cons_zero, List.set_cons_succ, List.getElem_toArray, List.getElem_cons_zero, List.getElem_cons_succ]
      refine wpAnyH_take (i := 9) (v := .bool true) rfl (by kernel_rfl) (by kernel_rfl) (by kernel_rfl) (fun _ _ _ h => h) (Or.inl ⟨by rfl, fun w0 ⟨s1, s2, s3, s4, s5, s6, s7, s8, s9⟩ => ?_⟩) hHeld1 ?_
      · go_simp
      try simp only [Act.put, List.setIfInBounds_toArray, List.set_cons_zero, List.set_cons_succ, List.getElem_toArray, List.getElem_cons_zero, List.getElem_cons_succ]
      refine wpAnyH_done (by kernel_rfl) ?_ _
      have hO3 := W_hid (show OutB q base (L' ++ [(⟨f', t, p', s'⟩ : Rg)]) (w2.setCell ⟨g, n * 4 + 1, none⟩ (.int .u64 (t : Int))) from
        ⟨.slice (some ⟨g, 0, none⟩) (n + 1) cap, hv2.out.far (by show q ≠ g; exact fun e => hgq.out e.symm) _, by
          have h1 := (hrow2.out.stored (n * 4 + 1) (.int .u64 (t : Int))).1
          rw [rcl_set L' _ _ _ _ _ n hn] at h1
          rw [show (L' ++ [(⟨f', t, p', s'⟩ : Rg)]).length = n + 1 by simp [hn]]
          exact h1⟩)
      have hK3 := W_hid (hk2.out.setr (p := ⟨g, n * 4 + 1, none⟩) (.inl (rowOf_blk hv)) (fun e => hgq.out e.symm) (.int .u64 (t : Int)))
      clear hn
      gi_wp2
      exact ⟨hK3.out, by rw [hpu.out]; exact hO3.out⟩
    · rw [decide_eq_false hj] at hJ
      rw [if_neg hj] at hpu
      clear hj hE hget hlen1 hH happ
      subst hcode
      gi_wp2
      refine SQ.region_round (S := (fun w' => w'.cell? ⟨q, 0, none⟩ = some (.slice (some ⟨g, 0, none⟩) (n + 1) cap) ∧ w'.cell? ⟨bx, 0, none⟩ = some (.int .u64 (f : Int)) ∧ w'.cell? ⟨bx, 0 + 1, none⟩ = some (.int .u64 (t : Int)) ∧ w'.cell? ⟨bx, 0 + 2, none⟩ = some (.int .i64 p) ∧ w'.cell? ⟨bx, 0 + 3, none⟩ = some (.int .i64 s) ∧ w'.cell? ⟨g, n * 4, none⟩ = some (.int .u64 (f' : Int)) ∧ w'.cell? ⟨g, n * 4 + 1, none⟩ = some (.int .u64 (t' : Int)) ∧ w'.cell? ⟨g, n * 4 + 2, none⟩ = some (.int .i64 p') ∧ w'.cell? ⟨g, n * 4 + 3, none⟩ = some (.int .i64 s'))) (by kernel_rfl) (by kernel_rfl) (by rintro ⟨_, _, h⟩; exact h) ⟨hc, x0, x1, x2, x3, y0, y1, y2, y3⟩ (fun hHeld => ?_)
      refine wpAnyH_take (i := 0) (v := .int .i64 (n : Int)) rfl (by kernel_rfl) (by kernel_rfl) (by kernel_rfl) (fun _ _ _ h => h) (Or.inl ⟨by rfl, fun w0 ⟨s1, s2, s3, s4, s5, s6, s7, s8, s9⟩ => ?_⟩) hHeld ?_
      · go_simp
      try simp only [Act.put, List.setIfInBounds_toArray, List.set_cons_zero, List.set_cons_succ, List.getElem_toArray, List.getElem_cons_zero, List.getElem_cons_succ]
      refine wpAnyH_take (i := 1) (v := .bool true) rfl (by kernel_rfl) (by kernel_rfl) (by kernel_rfl) (fun _ _ _ h => h) (Or.inl ⟨by rfl, fun w0 ⟨s1, s2, s3, s4, s5, s6, s7, s8, s9⟩ => ?_⟩) hHeld ?_
      · go_simp
      try simp only [Act.put, List.setIfInBounds_toArray, List.set_cons_zero, List.set_cons_succ, List.getElem_toArray, List.getElem_cons_zero, List.getElem_cons_succ]
      refine wpAnyH_take (i := 2) (v := .bool true) rfl (by kernel_rfl) (by kernel_rfl) (by kernel_rfl) (fun _ _ _ h => h) (Or.inl ⟨by rfl, fun w0 ⟨s1, s2, s3, s4, s5, s6, s7, s8, s9⟩ => ?_⟩) hHeld ?_
      · go_simp
      try simp only [Act.put, List.setIfInBounds_toArray, List.set_cons_zero, List.set_cons_succ, List.getElem_toArray, List.getElem_cons_zero, List.getElem_cons_succ]
      refine wpAnyH_take (i := 3) (v := .slice (some ⟨g, 0, none⟩) (n + 1) cap) rfl (by kernel_rfl) (by kernel_rfl) (by kernel_rfl) (fun _ _ _ h => h) (Or.inl ⟨by rfl, fun w0 ⟨s1, s2, s3, s4, s5, s6, s7, s8, s9⟩ => ?_⟩) hHeld ?_
      · go_simp
      try simp only [Act.put, List.setIfInBounds_toArray, List.set_cons_zero, List.set_cons_succ, List.getElem_toArray, List.getElem_cons_zero, List.getElem_cons_succ]
      refine wpAnyH_take (i := 4) (v := .int .i64 (n : Int)) rfl (by kernel_rfl) (by kernel_rfl) (by kernel_rfl) (fun _ _ _ h => h) (Or.inl ⟨by rfl, fun w0 ⟨s1, s2, s3, s4, s5, s6, s7, s8, s9⟩ => ?_⟩) hHeld ?_
      · go_simp
      try simp only [Act.put, List.setIfInBounds_toArray, List.set_cons_zero, List.set_cons_succ, List.getElem_toArray, List.getElem_cons_zero, List.getElem_cons_succ]
      refine wpAnyH_take (i := 5) (v := .pointer (some ⟨g, n * 4, none⟩)) rfl (by kernel_rfl) (by kernel_rfl) (by kernel_rfl) (fun _ _ _ h => h) (Or.inl ⟨by rfl, fun w0 ⟨s1, s2, s3, s4, s5, s6, s7, s8, s9⟩ => ?_⟩) hHeld ?_
      · (go_simp; intro h9; omega)
      try simp only [Act.put, List.setIfInBounds_toArray, List.set_cons_zero, List.set_cons_succ, List.getElem_toArray, List.getElem_cons_zero, List.getElem_cons_succ]
      refine wpAnyH_take (i := 6) (v := (.agg #[.int .u64 (f' : Int), .int .u64 (t' : Int), .int .i64 p', .int .i64 s'])) rfl (by kernel_rfl) (by kernel_rfl) (by kernel_rfl) (fun _ _ _ h => h) (Or.inl ⟨by rfl, fun w0 ⟨s1, s2, s3, s4, s5, s6, s7, s8, s9⟩ => ?_⟩) hHeld ?_
      · go_simp
      try simp only [Act.put, List.setIfInBounds_toArray, List.set_cons_zero, List.set_cons_succ, List.getElem_toArray, List.getElem_cons_zero, List.getElem_cons_succ]
      refine wpAnyH_take (i := 7) (v := .agg #[.int .u64 (f : Int), .int .u64 (t : Int), .int .i64 p, .int .i64 s]) rfl (by kernel_rfl) (by kernel_rfl) (by kernel_rfl) (fun _ _ _ h => h) (Or.inl ⟨by rfl, fun w0 ⟨s1, s2, s3, s4, s5, s6, s7, s8, s9⟩ => ?_⟩) hHeld ?_
      · go_simp
      try simp only [Act.put, List.setIfInBounds_toArray, List.set_cons_zero, List.set_cons_succ, List.getElem_toArray, List.getElem_cons_zero, List.getElem_cons_succ]
      refine wpAnyH_ready (rs := [8]) (by kernel_rfl) (by simp) ?_
      refine AllReadyH.cons rfl (fun K hK => ?_) AllReadyH.nil
      go_simp
      refine (hJ.out _).mono ?_
      rintro e w2 ⟨rfl, bel2⟩
      replace bel2 := Own.bundrew bel2
      have hX2 : RB w2 bx ⟨f, t, p, s⟩ := hX.keep bel2
      have hv2 := W_hid (hv.keep bel2)
      have hrow2 := W_hid (Own.below hrow bel2)
      have hk2 : Hid (Kq m q V w2) := (Kq.refl q hmV).below bel2 hv.lt
      have hs2 := bel2.size
      obtain ⟨x0', x1', x2', x3'⟩ := RB.re hX2
      have hc' := hv2.out.cell (j := 0) rfl
      have hf' := hv2.out.fz 0
      have hgz2 := own_fz hrow2.out rfl (n * 4 + 1)
      obtain ⟨y0', y1', y2', y3'⟩ := hY.out.keep bel2
      refine hK.out _ _ ⟨hc', x0', x1', x2', x3', y0', y1', y2', y3'⟩ (fun hHeld1 => ?_)
      clear hK K
      try simp only [Act.put, List.setIfInBounds_toArray, List.set_cons_zero, List.set_cons_succ, List.getElem_toArray, List.getElem_cons_zero, List.getElem_cons_succ]
      refine wpAnyH_take (i := 9) (v := .bool false) rfl (by kernel_rfl) (by kernel_rfl) (by kernel_rfl) (fun _ _ _ h => h) (Or.inl ⟨by rfl, fun w0 ⟨s1, s2, s3, s4, s5, s6, s7, s8, s9⟩ => ?_⟩) hHeld1 ?_
      · go_simp
      try simp only [Act.put, List.setIfInBounds_toArray, List.set_cons_zero, List.set_cons_succ, List.getElem_toArray, List.getElem_cons_zero, List.getElem_cons_succ]
      refine wpAnyH_done (by kernel_rfl) ?_ _
      have happ := W_hid (fun (w4 : World) v' h1 h2 h3 => OutB.appended (q := q) (base := base) (n := w2.heap.size) (L := L' ++ [(⟨f', t', p', s'⟩ : Rg)]) (V := w2) (w1 := w4) (v := .slice (some ⟨g, 0, none⟩) (n + 1) cap) (v' := v') (tmp := .cells #[.int .u64 (f : Int), .int .u64 (t : Int), .int .i64 p, .int .i64 s] 25) (r := ⟨f, t, p, s⟩) hv2.out (by rw [List.length_append, hn]; exact hrow2.out) h1 h2 h3 hq (Nat.le_refl _))
      have hle : (L' ++ [(⟨f', t', p', s'⟩ : Rg)]).length = n + 1 := by simp [hn]
      rw [hle] at happ
      have hrow3 := hrow2.out
      clear hle hn
      gi_wp2_with (first | (gi_at_builtin; apply Hid.out) | gi_in)
      refine W_hid ?_
      refine wpListIn_append_own_at _ rfl (.tmp 51) (.tmp 53) 22 rfl base 25 i0 (.agg #[.int .u64 0, .int .u64 0, .int .i64 0, .int .i64 0]) 4 32 Try.underlying22 hi0 hz0 hz1 hz2 rfl (by decide) _ (n + 1) (rcl (L' ++ [(⟨f', t', p', s'⟩ : Rg)])) rfl (hrow3.alloc _) ⟨w2.heap.size, 0, none⟩ 1 1 (rv ⟨f, t, p, s⟩) rfl rfl (four_new _ _ _ _ _ _ _) (by intro u hu; simp only [rv, List.mem_cons, List.not_mem_nil, or_false] at hu; rcases hu with rfl | rfl | rfl | rfl <;> rfl) (by unfold maxLen; omega) (by omega) (by simp; omega) ?_
      intro v' w3 hown' hgrow _ hat
      obtain ⟨hO3, hK3, hv3⟩ := happ.out w3 v' hown' (by first | exact hgrow | exact Own.undrew hgrow) hat
      obtain ⟨va2, vc2, rfl⟩ := Own.form hown'
      have hc3 := hv3.cell (j := 0) rfl
      have hf3 := hv3.fz 0
      gi_wp2
      exact ⟨hk2.out.then hK3, by rw [hpu.out]; exact hO3⟩

/-- The activation in a round of replace's inner loop. -/
def RepAct (q bx : Nat) (x : Rg) (a : Act) : Prop := ∃ u0 u1 u2 u3 u4 u5 u6 u7 u8 u10 u11 u13 u14 u15 u16 u17 u18 u19 u20 u21 u22 u23 u24 u25 u26 u27 u28 u29 u30 u32 u33 u34 u35 u36 u37 u38 u39 u40 u41 u42 u43 u44 u45 u46 u47 u48 u49 u50 u51 u52 u53 u54 u55 u56 : Value, a = { tmps := #[u0, u1, u2, u3, u4, u5, u6, u7, u8, .pointer (some ⟨q, 0, none⟩), u10, u11, .pointer (some ⟨bx, 0, none⟩), u13, u14, u15, u16, u17, u18, u19, u20, u21, u22, u23, u24, u25, u26, u27, u28, u29, u30, ra x, u32, u33, u34, u35, u36, u37, u38, u39, u40, u41, u42, u43, u44, u45, u46, u47, u48, u49, u50, u51, u52, u53, u54, u55, u56], defers := [] }
theorem rep_round (c : Code) (hcode : Try.f21.body.bind rfBody = some c) (lq m q base bx : Nat) (V : World) (L : List Rg) (x : Rg) (a : Act) (ha : RepAct q bx x a)
    (hO : OutB q base L V) (hX : RB V bx x) (hbx : m ≤ bx) (hmV : m ≤ V.heap.size) (hq : q < base) (hlen : L.length ≤ 137438953472) (hbase : base ≤ V.heap.size) :
    c.wpIn (Fence.wide.inRound lq) 0 Try.prog (pushPost m q base L x V) a V := by
  obtain ⟨u0, u1, u2, u3, u4, u5, u6, u7, u8, u10, u11, u13, u14, u15, u16, u17, u18, u19, u20, u21, u22, u23, u24, u25, u26, u27, u28, u29, u30, u32, u33, u34, u35, u36, u37, u38, u39, u40, u41, u42, u43, u44, u45, u46, u47, u48, u49, u50, u51, u52, u53, u54, u55, u56, rfl⟩ := ha
  obtain ⟨f, t, p, s⟩ := x
  exact rep_body c hcode lq m q base bx V L f t p s _ _ _ _ _ _ _ _ _ _ _ _ _ _ _ _ _ _ _ _ _ _ _ _ _ _ _ _ _ _ _ _ _ _ _ _ _ _ _ _ _ _ _ _ _ _ _ _ _ _ _ _ _ _ hO hX hbx hmV hq hlen hbase
end Go.Proofs.Ytfbhcnamkojboaa

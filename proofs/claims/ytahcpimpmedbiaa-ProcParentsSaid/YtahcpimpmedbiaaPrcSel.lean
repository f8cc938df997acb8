/- Contracts of package proc: selected, at children's closure and at All's. -/
import Derived.Test.YtahcpimpmedbiaaPrcSort
import Derived.Test.YtahcpimpmedbiaaPrcOps
import Derived.WalkKit
import Derived.Maps.RangeWalk
import Derived.Maps.AppendAt
namespace Go.Proofs.Ytahcpimpmedbiaa
open Go.ChangeShapes Go.WideShapes Go.ChangeAt Go.RowKit Go.Maps
set_option linter.unusedVariables false
set_option linter.unusedSimpArgs false
set_option maxRecDepth 100000
namespace PC
open IS (ptr PR pd PR_ptr PR_inv key key_of key_ne isKey keyed_int I64 i64_nat Nums nodup_sub nodup_le own_tight own_nums und_int upd wf_bounds)
open IN (Keeps lt_of_some)

theorem info_ptr : Own.Info Try.prog 62 (.pointer none) 1 8 := Own.info_of (by kernel_rfl) rfl (by decide)
theorem und_ptrs : Try.prog.underlying 60 = some (.slice 62) := by kernel_rfl
/-- What has come: no number twice; those that are there and no longer to come. -/
structure PCome (D : DataW Unit) (left : Lit → Bool) (ss : List Int) : Prop where
  once : ss.Nodup
  iff : ∀ f, f ∈ ss ↔ I64 f ∧ Maps.has D (key f) = true ∧ left (key f) = false
theorem PCome.start (D : DataW Unit) : PCome D (Maps.has D) [] :=
  ⟨List.nodup_nil, fun f => by cases Maps.has D (key f) <;> simp⟩
theorem PCome.step {D : DataW Unit} {left : Lit → Bool} {ss : List Int} (h : PCome D left ss) {x : Int} (hx : I64 x) (hlk : left (key x) = true) (hhas : Maps.has D (key x) = true) :
    PCome D (fun z => left z && !z.sameKey (key x)) (ss ++ [x]) := by
  have hnew : x ∉ ss := fun hm => by have := ((h.iff x).1 hm).2.2; rw [hlk] at this; cases this
  refine ⟨List.nodup_append.2 ⟨h.once, by simp, fun a ha b hb => by simp at hb; subst hb; exact fun e => hnew (e ▸ ha)⟩, fun f => ?_⟩
  rw [List.mem_append, List.mem_singleton, h.iff f]
  by_cases e : f = x
  · subst e
    have : (key f).sameKey (key f) = true := WideAt.sameKey_self (isKey f hx)
    simp [hhas, this, hx]
  · have : (key f).sameKey (key x) = false := by
      simp only [key, Lit.sameKey]
      simp
      exact e
    simp [e, this]
theorem PR_shape (v : Value) (y : DataW Unit × List MemPlace) (h : PR v = some y) : ∃ c, v = ptr c := by
  unfold PR at h
  split at h
  · exact ⟨none, rfl⟩
  · rename_i g
    exact ⟨some g, rfl⟩
  · cases h
theorem pd_inj {a b : Option Nat} (h : pd a = pd b) : a = b := by
  cases a <;> cases b <;> simp [pd] at h ⊢
  omega
/-- Rising lists of the same numbers are one. -/
theorem rise_unique : ∀ (a b : List Int), a.Pairwise (· < ·) → b.Pairwise (· < ·) → (∀ x, x ∈ a ↔ x ∈ b) → a = b
  | [], [], _, _, _ => rfl
  | [], y :: b, _, _, h => absurd ((h y).2 List.mem_cons_self) (by simp)
  | x :: a, [], _, _, h => absurd ((h x).1 List.mem_cons_self) (by simp)
  | x :: a, y :: b, ha, hb, h => by
    have ha' := List.pairwise_cons.1 ha
    have hb' := List.pairwise_cons.1 hb
    have e : x = y := by
      have h1 := List.mem_cons.1 ((h x).1 List.mem_cons_self)
      have h2 := List.mem_cons.1 ((h y).2 List.mem_cons_self)
      rcases h1 with h1 | h1
      · exact h1
      · rcases h2 with h2 | h2
        · exact h2.symm
        · have := ha'.1 y h2
          have := hb'.1 x h1
          omega
    subst e
    rw [rise_unique a b ha'.2 hb'.2 fun z => ?_]
    constructor
    · intro hz
      rcases List.mem_cons.1 ((h z).1 (List.mem_cons_of_mem _ hz)) with e | e
      · subst e; exact absurd (ha'.1 z hz) (by omega)
      · exact e
    · intro hz
      rcases List.mem_cons.1 ((h z).2 (List.mem_cons_of_mem _ hz)) with e | e
      · subst e; exact absurd (hb'.1 z hz) (by omega)
      · exact e
theorem rng_drew {P : Program} {k : TypeId} {R : Value → Option (DataW Unit × List MemPlace)} {w : World} {b r n : Nat} {D : DataW Unit} {left : Lit → Bool} {cnt : Nat} (h : w.ranges P k R b r n D left cnt) (q : Nat) : (w.drewN q).ranges P k R b r n D left cnt :=
  h.kept (row := none) ⟨rfl, rfl, rfl, Nat.le_refl _, fun _ _ _ => rfl⟩ (by simp) (by simp)
theorem bel_drew {B : Nat} {w w' : World} (h : Below B w w') (q : Nat) : Below B w (w'.drewN q) := ⟨h.os, h.tape, h.output, h.size, h.block⟩
theorem own_drew {w : World} {base e size n : Nat} {v : Value} {xs : List Value} (h : w.ownsRow base e size v n xs) (q : Nat) : (w.drewN q).ownsRow base e size v n xs := h
/-- Which numbers are wanted. -/
def fS (L : List Pr) (f : Pr → Bool) (p : Int) : Bool := match get L p with | some x => f x | none => false
theorem sel_eq {L : List Pr} (ha : Asc L) {f : Pr → Bool} {M : Int → Option Nat} {ss qs : List Int} (hs : ∀ p, p ∈ ss ↔ M p ≠ none) (hd : ∀ p, M p = none ↔ get L p = none) (hp : qs.Perm (ss.filter (fS L f))) (hr : qs.Pairwise (· < ·)) :
    qs = (L.filter f).map fun x => x.pid := by
  refine rise_unique _ _ hr ?_ fun p => ?_
  · rw [List.pairwise_map]
    exact (ha.filter f)
  · rw [hp.mem_iff, List.mem_filter, hs, List.mem_map]
    constructor
    · rintro ⟨h1, h2⟩
      unfold fS at h2
      cases e : get L p with
      | none => rw [e] at h2; cases h2
      | some x =>
        rw [e] at h2
        obtain ⟨h3, h4⟩ := get_some e
        exact ⟨x, List.mem_filter.2 ⟨h3, h2⟩, h4⟩
    · rintro ⟨x, hx, rfl⟩
      obtain ⟨h3, h4⟩ := List.mem_filter.1 hx
      have := asc_get ha h3
      refine ⟨?_, ?_⟩
      · rw [Ne, hd, this]; simp
      · unfold fS; rw [this]; exact h4
theorem fS_len {ss : List Int} {L : List Pr} {f : Pr → Bool} : (ss.filter (fS L f)).length ≤ ss.length := List.length_filter_le _ _
theorem fS_yes {ss : List Int} {L : List Pr} {f : Pr → Bool} {p : Int} (h : fS L f p = true) : (ss ++ [p]).filter (fS L f) = ss.filter (fS L f) ++ [p] := by
  rw [List.filter_append, List.filter_cons, if_pos h]; rfl
theorem fS_no {ss : List Int} {L : List Pr} {f : Pr → Bool} {p : Int} (h : fS L f p = false) : (ss ++ [p]).filter (fS L f) = ss.filter (fS L f) := by
  rw [List.filter_append, List.filter_cons, h]; simp
section
variable {base : Nat} {w w' : World} {tb mb N : Nat} {M : Int → Option Nat} {L : List Pr}

set_option maxRecDepth 100000 in
set_option maxHeartbeats 4000000 in
theorem sel_kids (h : TM base w tb mb M N (get L)) (hG : Good N L) (b c₀ : Nat) (par child : Int) (hb : w.cell? ⟨b, 0, none⟩ = some (.int .i64 par)) (hc : w.cell? ⟨c₀, 0, none⟩ = some (.int .i64 child)) :
    Calls Try.prog 31 #[.pointer (some ⟨tb, 0, none⟩), .func (.func 43) #[] #[.pointer (some ⟨b, 0, none⟩), .pointer (some ⟨c₀, 0, none⟩)]] w fun e w' => ∃ v, e = .returned v ∧ w'.ownsRow (w.heap.size + 1) 62 1 v (L.filter (kid par child)).length ((L.filter (kid par child)).map fun x => ptr (M x.pid)) ∧ Below w.heap.size w w' := by
  have c0 := h.box.cell (j := 0) rfl
  obtain ⟨D, hown, hhas, hat⟩ := h.mp.ex
  have hbd := h.mp.bound
  obtain ⟨ss0, hN0, hsz0⟩ := own_nums hown hhas hbd
  have hsz : Maps.size D ≤ 1024 := by
    rw [← hsz0, hN0.len_eq (h.nums hG.asc hG.ge), List.length_map]
    have := hG.len; have := hG.top; omega
  have H := W_hid h
  have hbb := W_hid hb
  have hcc := W_hid hc
  clear hb hc
  have HG := W_hid hG
  have hhas := W_hid hhas
  have hat := W_hid hat
  have hbd := W_hid hbd
  have hmx : (1024 : Nat) < maxLen := by unfold maxLen; omega
  replace hN0 := W_hid hN0
  replace hsz0 := W_hid hsz0
  clear h hG
  go_enter Try.func31, Try.ntmps31
  go_wp2_with (at_range; refine wpList_range_own _ rfl _ 56 rfl 3 62 keyed_int cund_map PR mb (Maps.size D) D rfl hown ?_; intro w0 hrg0 hg0 hs0)
  go_frame
  go_loopw [5] (fun v wr => ∃ (left : Lit → Bool) (cnt : Nat) (ss : List Int), wr.ranges Try.prog 3 PR mb w.heap.size (Maps.size D) D left cnt ∧ ss.length + cnt ≤ Maps.size D ∧ PCome D left ss ∧ wr.ownsRow (w.heap.size + 1) 62 1 v (ss.filter (fS L (kid par child))).length ((ss.filter (fS L (kid par child))).map fun p => ptr (M p)) ∧ Below w.heap.size w wr ∧ w.heap.size + 1 ≤ wr.heap.size)
    (fun _ wr => wr.rangeLeft mb w.heap.size)
  case atStart =>
    exact ⟨_, _, [], hrg0, by simp, PCome.start D, World.ownsRow_nil _ _ _ _, ⟨hg0.os, hg0.tape, hg0.output, hg0.size, fun k hk => hg0.block k hk (by simp)⟩, by omega⟩
  case round =>
    obtain ⟨left, cnt, ss, hrg, hcs, hC, hrow, bel, hwz⟩ := hrel
    obtain ⟨av, cv, hv5⟩ := Own.form hrow
    have hfl := fS_len (ss := ss) (L := L) (f := kid par child)
    have hfl2 := W_hid hfl
    obtain ⟨fl, hfl3⟩ : ∃ fl, (ss.filter (fS L (kid par child))).length = fl := ⟨_, rfl⟩
    have hflw := W_hid hfl3
    have hrow := W_hid hrow
    have bel := W_hid bel
    have hC := W_hid hC
    rw [hfl3] at hv5 hfl
    subst hv5
    replace hfl3 := W_hid hfl3
    go_wp2_with (at_next; refine wpList_next_ranges _ rfl _ rfl 3 keyed_int PR (Value.int .i64) ptr (fun k kl hk => by obtain ⟨x, rfl, _, _⟩ := Maps.keyOf_int_inv und_int hk; exact ⟨x, rfl⟩) PR_shape mb w.heap.size (Maps.size D) _ _ _ rfl hrg ?_ ?_)
    · intro hc0 hl0
      have hmem : ∀ p, p ∈ ss ↔ M p ≠ none := by
        intro p
        rw [hC.out.iff p, hl0]
        constructor
        · rintro ⟨h1, h2, -⟩ h3
          rw [hhas.out p h1, h3] at h2
          cases h2
        · intro h3
          have h1 := hbd.out p h3
          have h2 : I64 p := ⟨by omega, by omega⟩
          refine ⟨h2, ?_, rfl⟩
          rw [hhas.out p h2]
          cases e : M p with
          | none => exact absurd e h3
          | some _ => rfl
      have hsort := psort_any (H.out.keep bel.out) (.slice av fl cv) (ss.filter (fS L (kid par child))) (fun p hp => (hmem p).1 (List.mem_filter.1 hp).1) (hC.out.once.filter _) (by rw [hflw.out]; omega) (B := w.heap.size + 1) hrow.out (fun k hk => by have := H.out.tlt k hk; omega)
      have hsort := W_hid hsort
      have hmem := W_hid hmem
      go_wp2_with (go_at_call 40; refine hsort.out.mono ?_; rintro e w1 ⟨rfl, qs, hperm, hrise, hrow1, hg1⟩; have hperm := W_hid hperm; have hrise := W_hid hrise; have hrow1 := W_hid hrow1; have hg1 := W_hid hg1)
      go_ret
      have hq := sel_eq HG.out.asc hmem.out H.out.dom hperm.out hrise.out
      have hr2 := hrow1.out
      have hqlen := hperm.out.length_eq
      rw [hq, List.length_map] at hqlen
      refine ⟨_, rfl, ?_, ?_⟩
      · rw [← hqlen, hq, List.map_map] at hr2
        have e : fl = (L.filter (kid par child)).length := by rw [hqlen]; exact hflw.out.symm
        rw [← e] at hr2 ⊢
        exact hr2
      · exact bel.out.grown hg1.out bel.out.size (fun j hj => by have := Own.ge hrow.out j hj; omega)
    · intro x c kl yd yp w2 cnt2 hkey hlk hv hat2 hrg2 hlt hg2 hs2 hen
      have hx : I64 x ∧ kl = key x := by
        obtain ⟨x', e, rfl, hwf⟩ := Maps.keyOf_int_inv und_int hkey
        simp only [Value.int.injEq, true_and] at e
        subst e
        exact ⟨wf_bounds hwf, rfl⟩
      obtain ⟨hx, rfl⟩ := hx
      have hhasx : Maps.has D (key x) = true := by
        cases e : Maps.has D (key x) with
        | true => rfl
        | false =>
          exfalso
          have h2 := hat2 .nil
          have h3 := hat2 (.lit (.int .i64 0))
          rw [Maps.atKey_of_not_has (by simpa using e)] at h2 h3
          rw [← h2] at h3
          cases h3
      obtain ⟨g, hM⟩ : ∃ g, M x = some g := by
        have := hhas.out x hx
        rw [hhasx] at this
        cases e : M x with
        | none => rw [e] at this; cases this
        | some g => exact ⟨g, rfl⟩
      have hcg : c = some g := by
        have h2 := hat.out x g hx hM .nil
        rw [hat2 .nil] at h2
        rw [PR_ptr] at hv
        simp only [Option.some.injEq, Prod.mk.injEq] at hv
        exact pd_inj (hv.1.trans h2)
      subst hcg
      obtain ⟨z, hS, hbz⟩ := H.out.blk hM
      have hgl := hbz.lt
      have bel2 : Below w.heap.size w w2 := bel.out.grown hg2 bel.out.size (fun j hj => by cases hj; exact Nat.le_refl _)
      have hgm := H.out.mp.lt
      have hrow2 : w2.ownsRow (w.heap.size + 1) 62 1 (.slice av fl cv) fl ((ss.filter (fS L (kid par child))).map fun p => ptr (M p)) := by
        have := hrow.out
        rw [hflw.out] at this
        exact this.kept hg2 (.inr fun e => by have := Own.ge hrow.out _ e; omega)
      have hfn : Hid (∀ W, Below w.heap.size w W → Calls Try.prog 43 (#[.pointer (some ⟨g, 0, none⟩)] ++ #[.pointer (some ⟨b, 0, none⟩), .pointer (some ⟨c₀, 0, none⟩)]) W fun e w' => e = .returned (.bool (fS L (kid par child) x)) ∧ ∃ n, w' = W.drewN n) := W_hid (by
        intro W hW
        have hb : PBk W g z := hbz.below hW hgl
        have e : fS L (kid par child) x = (kid par child) z := by unfold fS; rw [hS]
        rw [e]
        exact pkid_any hb (by rw [hW.cell (cell_lt hbb.out)]; exact hbb.out) (by rw [hW.cell (cell_lt hcc.out)]; exact hcc.out))
      have hC2 := W_hid (hC.out.step hx hlk hhasx)
      have hcall := W_hid (hfn.out w2 bel2)
      have bel2 := W_hid bel2
      have hrow2 := W_hid hrow2
      have hrgm : some mb ≠ (Value.slice av fl cv).ownBlock := by intro e; have := Own.ge hrow.out mb e.symm; omega
      have hrgr : some w.heap.size ≠ (Value.slice av fl cv).ownBlock := by intro e; have := Own.ge hrow.out _ e.symm; omega
      have hz2 : w.heap.size + 1 ≤ w2.heap.size := by omega
      replace hrgm := W_hid hrgm
      replace hrgr := W_hid hrgr
      replace hM := W_hid hM
      replace hbz := W_hid hbz
      replace hS := W_hid hS
      clear hs2 hv hat2 hg2 hlk hhasx hkey
      simp only [ptr] at hen ⊢
      cases hf : fS L (kid par child) x with
      | false =>
        have hcall2 := hcall.out
        rw [hf] at hcall2
        replace hcall2 := W_hid hcall2
        replace hf := W_hid hf
        go_wp2_with (go_at_call 43; refine hcall2.out.mono ?_; rintro e w3 ⟨rfl, n, rfl⟩)
        go_roundw
        case rel =>
          refine ⟨_, cnt2, ss ++ [x], rng_drew hrg2 n, by simp; omega, hC2.out, ?_, bel_drew bel2.out n, hz2⟩
          rw [fS_no hf.out, hflw.out]
          exact hrow2.out
        case measure => rw [(rng_drew hrg2 n).left_eq, hrg.left_eq]; exact hlt
      | true =>
        have hcall2 := hcall.out
        rw [hf] at hcall2
        replace hcall2 := W_hid hcall2
        replace hf := W_hid hf
        have hrow3 : Hid (∀ n, ((w2.drewN n).alloc (.cells #[.pointer (some ⟨g, 0, none⟩)] 62)).ownsRow (w.heap.size + 1) 62 1 (.slice av fl cv) fl ((ss.filter (fS L (kid par child))).map fun p => ptr (M p))) := W_hid fun n => World.ownsRow.alloc (own_drew hrow2.out n) _
        have hsrc : Hid (∀ n, Own.Src ((w2.drewN n).alloc (.cells #[.pointer (some ⟨g, 0, none⟩)] 62)) 1 (.slice (some ⟨w2.heap.size, 0, none⟩) 1 1) 1 [.pointer (some ⟨g, 0, none⟩)]) := W_hid fun n => .inr ⟨_, _, rfl, rfl, cell_one_new (w2.drewN n) _ _⟩
        go_wp2_with (first
          | (go_at_call 43; refine hcall2.out.mono ?_; rintro e w3 ⟨rfl, n, rfl⟩)
          | (at_builtin; refine Own.wpList_app rfl (.tmp 20) (.tmp 22) 60 rfl und_ptrs info_ptr (.slice av fl cv) (.slice (some ⟨w2.heap.size, 0, none⟩) 1 1) rfl rfl (hrow3.out n) (by simp; omega) (hsrc.out n) (by intro u hu; simp at hu; subst hu; rfl) (by omega) (by omega) ?_; intro v4 w4 ho4 hg4 hob4; have ho4 := W_hid ho4; have hg4 := W_hid hg4; have hob4 := W_hid hob4))
        have hrg3 : w4.ranges Try.prog 3 PR mb w.heap.size (Maps.size D) D (fun z => left z && !z.sameKey (key x)) cnt2 := ((rng_drew hrg2 n).alloc _).kept hg4.out hrgm.out hrgr.out
        have belA : Below w.heap.size w ((w2.drewN n).alloc (.cells #[.pointer (some ⟨g, 0, none⟩)] 62)) := (bel_drew bel2.out n).alloc (by simp; omega) _
        have bel4 : Below w.heap.size w w4 := belA.grown hg4.out belA.size (fun j hj => by have := Own.ge hrow2.out j hj; omega)
        have hz4 : w.heap.size + 1 ≤ w4.heap.size := by have := hg4.out.size; simp at this; omega
        go_roundw
        case rel =>
          refine ⟨_, cnt2, ss ++ [x], hrg3, by simp; omega, hC2.out, ?_, bel4, hz4⟩
          rw [fS_yes hf.out, List.length_append, hflw.out, List.map_append]
          have := ho4.out
          simp only [List.map_cons, List.map_nil, hM.out]
          exact this
        case measure => rw [hrg3.left_eq, hrg.left_eq]; exact hlt

set_option maxRecDepth 100000 in
set_option maxHeartbeats 4000000 in
theorem sel_all (h : TM base w tb mb M N (get L)) (hG : Good N L)  :
    Calls Try.prog 31 #[.pointer (some ⟨tb, 0, none⟩), .func (.func 32) #[] #[]] w fun e w' => ∃ v, e = .returned v ∧ w'.ownsRow (w.heap.size + 1) 62 1 v (L.filter (fun _ => true)).length ((L.filter (fun _ => true)).map fun x => ptr (M x.pid)) ∧ Below w.heap.size w w' := by
  have c0 := h.box.cell (j := 0) rfl
  obtain ⟨D, hown, hhas, hat⟩ := h.mp.ex
  have hbd := h.mp.bound
  obtain ⟨ss0, hN0, hsz0⟩ := own_nums hown hhas hbd
  have hsz : Maps.size D ≤ 1024 := by
    rw [← hsz0, hN0.len_eq (h.nums hG.asc hG.ge), List.length_map]
    have := hG.len; have := hG.top; omega
  have H := W_hid h
  have HG := W_hid hG
  have hhas := W_hid hhas
  have hat := W_hid hat
  have hbd := W_hid hbd
  have hmx : (1024 : Nat) < maxLen := by unfold maxLen; omega
  replace hN0 := W_hid hN0
  replace hsz0 := W_hid hsz0
  clear h hG
  go_enter Try.func31, Try.ntmps31
  go_wp2_with (at_range; refine wpList_range_own _ rfl _ 56 rfl 3 62 keyed_int cund_map PR mb (Maps.size D) D rfl hown ?_; intro w0 hrg0 hg0 hs0)
  go_frame
  go_loopw [5] (fun v wr => ∃ (left : Lit → Bool) (cnt : Nat) (ss : List Int), wr.ranges Try.prog 3 PR mb w.heap.size (Maps.size D) D left cnt ∧ ss.length + cnt ≤ Maps.size D ∧ PCome D left ss ∧ wr.ownsRow (w.heap.size + 1) 62 1 v (ss.filter (fS L (fun _ => true))).length ((ss.filter (fS L (fun _ => true))).map fun p => ptr (M p)) ∧ Below w.heap.size w wr ∧ w.heap.size + 1 ≤ wr.heap.size)
    (fun _ wr => wr.rangeLeft mb w.heap.size)
  case atStart =>
    exact ⟨_, _, [], hrg0, by simp, PCome.start D, World.ownsRow_nil _ _ _ _, ⟨hg0.os, hg0.tape, hg0.output, hg0.size, fun k hk => hg0.block k hk (by simp)⟩, by omega⟩
  case round =>
    obtain ⟨left, cnt, ss, hrg, hcs, hC, hrow, bel, hwz⟩ := hrel
    obtain ⟨av, cv, hv5⟩ := Own.form hrow
    have hfl := fS_len (ss := ss) (L := L) (f := fun _ => true)
    have hfl2 := W_hid hfl
    obtain ⟨fl, hfl3⟩ : ∃ fl, (ss.filter (fS L (fun _ => true))).length = fl := ⟨_, rfl⟩
    have hflw := W_hid hfl3
    have hrow := W_hid hrow
    have bel := W_hid bel
    have hC := W_hid hC
    rw [hfl3] at hv5 hfl
    subst hv5
    replace hfl3 := W_hid hfl3
    go_wp2_with (at_next; refine wpList_next_ranges _ rfl _ rfl 3 keyed_int PR (Value.int .i64) ptr (fun k kl hk => by obtain ⟨x, rfl, _, _⟩ := Maps.keyOf_int_inv und_int hk; exact ⟨x, rfl⟩) PR_shape mb w.heap.size (Maps.size D) _ _ _ rfl hrg ?_ ?_)
    · intro hc0 hl0
      have hmem : ∀ p, p ∈ ss ↔ M p ≠ none := by
        intro p
        rw [hC.out.iff p, hl0]
        constructor
        · rintro ⟨h1, h2, -⟩ h3
          rw [hhas.out p h1, h3] at h2
          cases h2
        · intro h3
          have h1 := hbd.out p h3
          have h2 : I64 p := ⟨by omega, by omega⟩
          refine ⟨h2, ?_, rfl⟩
          rw [hhas.out p h2]
          cases e : M p with
          | none => exact absurd e h3
          | some _ => rfl
      have hsort := psort_any (H.out.keep bel.out) (.slice av fl cv) (ss.filter (fS L (fun _ => true))) (fun p hp => (hmem p).1 (List.mem_filter.1 hp).1) (hC.out.once.filter _) (by rw [hflw.out]; omega) (B := w.heap.size + 1) hrow.out (fun k hk => by have := H.out.tlt k hk; omega)
      have hsort := W_hid hsort
      have hmem := W_hid hmem
      go_wp2_with (go_at_call 40; refine hsort.out.mono ?_; rintro e w1 ⟨rfl, qs, hperm, hrise, hrow1, hg1⟩; have hperm := W_hid hperm; have hrise := W_hid hrise; have hrow1 := W_hid hrow1; have hg1 := W_hid hg1)
      go_ret
      have hq := sel_eq HG.out.asc hmem.out H.out.dom hperm.out hrise.out
      have hr2 := hrow1.out
      have hqlen := hperm.out.length_eq
      rw [hq, List.length_map] at hqlen
      refine ⟨_, rfl, ?_, ?_⟩
      · rw [← hqlen, hq, List.map_map] at hr2
        have e : fl = (L.filter (fun _ => true)).length := by rw [hqlen]; exact hflw.out.symm
        rw [← e] at hr2 ⊢
        exact hr2
      · exact bel.out.grown hg1.out bel.out.size (fun j hj => by have := Own.ge hrow.out j hj; omega)
    · intro x c kl yd yp w2 cnt2 hkey hlk hv hat2 hrg2 hlt hg2 hs2 hen
      have hx : I64 x ∧ kl = key x := by
        obtain ⟨x', e, rfl, hwf⟩ := Maps.keyOf_int_inv und_int hkey
        simp only [Value.int.injEq, true_and] at e
        subst e
        exact ⟨wf_bounds hwf, rfl⟩
      obtain ⟨hx, rfl⟩ := hx
      have hhasx : Maps.has D (key x) = true := by
        cases e : Maps.has D (key x) with
        | true => rfl
        | false =>
          exfalso
          have h2 := hat2 .nil
          have h3 := hat2 (.lit (.int .i64 0))
          rw [Maps.atKey_of_not_has (by simpa using e)] at h2 h3
          rw [← h2] at h3
          cases h3
      obtain ⟨g, hM⟩ : ∃ g, M x = some g := by
        have := hhas.out x hx
        rw [hhasx] at this
        cases e : M x with
        | none => rw [e] at this; cases this
        | some g => exact ⟨g, rfl⟩
      have hcg : c = some g := by
        have h2 := hat.out x g hx hM .nil
        rw [hat2 .nil] at h2
        rw [PR_ptr] at hv
        simp only [Option.some.injEq, Prod.mk.injEq] at hv
        exact pd_inj (hv.1.trans h2)
      subst hcg
      obtain ⟨z, hS, hbz⟩ := H.out.blk hM
      have hgl := hbz.lt
      have bel2 : Below w.heap.size w w2 := bel.out.grown hg2 bel.out.size (fun j hj => by cases hj; exact Nat.le_refl _)
      have hgm := H.out.mp.lt
      have hrow2 : w2.ownsRow (w.heap.size + 1) 62 1 (.slice av fl cv) fl ((ss.filter (fS L (fun _ => true))).map fun p => ptr (M p)) := by
        have := hrow.out
        rw [hflw.out] at this
        exact this.kept hg2 (.inr fun e => by have := Own.ge hrow.out _ e; omega)
      have hfn : Hid (∀ W, Below w.heap.size w W → Calls Try.prog 32 (#[.pointer (some ⟨g, 0, none⟩)] ++ #[]) W fun e w' => e = .returned (.bool (fS L (fun _ => true) x)) ∧ ∃ n, w' = W.drewN n) := W_hid (by
        intro W hW
        have hb : PBk W g z := hbz.below hW hgl
        have e : fS L (fun _ => true) x = (fun _ => true) z := by unfold fS; rw [hS]
        rw [e]
        exact pall1_any _ W)
      have hC2 := W_hid (hC.out.step hx hlk hhasx)
      have hcall := W_hid (hfn.out w2 bel2)
      have bel2 := W_hid bel2
      have hrow2 := W_hid hrow2
      have hrgm : some mb ≠ (Value.slice av fl cv).ownBlock := by intro e; have := Own.ge hrow.out mb e.symm; omega
      have hrgr : some w.heap.size ≠ (Value.slice av fl cv).ownBlock := by intro e; have := Own.ge hrow.out _ e.symm; omega
      have hz2 : w.heap.size + 1 ≤ w2.heap.size := by omega
      replace hrgm := W_hid hrgm
      replace hrgr := W_hid hrgr
      replace hM := W_hid hM
      replace hbz := W_hid hbz
      replace hS := W_hid hS
      clear hs2 hv hat2 hg2 hlk hhasx hkey
      simp only [ptr] at hen ⊢
      cases hf : fS L (fun _ => true) x with
      | false =>
        have hcall2 := hcall.out
        rw [hf] at hcall2
        replace hcall2 := W_hid hcall2
        replace hf := W_hid hf
        go_wp2_with (go_at_call 32; refine hcall2.out.mono ?_; rintro e w3 ⟨rfl, n, rfl⟩)
        go_roundw
        case rel =>
          refine ⟨_, cnt2, ss ++ [x], rng_drew hrg2 n, by simp; omega, hC2.out, ?_, bel_drew bel2.out n, hz2⟩
          rw [fS_no hf.out, hflw.out]
          exact hrow2.out
        case measure => rw [(rng_drew hrg2 n).left_eq, hrg.left_eq]; exact hlt
      | true =>
        have hcall2 := hcall.out
        rw [hf] at hcall2
        replace hcall2 := W_hid hcall2
        replace hf := W_hid hf
        have hrow3 : Hid (∀ n, ((w2.drewN n).alloc (.cells #[.pointer (some ⟨g, 0, none⟩)] 62)).ownsRow (w.heap.size + 1) 62 1 (.slice av fl cv) fl ((ss.filter (fS L (fun _ => true))).map fun p => ptr (M p))) := W_hid fun n => World.ownsRow.alloc (own_drew hrow2.out n) _
        have hsrc : Hid (∀ n, Own.Src ((w2.drewN n).alloc (.cells #[.pointer (some ⟨g, 0, none⟩)] 62)) 1 (.slice (some ⟨w2.heap.size, 0, none⟩) 1 1) 1 [.pointer (some ⟨g, 0, none⟩)]) := W_hid fun n => .inr ⟨_, _, rfl, rfl, cell_one_new (w2.drewN n) _ _⟩
        go_wp2_with (first
          | (go_at_call 32; refine hcall2.out.mono ?_; rintro e w3 ⟨rfl, n, rfl⟩)
          | (at_builtin; refine Own.wpList_app rfl (.tmp 20) (.tmp 22) 60 rfl und_ptrs info_ptr (.slice av fl cv) (.slice (some ⟨w2.heap.size, 0, none⟩) 1 1) rfl rfl (hrow3.out n) (by simp; omega) (hsrc.out n) (by intro u hu; simp at hu; subst hu; rfl) (by omega) (by omega) ?_; intro v4 w4 ho4 hg4 hob4; have ho4 := W_hid ho4; have hg4 := W_hid hg4; have hob4 := W_hid hob4))
        have hrg3 : w4.ranges Try.prog 3 PR mb w.heap.size (Maps.size D) D (fun z => left z && !z.sameKey (key x)) cnt2 := ((rng_drew hrg2 n).alloc _).kept hg4.out hrgm.out hrgr.out
        have belA : Below w.heap.size w ((w2.drewN n).alloc (.cells #[.pointer (some ⟨g, 0, none⟩)] 62)) := (bel_drew bel2.out n).alloc (by simp; omega) _
        have bel4 : Below w.heap.size w w4 := belA.grown hg4.out belA.size (fun j hj => by have := Own.ge hrow2.out j hj; omega)
        have hz4 : w.heap.size + 1 ≤ w4.heap.size := by have := hg4.out.size; simp at this; omega
        go_roundw
        case rel =>
          refine ⟨_, cnt2, ss ++ [x], hrg3, by simp; omega, hC2.out, ?_, bel4, hz4⟩
          rw [fS_yes hf.out, List.length_append, hflw.out, List.map_append]
          have := ho4.out
          simp only [List.map_cons, List.map_nil, hM.out]
          exact this
        case measure => rw [hrg3.left_eq, hrg.left_eq]; exact hlt
end
end PC
end Go.Proofs.Ytahcpimpmedbiaa

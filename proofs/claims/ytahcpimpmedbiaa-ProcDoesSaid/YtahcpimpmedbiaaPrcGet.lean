/- Contracts of package proc: Get, Spawn. -/
import Derived.Test.YtahcpimpmedbiaaPrcOps
namespace Go.Proofs.Ytahcpimpmedbiaa
open Go.ChangeShapes Go.WideShapes Go.ChangeAt Go.RowKit Go.Maps
set_option linter.unusedVariables false
set_option linter.unusedSimpArgs false
set_option maxRecDepth 100000
namespace PC
open IS (ptr I64 Nums upd)
open IN (Keeps lt_of_some)

def fv (a b c d e : Int) : List Value := [.int .i64 a, .int .i64 b, .int .i64 c, .int .i64 d, .int .i64 e]
theorem prow_fv (x : Pr) : prow x = fv x.pid x.par x.st x.code x.nice := rfl
theorem res_prc {fn : Func} {r t : Tmp} (hres : fn.results = #[.cell r 43, .tmp t]) (tmps : Array Value) (w : World) {g : Nat} {a b c d e : Int} (hr : tmps.getD r undef = .pointer (some ⟨g, 0, none⟩)) (hp : Blk w g 43 (fv a b c d e)) :
    (results fn tmps).run Try.prog w = .ok (.tuple #[.agg (fv a b c d e).toArray, tmps.getD t undef]) w := by
  have c0 := hp.cell (j := 0) rfl
  have c1 := hp.cell (j := 1) rfl
  have c2 := hp.cell (j := 2) rfl
  have c3 := hp.cell (j := 3) rfl
  have c4 := hp.cell (j := 4) rfl
  rw [Array.getD_eq_getD_getElem?] at hr
  simp [results, hres, go_sem, hr, c0, c1, c2, c3, c4, fv]
/-- Five stores into a block of five cells. -/
def five_set (w : World) (r : Nat) (a b c d e : Int) : World := ((((w.setCell ⟨r, 0, none⟩ (.int .i64 a)).setCell ⟨r, 1, none⟩ (.int .i64 b)).setCell ⟨r, 2, none⟩ (.int .i64 c)).setCell ⟨r, 3, none⟩ (.int .i64 d)).setCell ⟨r, 4, none⟩ (.int .i64 e)
theorem five_blk {w : World} {r : Nat} {x0 x1 x2 x3 x4 : Value} (h : Blk w r 43 [x0, x1, x2, x3, x4]) (a b c d e : Int) : Blk (five_set w r a b c d e) r 43 (fv a b c d e) :=
  ((((h.set 0 (.int .i64 a)).set 1 (.int .i64 b)).set 2 (.int .i64 c)).set 3 (.int .i64 d)).set 4 (.int .i64 e)
theorem five_below {w0 w : World} {r B : Nat} (h : Below B w0 w) (hr : B ≤ r) (a b c d e : Int) : Below B w0 (five_set w r a b c d e) :=
  ((((h.setCell (p := ⟨r, 0, none⟩) hr _).setCell (p := ⟨r, 1, none⟩) hr _).setCell (p := ⟨r, 2, none⟩) hr _).setCell (p := ⟨r, 3, none⟩) hr _).setCell (p := ⟨r, 4, none⟩) hr _

theorem Get_nil (p : Int) (w : World) : Calls Try.prog 17 #[.pointer none, .int .i64 p] w fun e w' => e = .returned (.tuple #[.agg (prow zeroP).toArray, .bool false]) ∧ Below w.heap.size w w' := by
  obtain ⟨W0, hW0⟩ : ∃ W0, w.alloc (.cells #[.int .i64 0, .int .i64 0, .int .i64 0, .int .i64 0, .int .i64 0] 43) = W0 := ⟨_, rfl⟩
  have hb0 : Below w.heap.size w W0 := by rw [← hW0]; exact (Below.refl _ _).alloc (Nat.le_refl _) _
  have hr0 : Blk W0 w.heap.size 43 (fv 0 0 0 0 0) := by rw [← hW0]; exact Blk.new w _ (fv 0 0 0 0 0) rfl
  have r0 := hr0.cell (j := 0) rfl
  have r1 := hr0.cell (j := 1) rfl
  have r2 := hr0.cell (j := 2) rfl
  have r3 := hr0.cell (j := 3) rfl
  have r4 := hr0.cell (j := 4) rfl
  have rz := hr0.fz
  have hr0 := W_hid hr0
  have hb0 := W_hid hb0
  go_enter Try.func17, Try.ntmps17
  go_wp2_with (go_at_call 30; refine (pnone_nil _).mono ?_; rintro e w' ⟨rfl, rfl⟩)
  refine bodyPost_ret (res_prc rfl _ _ rfl (five_blk hr0.out _ _ _ _ _)) rfl ⟨rfl, five_below hb0.out (Nat.le_refl _) _ _ _ _ _⟩

section
variable {base : Nat} {w w' : World} {tb N : Nat} {L : List Pr} {X : Nat → Prop}
set_option maxRecDepth 100000 in
set_option maxHeartbeats 2000000 in
theorem Get_any (h : TW base w tb N L X) (p : Int) (hp : I64 p) : Calls Try.prog 17 #[.pointer (some ⟨tb, 0, none⟩), .int .i64 p] w fun e w' => e = .returned (.tuple #[.agg (prow (getR L p).1).toArray, .bool (getR L p).2]) ∧ Below w.heap.size w w' := by
  obtain ⟨W0, hW0⟩ : ∃ W0, w.alloc (.cells #[.int .i64 0, .int .i64 0, .int .i64 0, .int .i64 0, .int .i64 0] 43) = W0 := ⟨_, rfl⟩
  have hb0 : Below w.heap.size w W0 := by rw [← hW0]; exact (Below.refl _ _).alloc (Nat.le_refl _) _
  have hr0 : Blk W0 w.heap.size 43 (fv 0 0 0 0 0) := by rw [← hW0]; exact Blk.new w _ (fv 0 0 0 0 0) rfl
  obtain ⟨mb, M, hT, hX⟩ := h
  have hT0 := hT.keep hb0
  have r0 := hr0.cell (j := 0) rfl
  have r1 := hr0.cell (j := 1) rfl
  have r2 := hr0.cell (j := 2) rfl
  have r3 := hr0.cell (j := 3) rfl
  have r4 := hr0.cell (j := 4) rfl
  have rz := hr0.fz
  have hr0 := W_hid hr0
  have hb0 := W_hid hb0
  have c0 := hT0.box.cell (j := 0) rfl
  have hn := pnone_any hT0
  have hlk := hT0.mp.look p hp
  unfold getR
  cases hS : get L p with
  | none =>
    simp only
    rw [(hT0.dom p).2 hS] at hlk
    simp only [ptr] at hlk
    clear hT hX hT0 hS
    go_enter Try.func17, Try.ntmps17
    go_wp2_with (go_at_call 30; refine hn.mono ?_; rintro e w' ⟨rfl, rfl⟩)
    refine bodyPost_ret (res_prc rfl _ _ rfl (five_blk hr0.out _ _ _ _ _)) rfl ⟨rfl, five_below hb0.out (Nat.le_refl _) _ _ _ _ _⟩
  | some x =>
    simp only
    obtain ⟨g, hM⟩ := hT0.some' hS
    rw [hM] at hlk
    simp only [ptr] at hlk
    have hb := hT0.node p g x hM hS
    obtain ⟨a, b, c, d, e⟩ := x
    have d0 := hb.cell (j := 0) rfl
    have d1 := hb.cell (j := 1) rfl
    have d2 := hb.cell (j := 2) rfl
    have d3 := hb.cell (j := 3) rfl
    have d4 := hb.cell (j := 4) rfl
    clear hT hX hT0 hS hM hb
    go_enter Try.func17, Try.ntmps17
    go_wp2_with (go_at_call 30; refine hn.mono ?_; rintro e w' ⟨rfl, rfl⟩)
    refine bodyPost_ret (res_prc rfl _ _ rfl (five_blk hr0.out _ _ _ _ _)) rfl ⟨rfl, five_below hb0.out (Nat.le_refl _) _ _ _ _ _⟩
end
theorem Spawn_nil (p n : Int) (w : World) : Calls Try.prog 18 #[.pointer none, .int .i64 p, .int .i64 n] w fun e w' => e = .returned (.tuple #[.int .i64 0, .int .i64 1]) ∧ w = w' := by
  go_enter Try.func18, Try.ntmps18
  go_wp2_with (go_at_call 33; refine (running_nil _ _).mono ?_; rintro e w' ⟨rfl, rfl⟩)
  go_ret2
  exact ⟨rfl, rfl⟩
section
variable {base : Nat} {w w' : World} {tb N : Nat} {L : List Pr} {X : Nat → Prop}
set_option maxRecDepth 100000 in
set_option maxHeartbeats 2000000 in
theorem Spawn_any (h : TW base w tb N L X) (hG : Good N L) (p n : Int) (hp : I64 p) : Calls Try.prog 18 #[.pointer (some ⟨tb, 0, none⟩), .int .i64 p, .int .i64 n] w fun e w' => e = .returned (.tuple #[.int .i64 (spawnR N L p n).1.1, .int .i64 (spawnR N L p n).1.2]) ∧ TO base w tb N (spawnR N L p n).2 X w' := by
  have hid := W_hid (h.same (Below.refl _ _))
  have hidN : Hid (∀ k, TO base w tb N L X (w.drewN k)) := W_hid fun k => h.same ⟨rfl, rfl, rfl, Nat.le_refl _, fun _ _ => rfl⟩
  obtain ⟨mb, M, hT, hX⟩ := h
  unfold spawnR
  cases hr : runs L p with
  | false =>
    rw [if_pos rfl]
    have hc := running_no hT hp hr
    clear hT hX hr hG
    go_enter Try.func18, Try.ntmps18
    go_wp2_with (go_at_call 33; refine hc.mono ?_; rintro e w' ⟨rfl, rfl⟩)
    go_ret2
    exact ⟨rfl, hid.out⟩
  | true =>
    rw [if_neg (by simp)]
    obtain ⟨x, hx, hst⟩ : ∃ x, get L p = some x ∧ x.st = 1 := by
      unfold runs at hr
      cases e : get L p with
      | none => rw [e] at hr; cases hr
      | some x => rw [e] at hr; exact ⟨x, rfl, by simpa [isRun] using hr⟩
    obtain ⟨g, hM⟩ := hT.some' hx
    have hc := running_yes hT hp hM hx hst
    have hn := fun w => pisNice_any n w
    cases hni : isNice n with
    | false =>
      rw [if_pos rfl]
      rw [hni] at hn
      clear hT hX hr hM hx hst hni hG
      go_enter Try.func18, Try.ntmps18
      go_wp2_with (first | (go_at_call 33; refine hc.mono ?_; rintro e w' ⟨rfl, rfl⟩) | (go_at_call 34; refine (hn _).mono ?_; rintro e w' ⟨rfl, rfl⟩))
      go_ret2
      exact ⟨rfl, hid.out⟩
    | true =>
      rw [if_neg (by simp)]
      rw [hni] at hn
      have c0 : ∀ k, (w.drewN k).cell? ⟨tb, 0, none⟩ = some (.map (some mb)) := fun k => Blk.cell (w := w) hT.box (j := 0) rfl
      have c1 : ∀ k, (w.drewN k).cell? ⟨tb, 1, none⟩ = some (.int .i64 (N : Int)) := fun k => Blk.cell (w := w) hT.box (j := 1) rfl
      have c00 := c0 0
      have c10 := c1 0
      have hnums := hT.nums hG.asc hG.ge
      have hlen : ∀ k ty, (Builtin.len_ #[56] ty #[.map (some mb)]).run Try.prog (w.drewN k) = .ok (.int .i64 (L.length : Int)) (w.drewN k) := fun k ty => by
        have := (hT.drew k).mp.count hnums ty
        rwa [List.length_map] at this
      by_cases hfull : L.length = N
      · rw [if_pos hfull]
        rw [hfull] at hlen
        clear hT hX hr hM hx hst hni hG hnums hfull
        go_enter Try.func18, Try.ntmps18
        go_wp2_with (first | (go_at_call 33; refine hc.mono ?_; rintro e w' ⟨rfl, rfl⟩) | (go_at_call 34; refine (hn _).mono ?_; rintro e w' ⟨rfl, rfl⟩))
        go_quiet (fail)
        go_wp2_with fail
        go_ret2
        exact ⟨rfl, hidN.out _⟩
      · rw [if_neg hfull]
        obtain ⟨ln, hln⟩ : ∃ ln, L.length = ln := ⟨_, rfl⟩
        have hlow := low_le L
        have hlo : low L < N := by have := hG.len; omega
        have htop := hG.top
        rw [hln] at hlen hfull
        have hne : ((ln : Int) == (N : Int)) = false := by simp; omega
        obtain ⟨lo, hlo'⟩ : ∃ lo, low L = lo := ⟨_, rfl⟩
        simp only [hlo']
        have hSn : get L ((lo : Int) + 1) = none := by
          rw [get_none, ← hlo']
          exact low_free hG.asc hG.ge
        have hlk : Hid (∀ k : Nat, k < lo → ∀ q, ∃ g, (Instr.lookup 56 (.map (some mb)) (.int .i64 ((k : Int) + 1)) false).run Try.prog (w.drewN q) = .ok (.pointer (some ⟨g, 0, none⟩)) (w.drewN q)) := W_hid (by
          intro k hk q
          obtain ⟨y, hy, hyp⟩ := low_used (L := L) (k := k + 1) (by omega) (by omega)
          have hg := asc_get hG.asc hy
          rw [hyp] at hg
          obtain ⟨g, hMg⟩ := hT.some' hg
          have := (hT.drew q).mp.look ((k : Int) + 1) ⟨by omega, by omega⟩
          have e : ((k + 1 : Nat) : Int) = (k : Int) + 1 := by omega
          rw [e] at hMg
          rw [hMg] at this
          exact ⟨g, this⟩)
        have hlk0 : Hid (∀ q, (Instr.lookup 56 (.map (some mb)) (.int .i64 ((lo : Int) + 1)) false).run Try.prog (w.drewN q) = .ok (.pointer none) (w.drewN q)) := W_hid (by
          intro q
          have := (hT.drew q).mp.look ((lo : Int) + 1) ⟨by omega, by omega⟩
          rw [(hT.dom _).2 hSn] at this
          exact this)
        have hput := W_hid (fun q => put_any (hT.drew q) ((lo : Int) + 1) p n (by omega) hSn)
        have hend : Hid (∀ q w', TM base w' tb mb (upd M ((lo : Int) + 1) (some (w.drewN q).heap.size)) N (updS (get L) ((lo : Int) + 1) (some ⟨(lo : Int) + 1, p, 1, 0, n⟩)) → Keeps base (fun k _ => TX tb mb M k) (w.drewN q) w' → (∀ k, TX tb mb (upd M ((lo : Int) + 1) (some (w.drewN q).heap.size)) k → TX tb mb M k ∨ (w.drewN q).heap.size ≤ k) → TO base w tb N (spawnL L p n) X w') := W_hid (by
          intro q w' h1 h2 h3
          refine ⟨TX tb mb (upd M ((lo : Int) + 1) (some w.heap.size)), ⟨mb, _, h1.congr fun r => ?_, fun k => Iff.rfl⟩, ?_, fun k hk => ?_⟩
          · rw [get_spawn hG.asc hG.ge, hlo']; simp only [newP, hlo']
          · refine keeps_iff (X := fun k => TX tb mb M k) ?_ fun k hk => (hX k).2 hk
            exact ⟨h2.os, h2.tape, h2.output, h2.size, h2.low, h2.block⟩
          · rcases h3 k hk with h4 | h4
            · exact .inl ((hX k).2 h4)
            · exact .inr h4)
        rw [hlo'] at hlo
        clear hT hX hr hM hx hst hni hG hnums hfull hln hlow hlo' hSn hid hidN
        go_enter Try.func18, Try.ntmps18
        go_wp2_with (first | (go_at_call 33; refine hc.mono ?_; rintro e w' ⟨rfl, rfl⟩) | (go_at_call 34; refine (hn _).mono ?_; rintro e w' ⟨rfl, rfl⟩))
        go_quiet (fail)
        go_wp2_with fail
        go_loopw [10] (fun i wr => ∃ k q : Nat, k ≤ lo ∧ i = .int .i64 ((k : Int) + 1) ∧ wr = w.drewN q) (fun i _ => lo + 1 - (intOf i).toNat)
        case atStart => exact ⟨0, _, Nat.zero_le _, rfl, rfl⟩
        case round =>
          obtain ⟨k, q, hk, rfl, rfl⟩ := hrel
          have c2 := c0 q
          have htop2 := htop
          have hlo2 := hlo
          by_cases hlt : k < lo
          · obtain ⟨g', hl⟩ := hlk.out k hlt q
            have hwr : IntKind.i64.wrap ((k : Int) + 1 + 1) = ((k + 1 : Nat) : Int) + 1 := by rw [IntWalk.i64_in _ (by omega)]; omega
            go_wp2_with fail
            go_roundw
            case rel => exact ⟨k + 1, q, by omega, by simp [hwr], rfl⟩
            case measure => simp [intOf, hwr]; omega
          · obtain rfl : k = lo := by omega
            have hl := hlk0.out q
            have hp2 := hput.out q
            go_wp2_with (go_at_call 23; refine hp2.mono ?_; rintro e w' ⟨rfl, h1, h2, h3⟩; have h1 := W_hid h1; have h2 := W_hid h2; have h3 := W_hid h3)
            go_ret2
            exact ⟨by simp, hend.out q _ h1.out h2.out h3.out⟩
end
end PC
end Go.Proofs.Ytahcpimpmedbiaa

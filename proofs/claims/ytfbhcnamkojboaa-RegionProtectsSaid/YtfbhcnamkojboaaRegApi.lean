/- The program's own Add, Cut, At. -/
import Derived.Test.YtfbhcnamkojboaaRegRep
namespace Go.Proofs.Ytfbhcnamkojboaa
open Go.ChangeShapes Go.WideShapes Go.ChangeAt Go.RowKit
open SQ
set_option linter.unusedVariables false
set_option linter.unusedSimpArgs false
open RG (Rg)

set_option maxRecDepth 100000 in
theorem ok_size {s : Bool} {x : Option Rg} {l : List Rg} (h : RG.Ok s x l) : l.length * 4096 ≤ RG.Sz l := by
  induction l generalizing x with
  | nil => simp
  | cons r l ih =>
    have h1 := h.1.1.1
    have h2 := ih h.2
    obtain ⟨a1, a2, a3, a4⟩ := h1
    obtain ⟨a, ha⟩ : ∃ a, r.f = 4096 * a := ⟨r.f / 4096, by omega⟩
    obtain ⟨b, hb⟩ : ∃ b, r.t = 4096 * b := ⟨r.t / 4096, by omega⟩
    simp only [List.length_cons, RG.Sz]
    rw [Nat.succ_mul, ha, hb]
    omega
theorem ok_len {s : Bool} {x : Option Rg} {l : List Rg} (h : RG.Ok s x l) : l.length ≤ 34359738368 := by
  have h1 := ok_size h
  have h2 := RG.Sz_top h
  omega
theorem GL_blk {w : World} {g : Nat} {r : Rg} (h : RB w g r) : GL w (some ⟨g, 0, none⟩) 1 1 [r] :=
  ⟨⟨rfl, Nat.le_refl _, by unfold maxLen; omega, (fun e => by cases e), fun a ha j u hu => by
    cases ha
    rw [Addr.add_lit, Nat.zero_add]
    exact h.cell (by rw [rcl_single] at hu; exact hu)⟩, fun a e _ => by cases e; exact h.lt⟩
theorem GL_nil (w : World) : GL w none 0 0 [] := ⟨RS.nil w, (fun a e => by cases e)⟩
theorem parts_meet {lo hi : Nat} {l : List Rg} : RG.parts lo hi l = [] ↔ RG.meeting lo hi l = [] := by simp [RG.parts]

/-- A call gives a list in a row of its own, and a number of an error. -/
def GvE (f : FuncId) (args : Array Value) (L : List Rg) (E : Int) (w : World) : Prop :=
  Calls Try.prog f args w fun e w' => ∃ ao c, e = .returned (.tuple #[.slice ao L.length c, .int .i64 E]) ∧ w'.ownsRow w.heap.size 25 4 (.slice ao L.length c) L.length (rcl L) ∧ Below w.heap.size w w'
theorem GvE.none {f : FuncId} {args : Array Value} {E : Int} {w : World} (h : Gv f args (.tuple #[.slice none 0 0, .int .i64 E]) w) : GvE f args [] E w :=
  h.mono fun e w' hh => ⟨Option.none, 0, hh.1, World.ownsRow_nil _ _ _ _, hh.2⟩

noncomputable def adL (l : List Rg) (r : Rg) : List Rg := if RG.Ok true none l ∧ RG.good r ∧ RG.parts r.f r.t l = [] then RG.rep l r.f r.t [r] else []
noncomputable def adE (l : List Rg) (r : Rg) : Int := if RG.Ok true none l ∧ RG.good r then (if RG.parts r.f r.t l = [] then 0 else 102) else 2

set_option maxRecDepth 100000 in
set_option maxHeartbeats 4000000 in
theorem Add_any (ao : Option Addr) (n cap : Nat) (l : List Rg) (f t : Nat) (p s : Int) (w : World) (h : GL w ao n cap l) :
    GvE 8 #[.slice ao n cap, .agg #[.int .u64 (f : Int), .int .u64 (t : Int), .int .i64 p, .int .i64 s]] (adL l ⟨f, t, p, s⟩) (adE l ⟨f, t, p, s⟩) w := by
  have bb : Below w.heap.size w (w.alloc (.cells #[.int .u64 (f : Int), .int .u64 (t : Int), .int .i64 p, .int .i64 s] 25)) := (Below.refl _ _).alloc (Nat.le_refl _) _
  have hB0 : RB (w.alloc (.cells #[.int .u64 (f : Int), .int .u64 (t : Int), .int .i64 p, .int .i64 s] 25)) w.heap.size ⟨f, t, p, s⟩ := Blk.new _ _ _ rfl
  have hV := valid_any ao n cap l _ (h.keep bb).1
  have hI := W_hid (fun w => isRegion_any f t p s w)
  have hL := W_hid (h.keep bb)
  by_cases hok : RG.Ok true none l
  · rw [decide_eq_true hok] at hV
    replace hV := W_hid hV
    by_cases hg : RG.good ⟨f, t, p, s⟩
    · rw [decide_eq_true hg] at hI
      have hF := W_hid (fun w b1 b2 b3 h => first_meet ao n cap l f t b1 b2 b3 w h)
      have hMk := W_hid (fun w => meeting_any ao n cap f t w)
      by_cases hp : RG.parts f t l = []
      · rw [parts_meet.1 hp] at hF
        have hR : Hid (∀ w ai ni capi, GL w ao n cap l → GL w ai ni capi [⟨f, t, p, s⟩] → GvL 21 #[.slice ao n cap, .int .u64 (f : Int), .int .u64 (t : Int), .slice ai ni capi] (adL l ⟨f, t, p, s⟩) w) := by
          intro w ai ni capi h1 h2
          have := replace_any ao ai n cap ni capi l [⟨f, t, p, s⟩] f t w h1 h2 (ok_len hok) (by simp)
          rw [RG.parts_self (l := [⟨f, t, p, s⟩]) (fun r hr => by rw [List.mem_singleton.1 hr]; exact ⟨Nat.le_refl _, Nat.le_refl _, hg.1.2.2.1⟩)] at this
          unfold adL
          rw [if_pos ⟨hok, hg, hp⟩]
          exact this
        have hE : Hid (adE l ⟨f, t, p, s⟩ = 0) := by
          show _ = _
          unfold adE
          rw [if_pos ⟨hok, hg⟩, if_pos hp]
        unfold GvE
        generalize adL l ⟨f, t, p, s⟩ = LL at *
        clear hok hg hp h
        go_enter Try.func8, Try.ntmps8
        go_wp2_with fail
        refine hV.out.mono ?_
        rintro e w1 ⟨rfl, bel1⟩
        have hB1 := hB0.keep bel1
        obtain ⟨u0, u1, u2, u3⟩ := RB.re hB1
        replace hL := W_hid (hL.out.keep bel1)
        replace bb := bb.trans (bel1.mono bb.size)
        clear bel1 hV
        go_wp2_with fail
        refine (hI.out _).mono ?_
        rintro e w2 ⟨rfl, bel2⟩
        have hB2 := Blk.keep hB1 bel2
        obtain ⟨u0, u1, u2, u3⟩ := RB.re hB2
        replace hL := W_hid (hL.out.keep bel2)
        replace bb := bb.trans (bel2.mono bb.size)
        clear bel2 hB1
        go_wp2_with fail
        have hm := ML.made f t hL.out.1 hL.out.2
        obtain ⟨w3, hw3⟩ : ∃ w3, ((w2.alloc (.cells #[.slice ao n cap] 22)).alloc (.cells #[.int .u64 (f : Int)] 23)).alloc (.cells #[.int .u64 (t : Int)] 23) = w3 := ⟨_, rfl⟩
        have bel3 : Below w2.heap.size w2 w3 := by rw [← hw3]; exact (((Below.refl _ _).alloc (Nat.le_refl _) _).alloc (by simp) _).alloc (by simp; omega) _
        rw [hw3] at hm
        refine (hMk.out _).mono ?_
        rintro e w3' ⟨rfl, rfl⟩
        rw [hw3]
        have hB3 := Blk.keep hB2 bel3
        replace hL := W_hid (hL.out.keep bel3)
        replace bb := bb.trans (bel3.mono bb.size)
        clear bel3 hB2 hw3
        go_wp2_with fail
        refine (hF.out _ _ _ _ hm).mono ?_
        rintro e w4 ⟨rfl, bel4⟩
        have hB4 := Blk.keep hB3 bel4
        replace hL := W_hid (hL.out.keep bel4)
        replace bb := bb.trans (bel4.mono bb.size)
        simp only [fstV, ra]
        clear bel4 hB3 hm
        have bel5 : Below w4.heap.size w4 (w4.alloc (.cells #[.int .u64 0, .int .u64 0, .int .i64 0, .int .i64 0] 25)) := (Below.refl _ _).alloc (Nat.le_refl _) _
        have hB5 := Blk.keep hB4 bel5
        replace hL := W_hid (hL.out.keep bel5)
        replace bb := bb.trans (bel5.mono bb.size)
        obtain ⟨u0, u1, u2, u3⟩ := RB.re hB5
        have hB6 : RB ((w4.alloc (.cells #[.int .u64 0, .int .u64 0, .int .i64 0, .int .i64 0] 25)).alloc (.cells #[.int .u64 (f : Int), .int .u64 (t : Int), .int .i64 p, .int .i64 s] 25)) (w4.heap.size + 1) ⟨f, t, p, s⟩ := Blk.new _ _ _ (by simp)
        have bel6 : Below (w4.alloc (.cells #[.int .u64 0, .int .u64 0, .int .i64 0, .int .i64 0] 25)).heap.size (w4.alloc (.cells #[.int .u64 0, .int .u64 0, .int .i64 0, .int .i64 0] 25)) ((w4.alloc (.cells #[.int .u64 0, .int .u64 0, .int .i64 0, .int .i64 0] 25)).alloc (.cells #[.int .u64 (f : Int), .int .u64 (t : Int), .int .i64 p, .int .i64 s] 25)) := (Below.refl _ _).alloc (Nat.le_refl _) _
        replace hL := W_hid (hL.out.keep bel6)
        replace bb := bb.trans (bel6.mono bb.size)
        replace hR := W_hid (hR.out _ _ _ _ hL.out (GL_blk hB6))
        clear bel5 hB4 hB6 bel6
        go_wp2_with fail
        refine hR.out.mono ?_
        rintro e w7 ⟨v, rfl, hown, bel7⟩
        obtain ⟨va, vc, rfl⟩ := Own.form hown
        go_wp2_with fail
        go_ret2
        exact ⟨va, vc, by rw [hE.out]; rfl, Own.low bb.size hown, bb.trans (bel7.mono bb.size)⟩
      · obtain ⟨x, X, hX⟩ : ∃ x X, RG.meeting f t l = x :: X := by
          cases e : RG.meeting f t l with
          | nil => exact absurd (parts_meet.2 e) hp
          | cons x X => exact ⟨x, X, rfl⟩
        rw [hX] at hF
        obtain ⟨xf, xt, xp, xs⟩ := x
        have hE : Hid (adE l ⟨f, t, p, s⟩ = 102 ∧ adL l ⟨f, t, p, s⟩ = []) := by
          show _ ∧ _
          unfold adE adL
          rw [if_pos ⟨hok, hg⟩, if_neg hp, if_neg (fun h => hp h.2.2)]
          exact ⟨rfl, rfl⟩
        rw [hE.out.1, hE.out.2]
        refine GvE.none ?_
        clear hok hg hp h hX
        go_enter Try.func8, Try.ntmps8
        go_wp2_with fail
        refine hV.out.mono ?_
        rintro e w1 ⟨rfl, bel1⟩
        have hB1 := hB0.keep bel1
        obtain ⟨u0, u1, u2, u3⟩ := RB.re hB1
        replace hL := W_hid (hL.out.keep bel1)
        replace bb := bb.trans (bel1.mono bb.size)
        clear bel1 hV
        go_wp2_with fail
        refine (hI.out _).mono ?_
        rintro e w2 ⟨rfl, bel2⟩
        have hB2 := Blk.keep hB1 bel2
        obtain ⟨u0, u1, u2, u3⟩ := RB.re hB2
        replace hL := W_hid (hL.out.keep bel2)
        replace bb := bb.trans (bel2.mono bb.size)
        clear bel2 hB1
        go_wp2_with fail
        have hm := ML.made f t hL.out.1 hL.out.2
        obtain ⟨w3, hw3⟩ : ∃ w3, ((w2.alloc (.cells #[.slice ao n cap] 22)).alloc (.cells #[.int .u64 (f : Int)] 23)).alloc (.cells #[.int .u64 (t : Int)] 23) = w3 := ⟨_, rfl⟩
        have bel3 : Below w2.heap.size w2 w3 := by rw [← hw3]; exact (((Below.refl _ _).alloc (Nat.le_refl _) _).alloc (by simp) _).alloc (by simp; omega) _
        rw [hw3] at hm
        refine (hMk.out _).mono ?_
        rintro e w3' ⟨rfl, rfl⟩
        rw [hw3]
        have hB3 := Blk.keep hB2 bel3
        replace hL := W_hid (hL.out.keep bel3)
        replace bb := bb.trans (bel3.mono bb.size)
        clear bel3 hB2 hw3
        go_wp2_with fail
        refine (hF.out _ _ _ _ hm).mono ?_
        rintro e w4 ⟨rfl, bel4⟩
        have hB4 := Blk.keep hB3 bel4
        replace hL := W_hid (hL.out.keep bel4)
        replace bb := bb.trans (bel4.mono bb.size)
        simp only [fstV, ra]
        clear bel4 hB3 hm
        go_wp2_with fail
        go_ret2
        exact ⟨rfl, bb.alloc bb.size _⟩
    · rw [decide_eq_false hg] at hI
      have hE : Hid (adE l ⟨f, t, p, s⟩ = 2 ∧ adL l ⟨f, t, p, s⟩ = []) := by
        show _ ∧ _
        unfold adE adL
        rw [if_neg (fun h => hg h.2), if_neg (fun h => hg h.2.1)]
        exact ⟨rfl, rfl⟩
      rw [hE.out.1, hE.out.2]
      refine GvE.none ?_
      clear hok hg h
      go_enter Try.func8, Try.ntmps8
      go_wp2_with fail
      refine hV.out.mono ?_
      rintro e w1 ⟨rfl, bel1⟩
      have hB1 := hB0.keep bel1
      obtain ⟨u0, u1, u2, u3⟩ := RB.re hB1
      replace bb := bb.trans (bel1.mono bb.size)
      clear bel1 hV
      go_wp2_with fail
      refine (hI.out _).mono ?_
      rintro e w2 ⟨rfl, bel2⟩
      go_wp2_with fail
      go_ret2
      exact ⟨rfl, bb.trans (bel2.mono bb.size)⟩
  · rw [decide_eq_false hok] at hV
    replace hV := W_hid hV
    have hE : Hid (adE l ⟨f, t, p, s⟩ = 2 ∧ adL l ⟨f, t, p, s⟩ = []) := by
      show _ ∧ _
      unfold adE adL
      rw [if_neg (fun h => hok h.1), if_neg (fun h => hok h.1)]
      exact ⟨rfl, rfl⟩
    rw [hE.out.1, hE.out.2]
    refine GvE.none ?_
    clear hok h
    go_enter Try.func8, Try.ntmps8
    go_wp2_with fail
    refine hV.out.mono ?_
    rintro e w1 ⟨rfl, bel1⟩
    replace bb := bb.trans (bel1.mono bb.size)
    go_wp2_with fail
    go_ret2
    exact ⟨rfl, bb⟩
end Go.Proofs.Ytfbhcnamkojboaa

/- A list made of pieces: replace. -/
import Derived.Test.YtfbhcnamkojboaaRegRepB
namespace Go.Proofs.Ytfbhcnamkojboaa
open Go.ChangeShapes Go.WideShapes Go.ChangeAt Go.RowKit Go.Shelf
open SQ
set_option linter.unusedVariables false
set_option linter.unusedSimpArgs false
attribute [local go_sem] Oper.semAt_some
open RG (Rg)

theorem own_putD {V : World} {base e size n D : Nat} {v : Value} {xs : List Value} {o : Obj} (h : V.ownsRow base e size v n xs) (hD : V.heap[D]? = some (.deferred (some []))) : (V.putObj D o).ownsRow base e size v n xs :=
  own_of h (fun g hg => World.putObj_heap_other (fun e => by
    subst e
    exact (gown_cells h g hg).1.not hD rfl rfl))
set_option maxRecDepth 100000 in
set_option maxHeartbeats 8000000 in
theorem replace_any (ao ai : Option Addr) (n cap ni capi : Nat) (l m : List Rg) (lo hi : Nat) (w : World) (h : GL w ao n cap l) (hi' : GL w ai ni capi m) (hl1 : l.length ≤ 34359738368) (hl2 : m.length ≤ 34359738368) :
    GvL 21 #[.slice ao n cap, .int .u64 (lo : Int), .int .u64 (hi : Int), .slice ai ni capi] (RG.one (RG.parts 0 lo l ++ RG.parts lo hi m ++ RG.parts hi 140737488355328 l)) w := by
  unfold GvL
  refine wide_fit ?_
  obtain ⟨i0, hi0, hz0, hz1, hz2⟩ := info_parts info_reg
  obtain ⟨w1, hw1⟩ : ∃ w1, w.alloc (.cells #[.slice none 0 0] 22) = w1 := ⟨_, rfl⟩
  have hb1 : Below w.heap.size w w1 := by rw [← hw1]; exact (Below.refl _ _).alloc (Nat.le_refl _) _
  have hs1 : w1.heap.size = w.heap.size + 1 := by rw [← hw1]; simp
  have hQ1 : Blk w1 w.heap.size 22 [.slice none 0 0] := by rw [← hw1]; exact Blk.new _ _ [.slice none 0 0] rfl
  have mk : ∀ (w0 : World) (a : Value) (b c : Value), Below w0.heap.size w0 (((w0.alloc (.cells #[a] 22)).alloc (.cells #[b] 23)).alloc (.cells #[c] 23)) ∧ (((w0.alloc (.cells #[a] 22)).alloc (.cells #[b] 23)).alloc (.cells #[c] 23)).heap.size = w0.heap.size + 3 :=
    fun w0 a b c => ⟨(((Below.refl _ _).alloc (Nat.le_refl _) _).alloc (by simp) _).alloc (by simp; omega) _, by simp⟩
  have h1 := h.keep hb1
  have hi1 := hi'.keep hb1
  have p1 := parts_any ao n cap 0 lo w1
  have m1 := ML.made 0 lo h1.1 h1.2
  obtain ⟨k1, k2⟩ := mk w1 (.slice ao n cap) (.int .u64 ((0 : Nat) : Int)) (.int .u64 (lo : Int))
  obtain ⟨w2, hw2⟩ : ∃ w2, ((w1.alloc (.cells #[.slice ao n cap] 22)).alloc (.cells #[.int .u64 ((0 : Nat) : Int)] 23)).alloc (.cells #[.int .u64 (lo : Int)] 23) = w2 := ⟨_, rfl⟩
  rw [hw2] at p1 m1 k1 k2
  have p2 := parts_any ai ni capi lo hi w2
  have m2 := ML.made lo hi (hi1.keep k1).1 (hi1.keep k1).2
  obtain ⟨k3, k4⟩ := mk w2 (.slice ai ni capi) (.int .u64 (lo : Int)) (.int .u64 (hi : Int))
  obtain ⟨w3, hw3⟩ : ∃ w3, ((w2.alloc (.cells #[.slice ai ni capi] 22)).alloc (.cells #[.int .u64 (lo : Int)] 23)).alloc (.cells #[.int .u64 (hi : Int)] 23) = w3 := ⟨_, rfl⟩
  rw [hw3] at p2 m2 k3 k4
  have p3 := parts_any ao n cap hi 140737488355328 w3
  have m3 := ML.made hi 140737488355328 ((h1.keep k1).keep k3).1 ((h1.keep k1).keep k3).2
  obtain ⟨k5, k6⟩ := mk w3 (.slice ao n cap) (.int .u64 (hi : Int)) (.int .u64 ((140737488355328 : Nat) : Int))
  obtain ⟨w4, hw4⟩ : ∃ w4, ((w3.alloc (.cells #[.slice ao n cap] 22)).alloc (.cells #[.int .u64 (hi : Int)] 23)).alloc (.cells #[.int .u64 ((140737488355328 : Nat) : Int)] 23) = w4 := ⟨_, rfl⟩
  rw [hw4] at p3 m3 k5 k6
  clear mk hw2 hw3 hw4
  have p1 := W_hid p1
  have p2 := W_hid p2
  have p3 := W_hid p3
  obtain ⟨w5, hw5⟩ : ∃ w5, w4.alloc (.cells #[.func (.func 40) #[] #[.pointer (some ⟨w1.heap.size, 0, none⟩), .pointer (some ⟨w1.heap.size + 1, 0, none⟩), .pointer (some ⟨w1.heap.size + 1 + 1, 0, none⟩)], .func (.func 40) #[] #[.pointer (some ⟨w2.heap.size, 0, none⟩), .pointer (some ⟨w2.heap.size + 1, 0, none⟩), .pointer (some ⟨w2.heap.size + 1 + 1, 0, none⟩)], .func (.func 40) #[] #[.pointer (some ⟨w3.heap.size, 0, none⟩), .pointer (some ⟨w3.heap.size + 1, 0, none⟩), .pointer (some ⟨w3.heap.size + 1 + 1, 0, none⟩)]] 45) = w5 := ⟨_, rfl⟩
  have hV5 : Blk w5 w4.heap.size 45 [.func (.func 40) #[] #[.pointer (some ⟨w1.heap.size, 0, none⟩), .pointer (some ⟨w1.heap.size + 1, 0, none⟩), .pointer (some ⟨w1.heap.size + 1 + 1, 0, none⟩)], .func (.func 40) #[] #[.pointer (some ⟨w2.heap.size, 0, none⟩), .pointer (some ⟨w2.heap.size + 1, 0, none⟩), .pointer (some ⟨w2.heap.size + 1 + 1, 0, none⟩)], .func (.func 40) #[] #[.pointer (some ⟨w3.heap.size, 0, none⟩), .pointer (some ⟨w3.heap.size + 1, 0, none⟩), .pointer (some ⟨w3.heap.size + 1 + 1, 0, none⟩)]] := by rw [← hw5]; exact Blk.new _ _ [_, _, _] rfl
  have k7 : Below w4.heap.size w4 w5 := by rw [← hw5]; exact (Below.refl _ _).alloc (Nat.le_refl _) _
  have hs5 : w5.heap.size = w4.heap.size + 1 := by rw [← hw5]; simp
  have hQ5 : Blk w5 w.heap.size 22 [.slice none 0 0] := (((hQ1.keep k1).keep k3).keep k5).keep k7
  have hb5 : Below w.heap.size w w5 := by
    have a2 := hb1.size; have a3 := k1.size; have a4 := k3.size; have a5 := k5.size
    exact (((hb1.trans (k1.mono (by omega))).trans (k3.mono (by omega))).trans (k5.mono (by omega))).trans (k7.mono (by omega))
  have hr5 := rowOf_blk hQ5
  have hl5 := h.1
  have M1 : MA w.heap.size ao n cap l 0 lo w1.heap.size (w1.heap.size + 1) (w1.heap.size + 1 + 1) w5 := (((m1.keep k3).keep k5).keep k7).ma (by omega) (by omega) (by omega) (fun a e e' => by have := h.2 a e e'; omega) hr5
  have M2 : MA w.heap.size ai ni capi m lo hi w2.heap.size (w2.heap.size + 1) (w2.heap.size + 1 + 1) w5 := ((m2.keep k5).keep k7).ma (by omega) (by omega) (by omega) (fun a e e' => by have := hi'.2 a e e'; omega) hr5
  have M3 : MA w.heap.size ao n cap l hi 140737488355328 w3.heap.size (w3.heap.size + 1) (w3.heap.size + 1 + 1) w5 := (m3.keep k7).ma (by omega) (by omega) (by omega) (fun a e e' => by have := h.2 a e e'; omega) hr5
  have hbq : Hid (w.heap.size < w5.heap.size ∧ w4.heap.size < w5.heap.size ∧ w4.heap.size ≠ w.heap.size) := ⟨by omega, by omega, by omega⟩
  have hG1 := parts_gives w.heap.size ao n cap l 0 lo w1.heap.size (w1.heap.size + 1) (w1.heap.size + 1 + 1)
  have hG2 := parts_gives w.heap.size ai ni capi m lo hi w2.heap.size (w2.heap.size + 1) (w2.heap.size + 1 + 1)
  have hG3 := parts_gives w.heap.size ao n cap l hi 140737488355328 w3.heap.size (w3.heap.size + 1) (w3.heap.size + 1 + 1)
  have L1 : (RG.parts 0 lo l).length ≤ 34359738368 := by rw [parts_len]; exact Nat.le_trans (List.length_filter_le _ _) hl1
  have L2 : (RG.parts lo hi m).length ≤ 34359738368 := by rw [parts_len]; exact Nat.le_trans (List.length_filter_le _ _) hl2
  have L3 : (RG.parts hi 140737488355328 l).length ≤ 34359738368 := by rw [parts_len]; exact Nat.le_trans (List.length_filter_le _ _) hl1
  obtain ⟨X1, hX1⟩ : ∃ X, RG.parts 0 lo l = X := ⟨_, rfl⟩
  obtain ⟨X2, hX2⟩ : ∃ X, RG.parts lo hi m = X := ⟨_, rfl⟩
  obtain ⟨X3, hX3⟩ : ∃ X, RG.parts hi 140737488355328 l = X := ⟨_, rfl⟩
  rw [hX1] at hG1 L1 ⊢
  rw [hX2] at hG2 L2 ⊢
  rw [hX3] at hG3 L3 ⊢
  have hone : Hid (RG.one (X1 ++ X2 ++ X3) = X3.foldl RG.push (X2.foldl RG.push (X1.foldl RG.push []))) := by show _ = _; simp [RG.one]
  replace L1 := W_hid L1
  replace L2 := W_hid L2
  replace L3 := W_hid L3
  have cell5 := W_hid (fun (V : World) (hk : Kp w.heap.size w5 V) => show Blk V w4.heap.size 45 _ from (hk.block _ hbq.out.2.1 hbq.out.2.2 (by rw [hr5]; simp [Value.ownBlock])).trans hV5)
  replace hs1 := W_hid hs1
  replace k2 := W_hid k2
  replace k4 := W_hid k4
  replace k6 := W_hid k6
  replace hs5 := W_hid hs5
  clear hX1 hX2 hX3 m1 m2 m3 h1 hi1 hl5 hQ1
  refine callsIn_of_wp_marks Try.func21 rfl trivial ?_ rfl
  simp only [Try.ntmps21, List.size_toArray, List.length_cons, List.length_nil, Nat.reduceAdd, Nat.reduceSub, Array.replicate_succ, Array.replicate_zero, List.push_toArray, List.append_toArray, List.nil_append, List.cons_append]
  gi_wp2
  refine ⟨trivial, rfl, ?_⟩
  refine (fit_wide p1.out).mono ?_
  rintro e w2' ⟨rfl, rfl⟩
  gi_wp2
  refine ⟨trivial, rfl, ?_⟩
  refine (fit_wide p2.out).mono ?_
  rintro e w3' ⟨rfl, rfl⟩
  gi_wp2
  refine ⟨trivial, rfl, ?_⟩
  refine (fit_wide p3.out).mono ?_
  rintro e w4' ⟨rfl, rfl⟩
  gi_wp2
  refine wpIn_loop_rounds 4 ?_
  rw [roundsIn_succ]
  obtain ⟨c0, c1, c2⟩ : w5.cell? ⟨w4'.heap.size, 0, none⟩ = _ ∧ w5.cell? ⟨w4'.heap.size, 1, none⟩ = _ ∧ w5.cell? ⟨w4'.heap.size, 2, none⟩ = _ := ⟨hV5.cell (j := 0) rfl, hV5.cell (j := 1) rfl, hV5.cell (j := 2) rfl⟩
  have hlen1 : ([] : List Rg).length ≤ 0 := Nat.le_refl _
  gi_wp2
  refine range_gives (gf := 40) rfl enters_parts hG1 M1 (fun V V' _ hk h => h.kp hk) (fun _ => rfl)
    (fun k V => OutB w.heap.size w5.heap.size ((X1.take k).foldl RG.push []) V ∧ Kp w.heap.size w5 V)
    (fun c k V => False)
    (fun k V V' row h hg hr => ⟨h.1.own hg (fun r e => (hr r e).2), h.2.own h.1.rw hg (fun r e => ⟨Nat.le_trans (Nat.le_refl _) (hr r e).1, (hr r e).2⟩)⟩)
    (fun c k V V' row h hg hr => h)
    (fun k V h => h.1.rw) (fun c k V h => h.elim) ⟨⟨_, hQ5, World.ownsRow_nil _ _ _ _⟩, Kp.refl _ _⟩
    (fun m' x a' V => ∃ bx, m' ≤ bx ∧ RB V bx x ∧ RepAct w.heap.size bx x a')
    (fun m' x a' _ V V' row h hg hr => by
      obtain ⟨bx, h1, h3, h5⟩ := h
      exact ⟨bx, h1, Blk.own' h3 hg (fun r e => (hr r e).2), h5⟩)
    ?a1 ?b1 ?d1 ?s1
  case a1 =>
    rintro lq k ⟨f, t, p, s⟩ V K hsz ⟨hO, hB⟩ hK
    have hkp := (Kp.refl w.heap.size V).alloc hO.rw.box.lt (.cells #[.int .u64 (f : Int), .int .u64 (t : Int), .int .i64 p, .int .i64 s] 25)
    have hKn := fun a' ha' => hK a' _ hkp ⟨hO.own (World.grownBy_alloc _ _ none) (fun r e => by cases e), hB.then hkp⟩ ⟨V.heap.size, Nat.le_refl _, Blk.new _ _ _ rfl, ha'⟩
    replace hKn := W_hid hKn
    simp only [ra]
    gi_wp2
    exact hKn.out _ ⟨_, _, _, _, _, _, _, _, _, _, _, _, _, _, _, _, _, _, _, _, _, _, _, _, _, _, _, _, _, _, _, _, _, _, _, _, _, _, _, _, _, _, _, _, _, _, _, _, _, _, _, _, _, _, rfl⟩
  case b1 =>
    rintro lq k x a' m' V hx hm hmV ⟨hO, hB⟩ ⟨bx, hbx, hX, ha⟩
    have hkl : k < X1.length := (List.getElem?_eq_some_iff.1 hx).1
    have hll : ((X1.take k).foldl RG.push []).length ≤ 137438953472 := by
      have h1 := push_len (X1.take k) []
      have h2 := L1.out
      have h3 := List.length_take_le k X1
      have h4 := hlen1
      omega
    refine wpIn_mono (rep_round _ (by kernel_rfl) lq m' w.heap.size w5.heap.size bx V _ x a' ha hO hX hbx hmV hbq.out.1 hll hB.size) ?_
    rintro e a3 W3 hp
    cases e with
    | normal => exact ⟨hp.1, by rw [push_take _ _ k x hx]; exact hp.2, hB.then' hp.1 hm⟩
    | ret => exact hp.elim
    | exit id => exact hp.elim
    | goto t => exact hp.elim
    | panic c => exact hp.elim
    | outgrown => exact hp.elim
  case s1 =>
    rintro D c k V hD hlt h hK
    exact h.elim
  rintro D1 V1 hD1 ⟨hO1, hk1⟩ hkp1 hK1
  rw [List.take_length] at hO1
  have hlen2 : (X1.foldl RG.push []).length ≤ 34359738368 := by
    have h1 := push_len X1 []
    have h2 := L1.out
    simp only [List.length_nil] at h1
    omega
  have hbV := cell5.out V1 hk1
  have d0 := hbV.cell (j := 0) rfl
  have d1 := hbV.cell (j := 1) rfl
  have d2 := hbV.cell (j := 2) rfl
  have MV2 := M2.kp hk1
  replace hlen2 := W_hid hlen2
  gi_wp2
  rw [roundsIn_succ]
  gi_wp2
  refine range_gives (gf := 40) rfl enters_parts hG2 MV2 (fun V V' _ hk h => h.kp hk) (fun _ => rfl)
    (fun k V => OutB w.heap.size w5.heap.size ((X2.take k).foldl RG.push (X1.foldl RG.push [])) V ∧ Kp w.heap.size w5 V)
    (fun c k V => False)
    (fun k V V' row h hg hr => ⟨h.1.own hg (fun r e => (hr r e).2), h.2.own h.1.rw hg (fun r e => ⟨Nat.le_trans hk1.size (hr r e).1, (hr r e).2⟩)⟩)
    (fun c k V V' row h hg hr => h)
    (fun k V h => h.1.rw) (fun c k V h => h.elim) ⟨hO1, hk1⟩
    (fun m' x a' V => ∃ bx, m' ≤ bx ∧ RB V bx x ∧ RepAct w.heap.size bx x a')
    (fun m' x a' _ V V' row h hg hr => by
      obtain ⟨bx, h1, h3, h5⟩ := h
      exact ⟨bx, h1, Blk.own' h3 hg (fun r e => (hr r e).2), h5⟩)
    ?a2 ?b2 ?d2 ?s2
  case a2 =>
    rintro lq k ⟨f, t, p, s⟩ V K hsz ⟨hO, hB⟩ hK
    have hkp := (Kp.refl w.heap.size V).alloc hO.rw.box.lt (.cells #[.int .u64 (f : Int), .int .u64 (t : Int), .int .i64 p, .int .i64 s] 25)
    have hKn := fun a' ha' => hK a' _ hkp ⟨hO.own (World.grownBy_alloc _ _ none) (fun r e => by cases e), hB.then hkp⟩ ⟨V.heap.size, Nat.le_refl _, Blk.new _ _ _ rfl, ha'⟩
    replace hKn := W_hid hKn
    simp only [ra]
    gi_wp2
    exact hKn.out _ ⟨_, _, _, _, _, _, _, _, _, _, _, _, _, _, _, _, _, _, _, _, _, _, _, _, _, _, _, _, _, _, _, _, _, _, _, _, _, _, _, _, _, _, _, _, _, _, _, _, _, _, _, _, _, _, rfl⟩
  case b2 =>
    rintro lq k x a' m' V hx hm hmV ⟨hO, hB⟩ ⟨bx, hbx, hX, ha⟩
    have hkl : k < X2.length := (List.getElem?_eq_some_iff.1 hx).1
    have hll : ((X2.take k).foldl RG.push (X1.foldl RG.push [])).length ≤ 137438953472 := by
      have h1 := push_len (X2.take k) (X1.foldl RG.push [])
      have h2 := L2.out
      have h3 := List.length_take_le k X2
      have h4 := hlen2.out
      omega
    refine wpIn_mono (rep_round _ (by kernel_rfl) lq m' w.heap.size w5.heap.size bx V _ x a' ha hO hX hbx hmV hbq.out.1 hll hB.size) ?_
    rintro e a3 W3 hp
    cases e with
    | normal => exact ⟨hp.1, by rw [push_take _ _ k x hx]; exact hp.2, hB.then' hp.1 (Nat.le_trans hk1.size hm)⟩
    | ret => exact hp.elim
    | exit id => exact hp.elim
    | goto t => exact hp.elim
    | panic c => exact hp.elim
    | outgrown => exact hp.elim
  case s2 =>
    rintro D c k V hD hlt h hK
    exact h.elim
  rintro D2 V2 hD2 ⟨hO2, hk2⟩ hkp2 hK2
  rw [List.take_length] at hO2
  have hlen3 : (X2.foldl RG.push (X1.foldl RG.push [])).length ≤ 68719476736 := by
    have h1 := push_len X2 (X1.foldl RG.push [])
    have h2 := L2.out
    have h3 := hlen2.out
    omega
  have hbV2 := cell5.out V2 hk2
  have e0 := hbV2.cell (j := 0) rfl
  have e1 := hbV2.cell (j := 1) rfl
  have e2 := hbV2.cell (j := 2) rfl
  have MV3 := M3.kp hk2
  have hK12 := (hkp2.keeps hO1.rw 0).same D1 _ (Nat.zero_le _) hK1 rfl
  replace hlen3 := W_hid hlen3
  gi_wp2
  rw [roundsIn_succ]
  gi_wp2
  refine range_gives (gf := 40) rfl enters_parts hG3 MV3 (fun V V' _ hk h => h.kp hk) (fun _ => rfl)
    (fun k V => OutB w.heap.size w5.heap.size ((X3.take k).foldl RG.push (X2.foldl RG.push (X1.foldl RG.push []))) V ∧ Kp w.heap.size w5 V)
    (fun c k V => False)
    (fun k V V' row h hg hr => ⟨h.1.own hg (fun r e => (hr r e).2), h.2.own h.1.rw hg (fun r e => ⟨Nat.le_trans hk2.size (hr r e).1, (hr r e).2⟩)⟩)
    (fun c k V V' row h hg hr => h)
    (fun k V h => h.1.rw) (fun c k V h => h.elim) ⟨hO2, hk2⟩
    (fun m' x a' V => ∃ bx, m' ≤ bx ∧ RB V bx x ∧ RepAct w.heap.size bx x a')
    (fun m' x a' _ V V' row h hg hr => by
      obtain ⟨bx, h1, h3, h5⟩ := h
      exact ⟨bx, h1, Blk.own' h3 hg (fun r e => (hr r e).2), h5⟩)
    ?a3 ?b3 ?d3 ?s3
  case a3 =>
    rintro lq k ⟨f, t, p, s⟩ V K hsz ⟨hO, hB⟩ hK
    have hkp := (Kp.refl w.heap.size V).alloc hO.rw.box.lt (.cells #[.int .u64 (f : Int), .int .u64 (t : Int), .int .i64 p, .int .i64 s] 25)
    have hKn := fun a' ha' => hK a' _ hkp ⟨hO.own (World.grownBy_alloc _ _ none) (fun r e => by cases e), hB.then hkp⟩ ⟨V.heap.size, Nat.le_refl _, Blk.new _ _ _ rfl, ha'⟩
    replace hKn := W_hid hKn
    simp only [ra]
    gi_wp2
    exact hKn.out _ ⟨_, _, _, _, _, _, _, _, _, _, _, _, _, _, _, _, _, _, _, _, _, _, _, _, _, _, _, _, _, _, _, _, _, _, _, _, _, _, _, _, _, _, _, _, _, _, _, _, _, _, _, _, _, _, rfl⟩
  case b3 =>
    rintro lq k x a' m' V hx hm hmV ⟨hO, hB⟩ ⟨bx, hbx, hX, ha⟩
    have hkl : k < X3.length := (List.getElem?_eq_some_iff.1 hx).1
    have hll : ((X3.take k).foldl RG.push (X2.foldl RG.push (X1.foldl RG.push []))).length ≤ 137438953472 := by
      have h1 := push_len (X3.take k) (X2.foldl RG.push (X1.foldl RG.push []))
      have h2 := L3.out
      have h3 := List.length_take_le k X3
      have h4 := hlen3.out
      omega
    refine wpIn_mono (rep_round _ (by kernel_rfl) lq m' w.heap.size w5.heap.size bx V _ x a' ha hO hX hbx hmV hbq.out.1 hll hB.size) ?_
    rintro e a3 W3 hp
    cases e with
    | normal => exact ⟨hp.1, by rw [push_take _ _ k x hx]; exact hp.2, hB.then' hp.1 (Nat.le_trans hk2.size hm)⟩
    | ret => exact hp.elim
    | exit id => exact hp.elim
    | goto t => exact hp.elim
    | panic c => exact hp.elim
    | outgrown => exact hp.elim
  case s3 =>
    rintro D c k V hD hlt h hK
    exact h.elim
  rintro D3 V3 hD3 ⟨hO3, hk3⟩ hkp3 hK3
  rw [List.take_length] at hO3
  have hK13 := (hkp3.keeps hO2.rw 0).same D1 _ (Nat.zero_le _) hK12 rfl
  have hK23 := (hkp3.keeps hO2.rw 0).same D2 _ (Nat.zero_le _) hK2 rfl
  obtain ⟨v, hv, hrow⟩ := hO3
  have hcv := hv.cell (j := 0) rfl
  obtain ⟨va, vc, rfl⟩ := Own.form hrow
  gi_wp2
  rw [roundsIn_succ]
  gi_wp2
  have hb3 : Below w.heap.size w V3 := hb5.trans (hk3.toBelow hb5.size (Nat.le_refl _) (fun g hg => by rw [hr5] at hg; cases hg))
  have n1 : D1 < V1.heap.size := (Array.getElem?_eq_some_iff.1 hK1).1
  have n2 : D2 < V2.heap.size := (Array.getElem?_eq_some_iff.1 hK2).1
  have n0 := hb5.size
  have q3 := hrow
  refine ⟨by simp, .inl ⟨_, _, rfl, run_takeDeferred hK3, ?_⟩⟩
  have j2 : ∀ o, (V3.putObj D3 o).heap[D2]? = some (.deferred (some [])) := fun o => (World.putObj_heap_other (by omega)).trans hK23
  have j1 : ∀ o o', ((V3.putObj D3 o).putObj D2 o').heap[D1]? = some (.deferred (some [])) := fun o o' => (World.putObj_heap_other (by omega)).trans ((World.putObj_heap_other (by omega)).trans hK13)
  refine ⟨by simp, .inl ⟨_, _, rfl, run_takeDeferred (j2 _), ?_⟩⟩
  refine ⟨by simp, .inl ⟨_, _, rfl, run_takeDeferred (j1 _ _), ?_⟩⟩
  refine ⟨_, results_tmp rfl _ _ _, .slice va (List.foldl RG.push (List.foldl RG.push (List.foldl RG.push [] X1) X2) X3).length vc, rfl, ?_, Below.putD (Below.putD (Below.putD hb3 (by omega) hK3) (by omega) (j2 _)) (by omega) (j1 _ _)⟩
  rw [hone.out]
  exact Own.low (by omega) (own_putD (own_putD (own_putD hrow hK3) (j2 _)) (j1 _ _))
end Go.Proofs.Ytfbhcnamkojboaa

/- Stage 18, plain: threads that each add a number once. -/
import Derived.Test.YtjafjjfcmcpaoaaMmMath
namespace Go.Proofs.Ytjafjjfcmcpaoaa
open Go.ChangeShapes Go.WideShapes Go.ChangeAt Go.RowKit
set_option linter.unusedVariables false
set_option linter.unusedSimpArgs false
namespace MC

def addP' (n : Int) : List In := [⟨1, 0, n, 0, 1⟩, ⟨5, 0, 1, 0, 2⟩]
/-- Two numbers are the same word. -/
def Eqw (x y : Int) : Prop := ∃ k : Int, x = y + k * 18446744073709551616
theorem wr_eqw (x : Int) : Eqw (wr x) x := by
  unfold wr Eqw
  simp only [IntKind.wrap, IntKind.signed, IntKind.bits]
  have h1 := Int.emod_add_mul_ediv x (2 ^ 64)
  have key : ∀ b : Bool, ∃ k : Int, (if b = true then x % 2 ^ 64 - 2 ^ 64 else x % 2 ^ 64) = x + k * 18446744073709551616 := by
    intro b
    cases b with
    | true => exact ⟨-(x / 2 ^ 64) - 1, by simp only [if_true]; omega⟩
    | false => exact ⟨-(x / 2 ^ 64), by simp only [Bool.false_eq_true, if_false]; omega⟩
  exact key _
theorem eqw_i64 {x y : Int} (h : Eqw x y) (hx : I64 x) (hy : I64 y) : x = y := by
  obtain ⟨k, hk⟩ := h
  unfold I64 at hx hy
  omega
theorem Eqw.add {a b c d : Int} (h : Eqw a b) (k : Eqw c d) : Eqw (a + c) (b + d) := by
  obtain ⟨x, rfl⟩ := h
  obtain ⟨y, rfl⟩ := k
  exact ⟨x + y, by rw [Int.add_mul]; omega⟩
theorem Eqw.refl (a : Int) : Eqw a a := ⟨0, by simp⟩
theorem Eqw.symm {a b : Int} (h : Eqw a b) : Eqw b a := by
  obtain ⟨x, rfl⟩ := h
  exact ⟨-x, by rw [Int.neg_mul]; omega⟩
theorem Eqw.trans {a b c : Int} (h : Eqw a b) (k : Eqw b c) : Eqw a c := by
  obtain ⟨x, rfl⟩ := h
  obtain ⟨y, rfl⟩ := k
  exact ⟨x + y, by rw [Int.add_mul]; omega⟩
/-- A thread that adds n: how far it is, and what it has added. -/
def Ad (n : Int) (t : Th) : Prop := t.p = addP' n ∧ t.r.length = 8 ∧ (t.pc = 0 ∨ (t.pc = 1 ∧ t.r.getD 1 0 = n) ∨ t.pc = 2)
def left (t : Th) : Nat := 2 - t.pc.toNat
def done (n : Int) (t : Th) : Int := if t.pc = 2 then n else 0
theorem ad_on {n : Int} {t : Th} (h : Ad n t) : on t = decide (t.pc ≠ 2) := by
  unfold on
  rw [h.1]
  rcases h.2.2 with h | ⟨h, -⟩ | h <;> rw [h] <;> rfl
/-- What its step does. -/
theorem ad_does {n : Int} {t : Th} {c : List Int} (h : Ad n t) (ho : on t = true) (hc : c.length = 3) :
    Ad n (does c t).2 ∧ left (does c t).2 + 1 = left t ∧ (does c t).1.length = 3 ∧ (does c t).1.getD 1 0 = c.getD 1 0 ∧ Eqw ((does c t).1.getD 0 0 + done n t) (c.getD 0 0 + done n (does c t).2) := by
  obtain ⟨p, r, pc⟩ := t
  obtain ⟨h1, h2, h3⟩ := h
  simp only at h1 h2 h3
  subst h1
  obtain ⟨c0, c1, c2, rfl⟩ : ∃ c0 c1 c2, c = [c0, c1, c2] := by
    match c, hc with
    | [c0, c1, c2], _ => exact ⟨c0, c1, c2, rfl⟩
  obtain ⟨r0, r1, r2, r3, r4, r5, r6, r7, rfl⟩ : ∃ r0 r1 r2 r3 r4 r5 r6 r7, r = [r0, r1, r2, r3, r4, r5, r6, r7] := by
    match r, h2 with
    | [r0, r1, r2, r3, r4, r5, r6, r7], _ => exact ⟨r0, r1, r2, r3, r4, r5, r6, r7, rfl⟩
  rcases h3 with rfl | ⟨rfl, hr⟩ | rfl
  · have e : does [c0, c1, c2] ⟨addP' n, [r0, r1, r2, r3, r4, r5, r6, r7], 0⟩ = ([c0, c1, c2], ⟨addP' n, [r0, n, r2, r3, r4, r5, r6, r7], 1⟩) := by
      simp [does, addP', run1, snd, isR]
    rw [e]
    exact ⟨⟨rfl, rfl, .inr (.inl ⟨rfl, rfl⟩)⟩, rfl, rfl, rfl, Eqw.refl _⟩
  · have hr1 : r1 = n := hr
    have e : does [c0, c1, c2] ⟨addP' n, [r0, r1, r2, r3, r4, r5, r6, r7], 1⟩ = ([wr (c0 + r1), c1, c2], ⟨addP' n, [r0, r1, c0, r3, r4, r5, r6, r7], 2⟩) := by
      simp [does, addP', run1, snd, isR, hasC, gt]
    rw [e]
    refine ⟨⟨rfl, rfl, .inr (.inr rfl)⟩, rfl, rfl, rfl, ?_⟩
    simp only [List.getD_cons_zero, done]
    rw [if_neg (by decide), if_pos trivial, Int.add_zero, hr1]
    exact wr_eqw _
  · exfalso
    simp [on, addP'] at ho
/-- The sum of what threads say. -/
def sm (f : Int → Th → Int) : List Int → List Th → Int
  | n :: l, t :: L => f n t + sm f l L
  | _, _ => 0
def lf : List Th → Nat
  | [] => 0
  | t :: L => left t + lf L
theorem sm_set {f : Int → Th → Int} : ∀ {l : List Int} {L : List Th} {i : Nat} {t u : Th} {n : Int}, l[i]? = some n → L[i]? = some t → sm f l (L.set i u) + f n t = sm f l L + f n u
  | [], _, _, _, _, _, h, _ => by simp at h
  | _ :: _, [], _, _, _, _, _, h => by simp at h
  | a :: l, b :: L, 0, t, u, n, h, k => by
    simp only [List.getElem?_cons_zero, Option.some.injEq] at h k
    subst h k
    simp only [List.set_cons_zero, sm]; omega
  | a :: l, b :: L, i + 1, t, u, n, h, k => by
    simp only [List.getElem?_cons_succ] at h k
    have := sm_set (f := f) (u := u) h k
    simp only [List.set_cons_succ, sm]; omega
theorem lf_set : ∀ {L : List Th} {i : Nat} {t u : Th}, L[i]? = some t → lf (L.set i u) + left t = lf L + left u
  | [], _, _, _, h => by simp at h
  | b :: L, 0, t, u, k => by
    simp only [List.getElem?_cons_zero, Option.some.injEq] at k
    subst k
    simp only [List.set_cons_zero, lf]; omega
  | b :: L, i + 1, t, u, k => by
    simp only [List.getElem?_cons_succ] at k
    have := lf_set (u := u) k
    simp only [List.set_cons_succ, lf]; omega
/-- All threads add, each its number. -/
structure Sums (l : List Int) (S : Ma) : Prop where
  len : S.t.length = l.length
  ad : ∀ (i : Nat) (n : Int) (t : Th), l[i]? = some n → S.t[i]? = some t → Ad n t
  c3 : S.c.length = 3
  c1 : S.c.getD 1 0 = 0
  sum : Eqw (S.c.getD 0 0) (sm done l S.t)
theorem Sums.step {l : List Int} {S : Ma} (h : Sums l S) {q : Int} {i : Nat} (hi : pick S q = some i) : Sums l (step S i) ∧ lf (MC.step S i).t + 1 = lf S.t := by
  obtain ⟨t, ht, ho⟩ := pick_mem hi
  have hil := (List.getElem?_eq_some_iff.1 ht).1
  obtain ⟨n, hn⟩ : ∃ n, l[i]? = some n := ⟨_, List.getElem?_eq_getElem (by rw [← h.len]; exact hil)⟩
  have hd := ad_does (h.ad i n t hn ht) ho h.c3
  have e : MC.step S i = ⟨(does S.c t).1, S.t.set i (does S.c t).2⟩ := by unfold MC.step; rw [ht]
  rw [e]
  refine ⟨⟨by rw [List.length_set]; exact h.len, fun j m u hm hu => ?_, hd.2.2.1, hd.2.2.2.1.trans h.c1, ?_⟩, ?_⟩
  · by_cases hj : i = j
    · subst hj
      rw [List.getElem?_set_self hil] at hu
      cases hu
      rw [hn] at hm
      cases hm
      exact hd.1
    · rw [List.getElem?_set_ne hj] at hu
      exact h.ad j m u hm hu
  · have h1 := sm_set (f := done) (u := (does S.c t).2) hn ht
    have h2 := hd.2.2.2.2
    have h3 := h.sum
    obtain ⟨x, hx⟩ := h2
    obtain ⟨y, hy⟩ := h3
    simp only
    exact ⟨x + y, by rw [Int.add_mul]; omega⟩
  · have h1 := lf_set (u := (does S.c t).2) ht
    have h2 := hd.2.1
    simp only
    omega
theorem Sums.one {l : List Int} {S : Ma} (h : Sums l S) (q : Int) : Sums l (one S q).1 ∧ lf (MC.one S q).1.t ≤ lf S.t - 1 := by
  unfold MC.one
  rcases e : pick S q with _ | i
  · refine ⟨h, ?_⟩
    simp only
    have hz : live S.t = [] := by
      rcases Nat.eq_zero_or_pos (live S.t).length with h0 | h0
      · exact List.eq_nil_of_length_eq_zero h0
      · obtain ⟨i, hi, -⟩ := pick_some (q := q) h0
        rw [e] at hi; cases hi
    have key : ∀ (l : List Int) (L : List Th), L.length = l.length → (∀ (i : Nat) (n : Int) (t : Th), l[i]? = some n → L[i]? = some t → Ad n t) → (∀ t ∈ L, on t = false) → lf L = 0 := by
      intro l L
      induction L generalizing l with
      | nil => intros; rfl
      | cons t L ih =>
        intro hl had hon
        match l, hl with
        | n :: l, hl =>
          have h1 := had 0 n t rfl rfl
          have h2 := ad_on h1
          rw [hon t (by simp)] at h2
          have h3 : t.pc = 2 := by
            have := h2.symm
            simpa using this
          have h4 := ih l (by simpa using hl) (fun i m u hm hu => had (i + 1) m u hm hu) (fun u hu => hon u (by simp [hu]))
          simp only [lf, left, h3, h4]
          rfl
    have : lf S.t = 0 := key l S.t h.len h.ad fun t ht => by
      obtain ⟨j, hj, rfl⟩ := List.getElem_of_mem ht
      cases e2 : on S.t[j] with
      | false => rfl
      | true =>
        have : j ∈ live S.t := live_mem.2 ⟨_, List.getElem?_eq_getElem hj, e2⟩
        rw [hz] at this
        cases this
    omega
  · have := h.step e
    exact ⟨this.1, by simp only; omega⟩
/-- Who has nothing left has ended, and all is summed. -/
theorem Sums.all {l : List Int} {S : Ma} (h : Sums l S) (h0 : lf S.t = 0) : live S.t = [] ∧ Eqw (S.c.getD 0 0) l.sum := by
  have key : ∀ (l : List Int) (L : List Th), L.length = l.length → (∀ (i : Nat) (n : Int) (t : Th), l[i]? = some n → L[i]? = some t → Ad n t) → lf L = 0 → (∀ t ∈ L, on t = false) ∧ sm done l L = l.sum := by
    intro l L
    induction L generalizing l with
    | nil =>
      intro hl _ _
      obtain rfl : l = [] := List.eq_nil_of_length_eq_zero hl.symm
      exact ⟨fun t ht => by simp at ht, rfl⟩
    | cons t L ih =>
      intro hl had hlf
      match l, hl with
      | n :: l, hl =>
        simp only [lf] at hlf
        have h1 := had 0 n t rfl rfl
        have h2 : t.pc = 2 := by
          have : left t = 0 := by omega
          unfold left at this
          rcases h1.2.2 with h | ⟨h, -⟩ | h
          · rw [h] at this; cases this
          · rw [h] at this; cases this
          · exact h
        have h4 := ih l (by simpa using hl) (fun i m u hm hu => had (i + 1) m u hm hu) (by omega)
        refine ⟨fun u hu => ?_, ?_⟩
        · rcases List.mem_cons.1 hu with rfl | hu
          · rw [ad_on h1, h2]; rfl
          · exact h4.1 u hu
        · simp only [sm, done, h2, List.sum_cons, h4.2, if_true]
  have hk := key l S.t h.len h.ad h0
  refine ⟨?_, ?_⟩
  · rw [List.eq_nil_iff_forall_not_mem]
    intro i hi
    obtain ⟨t, ht, ho⟩ := live_mem.1 hi
    rw [hk.1 t (List.mem_of_getElem? ht)] at ho
    cases ho
  · rw [← hk.2]; exact h.sum
theorem lf_le : ∀ (L : List Th), lf L ≤ 2 * L.length
  | [] => by simp [lf]
  | t :: L => by
    have := lf_le L
    simp only [lf, left, List.length_cons]
    omega
theorem sums_new (l : List Int) : Sums l (new 3 (l.map addP')) := by
  refine ⟨by simp [new], fun i n t hn ht => ?_, rfl, rfl, ?_⟩
  · simp only [new, List.map_map, List.getElem?_map, hn, Option.map_some, Option.some.injEq, Function.comp_apply] at ht
    subst ht
    exact ⟨rfl, rfl, .inl rfl⟩
  · have : sm done l (new 3 (l.map addP')).t = 0 := by
      simp only [new, List.map_map]
      induction l with
      | nil => rfl
      | cons n l ih => simp only [List.map_cons, sm, ih, done, Function.comp_apply]; rfl
    rw [this]
    exact Eqw.refl _
/-- The running sum, in words. -/
def ws : List Int → Int := List.foldl (fun a x => wr (a + x)) 0
theorem ws_eqw (l : List Int) : Eqw (ws l) l.sum := by
  have key : ∀ (l : List Int) (a b : Int), Eqw a b → Eqw (l.foldl (fun a x => wr (a + x)) a) (b + l.sum) := by
    intro l
    induction l with
    | nil => intro a b h; simpa using h
    | cons x l ih =>
      intro a b h
      rw [List.foldl_cons, List.sum_cons, ← Int.add_assoc]
      exact ih _ _ ((wr_eqw _).trans (h.add (Eqw.refl x)))
  have := key l 0 0 (Eqw.refl 0)
  rwa [Int.zero_add] at this
theorem ws_snoc (l : List Int) (x : Int) : ws (l ++ [x]) = wr (ws l + x) := by simp [ws]
theorem ws_i64 (l : List Int) : I64 (ws l) := by
  rcases List.eq_nil_or_concat l with rfl | ⟨m, x, rfl⟩
  · exact ⟨by decide, by decide⟩
  · rw [List.concat_eq_append, ws_snoc]; exact wr_i64 _
end MC
end Go.Proofs.Ytjafjjfcmcpaoaa

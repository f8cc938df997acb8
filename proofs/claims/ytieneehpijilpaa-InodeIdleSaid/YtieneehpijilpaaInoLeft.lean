/- What any call of a store leaves. -/
import Derived.Test.YtieneehpijilpaaInoOpen
namespace Go.Proofs.Ytieneehpijilpaa
open Go.ChangeShapes Go.WideShapes Go.ChangeAt Go.RowKit
open Go.ChangeMaps (open_string shut_string)
set_option linter.unusedVariables false
set_option linter.unusedSimpArgs false

namespace IN
theorem kind9 (k : Int) : ((((k.tmod 9) + 9).tmod 9) = 0 ∨ (((k.tmod 9) + 9).tmod 9) = 1 ∨ (((k.tmod 9) + 9).tmod 9) = 2 ∨ (((k.tmod 9) + 9).tmod 9) = 3 ∨ (((k.tmod 9) + 9).tmod 9) = 4 ∨ (((k.tmod 9) + 9).tmod 9) = 5 ∨ (((k.tmod 9) + 9).tmod 9) = 6 ∨ (((k.tmod 9) + 9).tmod 9) = 7 ∨ (((k.tmod 9) + 9).tmod 9) = 8) ∧ -8 ≤ k.tmod 9 ∧ k.tmod 9 ≤ 8 := by
  have h1 := Int.tmod_lt_of_pos k (show (0 : Int) < 9 by decide)
  have h2 : -9 < k.tmod 9 := by
    have := Int.lt_tmod_of_pos k (show (0 : Int) < 9 by decide)
    omega
  obtain ⟨t, ht⟩ : ∃ t, k.tmod 9 = t := ⟨_, rfl⟩
  rw [ht] at h1 h2 ⊢
  have : t = -8 ∨ t = -7 ∨ t = -6 ∨ t = -5 ∨ t = -4 ∨ t = -3 ∨ t = -2 ∨ t = -1 ∨ t = 0 ∨ t = 1 ∨ t = 2 ∨ t = 3 ∨ t = 4 ∨ t = 5 ∨ t = 6 ∨ t = 7 ∨ t = 8 := by omega
  rcases this with rfl | rfl | rfl | rfl | rfl | rfl | rfl | rfl | rfl | rfl | rfl | rfl | rfl | rfl | rfl | rfl | rfl <;> decide
theorem own_keeps {w w' : World} {base n : Nat} {v : Value} {xs : List Value} {B : Nat} (h : w.ownsRow base 41 6 v n xs) (hK : Keeps B PT w w') : w'.ownsRow base 41 6 v n xs := by
  rcases h.2 with h0 | ⟨g, cap, cur, h1, h2, h3, h4⟩
  · exact ⟨h.1, .inl h0⟩
  · exact ⟨h.1, .inr ⟨g, cap, cur, h1, h2, hK.block _ _ h3 (by simp [PT]), h4⟩⟩

/-- What any call leaves: an answer r, the store; it has turned only if r is 0. -/
def Left (base sg mb I L B k : Nat) (S : Int → Option Nd) (w : World) (r : Int) (w' : World) : Prop := ∃ S' M', PS base w' sg mb M' I L B k S' ∧ Keeps base PT w w' ∧ (r ≠ 0 → S' = S)
section
variable {base sg mb I L B k : Nat} {M : Int → Option Nat} {S : Int → Option Nd} {w : World}
theorem left_out {k' : Nat} {r : Int} {S' : Int → Option Nd} (hk : k ≤ k') (hr : r ≠ 0 → S' = S) {e : Ending} {w' : World} (h : Out base sg mb I L B k w r S' e w') : e = .returned (.int .i64 r) ∧ Left base sg mb I L B k' S w r w' := by
  obtain ⟨h1, ⟨M', h2⟩, h3⟩ := h
  exact ⟨h1, S', M', h2.more hk, h3, hr⟩
theorem left_same {k' : Nat} (h : PS base w sg mb M I L B k S) (hk : k ≤ k') (r : Int) {w' : World} (hb : Below w.heap.size w w') : Left base sg mb I L B k' S w r w' := ⟨S, M, (h.keep hb).more hk, Keeps.new hb h.low, fun _ => rfl⟩
theorem ask_ne {S S' : Int → Option Nd} {n : Int} {f : Nd → Int} (h0 : S n = none → S' = S) (h1 : ∀ d, S n = some d → f d ≠ 0 → S' = S) : askR S n f ≠ 0 → S' = S := by
  unfold askR
  cases hS : S n with
  | none => exact fun _ => h0 hS
  | some d => exact h1 d hS
theorem lk_ne (L n : Int) : lkR L S n ≠ 0 → lkS L S n = S := ask_ne (fun h => by simp [lkS, h]) (fun d h hr => by
  have : ¬ d.links < L := fun e => hr (if_pos e)
  simp [lkS, h, this])
theorem ul_ne (n : Int) : ulR S n ≠ 0 → ulS S n = S := ask_ne (fun h => by simp [ulS, h]) (fun d h hr => by
  have : ¬ 0 < d.links := fun e => hr (if_pos e)
  simp [ulS, h, this])
theorem op_ne (n : Int) : opR S n ≠ 0 → opS S n = S := ask_ne (fun h => by simp [opS, h]) (fun d h hr => absurd rfl hr)
theorem cl_ne (n : Int) : clR S n ≠ 0 → clS S n = S := ask_ne (fun h => by simp [clS, h]) (fun d h hr => by
  have : ¬ 0 < d.opens := fun e => hr (if_pos e)
  simp [clS, h, this])
theorem wr_ne (I B : Nat) (n f : Int) (s : ByteArray) : wrErr I B S n f s ≠ 0 → wrS I B S n f s = S := ask_ne (fun h => by simp [wrS, h]) (fun d h hr => by
  unfold wrS
  rw [h]
  simp only
  rw [if_neg]
  rintro ⟨q0, q1, q2⟩
  exact hr (by rw [if_pos q0, if_pos q1, if_pos q2]))
theorem t_ne (n s : Int) : tErr S n s ≠ 0 → tS S n s = S := ask_ne (fun h => by simp [tS, h]) (fun d h hr => by
  unfold tS
  rw [h]
  simp only
  rw [if_neg]
  rintro ⟨q0, q1, q2⟩
  exact hr (by rw [if_pos q0, if_neg (by omega), if_neg (by omega)]))

/-- Any call that answers an error alone. -/
def LeftE (base sg mb I L B k : Nat) (S : Int → Option Nd) (w : World) (e : Ending) (w' : World) : Prop := ∃ r, e = .returned (.int .i64 r) ∧ Left base sg mb I L B k S w r w'
/-- Any call that answers something, and an error. -/
def LeftV (base sg mb I L B k : Nat) (S : Int → Option Nd) (w : World) (e : Ending) (w' : World) : Prop := ∃ v r, e = .returned (.tuple #[v, .int .i64 r]) ∧ Left base sg mb I L B k S w r w'
theorem Link_left (n : Int) (h : PS base w sg mb M I L B k S) (hn : IS.I64 n) : Calls Try.prog 17 #[.pointer (some ⟨sg, 0, none⟩), .int .i64 n] w (LeftE base sg mb I L B (k + 1) S w) :=
  (Link_any n w h hn).mono fun e w' h' => ⟨_, left_out (Nat.le_succ _) (lk_ne _ n) h'⟩
theorem Unlink_left (n : Int) (h : PS base w sg mb M I L B k S) (hn : IS.I64 n) (hk : k < 1000000) : Calls Try.prog 18 #[.pointer (some ⟨sg, 0, none⟩), .int .i64 n] w (LeftE base sg mb I L B (k + 1) S w) :=
  (Unlink_any n w h hn hk).mono fun e w' h' => ⟨_, left_out (Nat.le_succ _) (ul_ne n) h'⟩
theorem Open_left (n : Int) (h : PS base w sg mb M I L B k S) (hn : IS.I64 n) (hk : k < 1000000) : Calls Try.prog 19 #[.pointer (some ⟨sg, 0, none⟩), .int .i64 n] w (LeftE base sg mb I L B (k + 1) S w) :=
  (Open_any n w h hn hk).mono fun e w' h' => ⟨_, left_out (Nat.le_refl _) (op_ne n) h'⟩
theorem Close_left (n : Int) (h : PS base w sg mb M I L B k S) (hn : IS.I64 n) (hk : k < 1000000) : Calls Try.prog 20 #[.pointer (some ⟨sg, 0, none⟩), .int .i64 n] w (LeftE base sg mb I L B (k + 1) S w) :=
  (Close_any n w h hn hk).mono fun e w' h' => ⟨_, left_out (Nat.le_succ _) (cl_ne n) h'⟩
theorem Write_left (n f : Int) (s : ByteArray) (h : PS base w sg mb M I L B k S) (hn : IS.I64 n) (hf : I64 f) (hs : s.size ≤ maxLen) : Calls Try.prog 22 #[.pointer (some ⟨sg, 0, none⟩), .int .i64 n, .int .i64 f, .string s] w (LeftE base sg mb I L B (k + 1) S w) :=
  (IN.Write_any n f s w h hn hf hs).mono fun e w' h' => ⟨_, left_out (Nat.le_succ _) (wr_ne _ _ n f s) h'⟩
theorem Trunc_left (n s : Int) (h : PS base w sg mb M I L B k S) (hn : IS.I64 n) (hs : I64 s) : Calls Try.prog 23 #[.pointer (some ⟨sg, 0, none⟩), .int .i64 n, .int .i64 s] w (LeftE base sg mb I L B (k + 1) S w) :=
  (Trunc_any n s w h hn hs).mono fun e w' h' => ⟨_, left_out (Nat.le_succ _) (t_ne n s) h'⟩
theorem Make_left (kd : Int) (h : PS base w sg mb M I L B k S) (hL : 1 ≤ L) : Calls Try.prog 16 #[.pointer (some ⟨sg, 0, none⟩), .int .i64 kd] w (LeftV base sg mb I L B (k + 1) S w) := by
  by_cases hr : mkR I S kd = 0
  · have hl : (lst S I).length < I := by
      unfold mkR at hr
      by_cases e : kd = 1 ∨ kd = 2
      · rw [if_pos e] at hr
        by_cases e2 : (lst S I).length < I
        · exact e2
        · rw [if_neg e2] at hr; cases hr
      · rw [if_neg e] at hr; cases hr
    obtain ⟨n, hn, hlow⟩ := low_of hl
    exact (Make_yes kd n w h hr hlow hn hL).mono fun e w' h' => by
      obtain ⟨h1, ⟨M', h2⟩, h3⟩ := h'
      exact ⟨_, _, h1, _, M', h2.more (Nat.le_succ _), h3, fun h => absurd rfl h⟩
  · exact (Make_no kd w h _ rfl hr).mono fun e w' h' => ⟨_, _, h'.1, left_same h (Nat.le_succ _) _ h'.2⟩
theorem Read_left (n f m : Int) (h : PS base w sg mb M I L B k S) (hn : IS.I64 n) (hf : I64 f) (hm : I64 m) : Calls Try.prog 21 #[.pointer (some ⟨sg, 0, none⟩), .int .i64 n, .int .i64 f, .int .i64 m] w (LeftV base sg mb I L B (k + 1) S w) := by
  by_cases hno : ∃ d, S n = some d ∧ d.kind = 1
  · obtain ⟨d, hS, hk⟩ := hno
    exact (Read_yes n f m d w h hn hf hm hS hk).mono fun e w' h' => ⟨_, _, h'.1, left_same h (Nat.le_succ _) _ h'.2⟩
  · have hr : (askR S n fun d => if d.kind = 1 then (0 : Int) else 14) ≠ 0 := by
      cases hS : S n with
      | none => simp [askR, hS]
      | some d =>
        have hk : ¬ d.kind = 1 := fun e => hno ⟨d, hS, e⟩
        simp [askR, hS, hk]
    exact (Read_no n f m w _ h hn rfl hr).mono fun e w' h' => ⟨_, _, h'.1, left_same h (Nat.le_succ _) _ h'.2⟩
theorem Stat_left (n : Int) (h : PS base w sg mb M I L B k S) (hn : IS.I64 n) : Calls Try.prog 24 #[.pointer (some ⟨sg, 0, none⟩), .int .i64 n] w (LeftV base sg mb I L B (k + 1) S w) :=
  (Stat_any n w h hn).mono fun e w' h' => ⟨_, _, h'.1, left_same h (Nat.le_succ _) _ h'.2⟩
end
end IN
end Go.Proofs.Ytieneehpijilpaa

/- What the walks of Encode and Decode want: wire's calls in one form, the shape of a number that has one. -/
import Derived.Test.YtmhikoblaejhhaaCalBlank
import Derived.Test.YtmhikoblaejhhaaWireTake2
import Derived.Test.YtmhikoblaejhhaaRefWire2
namespace Go.Proofs.Ytmhikoblaejhhaa
open Go.ChangeShapes Go.WideShapes Go.ChangeAt Go.RowKit Go.Maps
set_option linter.unusedVariables false
set_option linter.unusedSimpArgs false
namespace CA
theorem wp_world {P : Program} {c : Code} {Q : Exit → Act → World → Prop} {a : Act} {W : World} (R : World → Prop) (h : R W) (k : ∀ W, R W → Code.wp P c Q a W) : Code.wp P c Q a W := k W h
/-- A call, as a value. -/
def cl (no n0 n1 n2 : Int) (s0 s1 : ByteArray) : List Value := [.int .i64 no, .int .i64 n0, .int .i64 n1, .int .i64 n2, .string s0, .string s1]
/-- Bytes in memory that are one's own. -/
def OB (w : World) (g n : Nat) (l : List UInt8) : Prop := BS w (some ⟨g, 0, none⟩) n n l
theorem OB.keep {w w' : World} {g n : Nat} {l : List UInt8} (h : OB w g n l) (hb : Below w.heap.size w w') : OB w' g n l := BS.below h hb (Nat.le_refl _)
theorem conv_u64 (z : Int) (w : World) : (convert 3 49 (.int .i64 z)).run Try.prog w = .ok (.int .u64 ((un z : Nat) : Int)) w := by
  have h : (convert 3 49 (.int .i64 z)).run Try.prog w = .ok (.int .u64 (IntKind.u64.wrap z)) w := by simp [go_sem]
  rw [h, un_wrap]
theorem conv_u64' (z : Int) (w : World) : (convert 2 49 (.int .i64 z)).run Try.prog w = .ok (.int .u64 ((un z : Nat) : Int)) w := by
  have h : (convert 2 49 (.int .i64 z)).run Try.prog w = .ok (.int .u64 (IntKind.u64.wrap z)) w := by simp [go_sem]
  rw [h, un_wrap]
theorem Shape_some {z : Int} {l : ByteArray} (h : shI z = some l) (h0 : -9223372036854775808 ≤ z) (h1 : z ≤ 9223372036854775807) (w : World) :
    Calls Try.prog 9 #[.int .i64 z] w fun e w' => e = .returned (.tuple #[.string l, .bool true]) ∧ Below w.heap.size w w' := by
  have := Shape_any z h0 h1 w
  rwa [h] at this
theorem rShape_some {z : Int} {l : ByteArray} (h : shI z = some l) (h0 : -9223372036854775808 ≤ z) (h1 : z ≤ 9223372036854775807) (w : World) :
    Calls Try.prog 10 #[.int .i64 z] w fun e w' => e = .returned (.tuple #[.string l, .bool true]) ∧ w = w' := by
  have := rShape_any z h0 h1 w
  rwa [h] at this
/-- The first number of a frame. -/
theorem Num_first (k : Nat) (hk : k < 18446744073709551616) (w : World) :
    Calls Try.prog 20 #[.slice none 0 0, .int .u64 k] w fun e w' => ∃ g, e = .returned (.slice (some ⟨g, 0, none⟩) 8 8) ∧ OB w' g 8 (le 8 k) ∧ Below w.heap.size w w' := by
  refine (Number_any none 0 0 [] k hk w (BS.nil w) (by decide)).mono ?_
  rintro e w' ⟨g, rfl, hown, bel⟩
  simp only [Nat.zero_add, List.nil_append] at hown
  exact ⟨g, rfl, BS_own hown, bel⟩
theorem Num_next {g n : Nat} {l : List UInt8} {w : World} (h : OB w g n l) (k : Nat) (hk : k < 18446744073709551616) (hn : n + 8 ≤ 281474976710656) (N : Nat) (hN : N = n + 8) :
    Calls Try.prog 20 #[.slice (some ⟨g, 0, none⟩) n n, .int .u64 k] w fun e w' => ∃ g', e = .returned (.slice (some ⟨g', 0, none⟩) N N) ∧ OB w' g' N (l ++ le 8 k) ∧ w.heap.size ≤ g' ∧ Below w.heap.size w w' := by
  subst hN
  refine (Number_any _ n n l k hk w h hn).mono ?_
  rintro e w' ⟨g', rfl, hown, bel⟩
  exact ⟨g', rfl, BS_own hown, (own_le hown).1, bel⟩
theorem Txt_yes {g n : Nat} {l : List UInt8} {w : World} (h : OB w g n l) (s : ByteArray) (hs : s.size ≤ 1048576) (hn : n + (4 + s.size) ≤ 281474976710656) (N : Nat) (hN : N = n + (4 + s.size)) :
    Calls Try.prog 21 #[.slice (some ⟨g, 0, none⟩) n n, .string s] w fun e w' => ∃ g', e = .returned (.tuple #[.slice (some ⟨g', 0, none⟩) N N, .int .i64 0]) ∧ OB w' g' N (l ++ (le 4 s.size ++ s.data.toList)) ∧ w.heap.size ≤ g' ∧ Below w.heap.size w w' := by
  subst hN
  refine (Text_fits _ n n l s w h hs hn).mono ?_
  rintro e w' ⟨g', rfl, hown, bel⟩
  rw [List.append_assoc] at hown
  exact ⟨g', rfl, BS_own hown, (own_le hown).1, bel⟩
theorem Txt_no {g n : Nat} {l : List UInt8} {w : World} (h : OB w g n l) (s : ByteArray) (hs : 1048576 < s.size) (hm : s.size ≤ maxLen) :
    Calls Try.prog 21 #[.slice (some ⟨g, 0, none⟩) n n, .string s] w fun e w' => e = .returned (.tuple #[.slice none 0 0, .int .i64 2]) ∧ Below w.heap.size w w' := Text_over _ n n s w hs hm
theorem OB.grown {w w' : World} {g n gi : Nat} {l : List UInt8} (h : OB w g n l) (hr : w.grownBy w' (some gi)) (hg : g ≠ gi) : OB w' g n l := by
  obtain ⟨h1, h2, h3, h4, h5⟩ := h
  refine ⟨h1, h2, h3, h4, fun a ha j u hu => ?_⟩
  have hc := h5 a ha j u hu
  obtain rfl := Option.some.inj ha
  have hlt := World.block_lt_of_cell? w _ hc
  rw [← hc]
  unfold World.cell?
  rw [hr.block _ hlt (fun e => hg (by rw [Addr.add_lit] at e; exact Option.some.inj e))]
/-- The state of the program's Encode: the call's own block, the frame as it is, the iterator. -/
structure ES (w0 w : World) (v : List Value) (g n : Nat) (l : List UInt8) (gi : Nat) (s : ByteArray) (k : Nat) : Prop where
  below : Below w0.heap.size w0 w
  row : Blk w w0.heap.size 25 v
  ob : OB w g n l
  it : IT w gi s k
  h1 : w0.heap.size < gi
  h2 : g ≠ gi
theorem ES.next {w0 w w' : World} {v : List Value} {g n : Nat} {l : List UInt8} {gi : Nat} {s : ByteArray} {k : Nat} (h : ES w0 w v g n l gi s k) (hi : IT w' gi s (k + 1)) (hr : w.grownBy w' (some gi)) : ES w0 w' v g n l gi s (k + 1) :=
  ⟨h.below.grown hr h.below.size (fun k e => by cases e; exact Nat.le_of_lt h.h1), h.row.grown hr (fun e => by have := h.h1; simp at e; omega), h.ob.grown hr h.h2, hi, h.h1, h.h2⟩
theorem ES.call {w0 w w' : World} {v : List Value} {g n : Nat} {l : List UInt8} {gi : Nat} {s : ByteArray} {k : Nat} (h : ES w0 w v g n l gi s k) (hb : Below w.heap.size w w') {g' n' : Nat} {l' : List UInt8} (ho : OB w' g' n' l') (hg : w.heap.size ≤ g') : ES w0 w' v g' n' l' gi s k :=
  ⟨h.below.trans (hb.mono h.below.size), h.row.keep hb, ho, h.it.keep hb, h.h1, fun e => by have := h.it.lt; omega⟩
theorem conv_str {w : World} {g n : Nat} {l : List UInt8} (h : OB w g n l) : (convert 50 9 (.slice (some ⟨g, 0, none⟩) n n)).run Try.prog w = .ok (.string (strOf l)) w :=
  run_conv 50 5 (by kernel_rfl) (by kernel_rfl) 9 (by kernel_rfl) h
/-- Bytes in memory, with room. -/
def OC (w : World) (g n c : Nat) (l : List UInt8) : Prop := BS w (some ⟨g, 0, none⟩) n c l
theorem OC.keep {w w' : World} {g n c : Nat} {l : List UInt8} (h : OC w g n c l) (hb : Below w.heap.size w w') : OC w' g n c l := BS.below h hb (Nat.le_refl _)
theorem rNum_first (k : Nat) (hk : k < 18446744073709551616) (w : World) :
    Calls Try.prog 23 #[.slice none 0 0, .int .u64 k] w fun e w' => ∃ g, e = .returned (.slice (some ⟨g, 0, none⟩) 8 8) ∧ OC w' g 8 8 (le 8 k) ∧ w.heap.size ≤ g ∧ Below w.heap.size w w' := by
  refine (rNumber_any none 0 0 [] k hk w (BS.nil w) (by decide)).mono ?_
  rintro e w' ⟨g, rfl, hown, bel⟩
  simp only [Nat.zero_add, List.nil_append] at hown
  exact ⟨g, rfl, BS_own hown, (own_le hown).1, bel⟩
theorem rNum_next {g n c : Nat} {l : List UInt8} {w : World} (h : OC w g n c l) (k : Nat) (hk : k < 18446744073709551616) (hn : n + 8 ≤ 281474976710656) (N : Nat) (hN : N = n + 8) :
    Calls Try.prog 23 #[.slice (some ⟨g, 0, none⟩) n c, .int .u64 k] w fun e w' => ∃ g', e = .returned (.slice (some ⟨g', 0, none⟩) N N) ∧ OC w' g' N N (l ++ le 8 k) ∧ w.heap.size ≤ g' ∧ Below w.heap.size w w' := by
  subst hN
  refine (rNumber_any _ n c l k hk w h hn).mono ?_
  rintro e w' ⟨g', rfl, hown, bel⟩
  exact ⟨g', rfl, BS_own hown, (own_le hown).1, bel⟩
theorem rTxt_yes {g n c : Nat} {l : List UInt8} {w : World} (h : OC w g n c l) (s : ByteArray) (hs : s.size ≤ 1048576) (hn : n ≤ 140737488355328) (N : Nat) (hN : N = n + (4 + s.size)) :
    Calls Try.prog 24 #[.slice (some ⟨g, 0, none⟩) n c, .string s] w fun e w' => ∃ g' c', e = .returned (.tuple #[.slice (some ⟨g', 0, none⟩) N c', .int .i64 0]) ∧ OC w' g' N c' (l ++ (le 4 s.size ++ s.data.toList)) ∧ w.heap.size ≤ g' ∧ Below w.heap.size w w' := by
  subst hN
  refine (rText_fits _ n c l s w h hs hn).mono ?_
  rintro e w' ⟨g', c', rfl, hown, bel⟩
  rw [List.append_assoc] at hown
  rw [Nat.add_assoc] at hown
  exact ⟨g', c', by rw [Nat.add_assoc], BS_own hown, (own_le hown).1, bel⟩
theorem conv_strC {w : World} {g n c : Nat} {l : List UInt8} (h : OC w g n c l) : (convert 50 9 (.slice (some ⟨g, 0, none⟩) n c)).run Try.prog w = .ok (.string (strOf l)) w :=
  run_conv 50 5 (by kernel_rfl) (by kernel_rfl) 9 (by kernel_rfl) h
/-- The state of the document's Encode: the call's own block, what is not used yet, the frame as it is. -/
structure RE (w0 w : World) (v u : List Value) (r g n c : Nat) (l : List UInt8) : Prop where
  below : Below w0.heap.size w0 w
  row : Blk w w0.heap.size 25 v
  rest : Blk w r 25 u
  ob : OC w g n c l
  h1 : w0.heap.size < r
  h2 : r < g
theorem RE.call {w0 w w' : World} {v u : List Value} {r g n c : Nat} {l : List UInt8} (h : RE w0 w v u r g n c l) (hb : Below w.heap.size w w') {g' n' c' : Nat} {l' : List UInt8} (ho : OC w' g' n' c' l') (hg : w.heap.size ≤ g') : RE w0 w' v u r g' n' c' l' :=
  ⟨h.below.trans (hb.mono h.below.size), h.row.keep hb, h.rest.keep hb, ho, h.h1, Nat.lt_of_lt_of_le h.rest.lt hg⟩
theorem RE.store {w0 w : World} {v u : List Value} {r g n c : Nat} {l : List UInt8} (h : RE w0 w v u r g n c l) (j : Nat) (x : Value) : RE w0 (w.setCell ⟨r, j, none⟩ x) v (u.set j x) r g n c l := by
  refine ⟨h.below.setCell (p := ⟨r, j, none⟩) (Nat.le_of_lt h.h1) _, h.row.far (fun e => by have := h.h1; simp at e; omega) _, h.rest.set j x, ?_, h.h1, h.h2⟩
  obtain ⟨h1, h2, h3, h4, h5⟩ := h.ob
  refine ⟨h1, h2, h3, h4, fun a ha k u hu => ?_⟩
  have hc := h5 a ha k u hu
  obtain rfl := Option.some.inj ha
  rw [← hc]
  unfold World.cell?
  rw [Below.heap_setCell w ⟨r, j, none⟩ x _ (fun e => by rw [Addr.add_lit] at e; have := h.h2; simp at e; omega)]
end CA
end Go.Proofs.Ytmhikoblaejhhaa

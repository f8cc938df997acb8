/- xorshift's Next, nextPowerOfTwo, breakPatternsOrdered, choosePivotOrdered. -/
import Derived.Test.YtieneehpijilpaaISort4
import Derived.Test.YtieneehpijilpaaISortSmall
import Derived.Deep.CutRange
import Derived.Deep.CutBlock
import Derived.Laws.BitsAllLaws
namespace Go.Proofs.Ytieneehpijilpaa
open Go.ChangeShapes Go.WideShapes Go.ChangeAt Go.RowKit
set_option linter.unusedVariables false
set_option linter.unusedSimpArgs false
namespace IS

theorem wrapn (x : Nat) : ∃ y : Nat, y < 18446744073709551616 ∧ IntKind.u64.wrap (x : Int) = (y : Int) := ⟨x % 18446744073709551616, Nat.mod_lt _ (by decide), by rw [IntKind.wrap_u64]; omega⟩
theorem wrapm (m : Nat) (h : m ≤ 2 ^ 16) : IntKind.u64.wrap (m : Int) = (m : Int) := by rw [IntKind.wrap_u64]; omega
theorem xor_some (x y : Nat) (hx : x < 18446744073709551616) (hy : y < 18446744073709551616) : ∃ z : Nat, z < 18446744073709551616 ∧ bits BinOp.xor IntKind.u64 (x : Int) (y : Int) = (z : Int) :=
  ⟨x ^^^ y, Nat.xor_lt_two_pow (n := 64) hx hy, u64_xor_nat _ _ hx hy⟩
theorem shl_some (x : Nat) (c : Nat) (hx : x < 18446744073709551616) : ∃ z : Nat, z < 18446744073709551616 ∧ bits BinOp.xor IntKind.u64 (x : Int) (IntKind.u64.wrap ((x : Int) * (c : Int))) = (z : Int) := by
  obtain ⟨y, hy, e⟩ := wrapn (x * c)
  rw [show ((x * c : Nat) : Int) = (x : Int) * (c : Int) by push_cast; rfl] at e
  rw [e]
  exact xor_some x y hx hy
theorem shr_some (x : Nat) (hx : x < 18446744073709551616) : ∃ z : Nat, z < 18446744073709551616 ∧ bits BinOp.xor IntKind.u64 (x : Int) ((x : Int) / 128) = (z : Int) := by
  rw [show (x : Int) / 128 = ((x / 128 : Nat) : Int) by omega]
  exact xor_some x _ hx (by omega)

set_option maxRecDepth 100000 in
set_option maxHeartbeats 1000000 in
theorem Next_any (y x : Nat) (w : World) (hy : Blk w y 117 [.int .u64 (x : Int)]) (hx : x < 18446744073709551616) :
    Calls Try.prog 92 #[.pointer (some ⟨y, 0, none⟩)] w fun e w' => ∃ z : Nat, e = .returned (.int .u64 (z : Int)) ∧ z < 18446744073709551616 ∧ Blk w' y 117 [.int .u64 (z : Int)] ∧ Two y y w w' := by
  obtain ⟨x1, h1, e1⟩ : ∃ z : Nat, z < 18446744073709551616 ∧ bits BinOp.xor IntKind.u64 (x : Int) (IntKind.u64.wrap ((x : Int) * 8192)) = (z : Int) := shl_some x 8192 hx
  obtain ⟨x2, h2, e2⟩ := shr_some x1 h1
  obtain ⟨x3, h3, e3⟩ : ∃ z : Nat, z < 18446744073709551616 ∧ bits BinOp.xor IntKind.u64 (x2 : Int) (IntKind.u64.wrap ((x2 : Int) * 131072)) = (z : Int) := shl_some x2 131072 h2
  have c0 := hy.cell (j := 0) rfl
  have f0 := hy.fz
  have q1 := W_hid (hy.set 0 (.int .u64 (x1 : Int)))
  have t1 := W_hid ((Two.refl y y w).setCell (p := ⟨y, 0, none⟩) (.inl rfl) (.int .u64 (x1 : Int)))
  replace h3 := W_hid h3
  clear hx h1 h2 hy
  obtain ⟨w1, hw1⟩ : ∃ V, World.drew (w.setCell ⟨y, 0, none⟩ (.int .u64 (x1 : Int))) = V := ⟨_, rfl⟩
  have b1 : Blk w1 y 117 [.int .u64 (x1 : Int)] := by rw [← hw1]; exact q1.out
  have k1 : Two y y w w1 := by rw [← hw1]; exact ⟨t1.out.os, t1.out.tape, t1.out.output, t1.out.size, t1.out.block⟩
  obtain ⟨w2, hw2⟩ : ∃ V, World.drew (w1.setCell ⟨y, 0, none⟩ (.int .u64 (x2 : Int))) = V := ⟨_, rfl⟩
  have b2 : Blk w2 y 117 [.int .u64 (x2 : Int)] := by rw [← hw2]; exact b1.set 0 _
  have k2 : Two y y w w2 := by
    have t := k1.setCell (p := ⟨y, 0, none⟩) (.inl rfl) (.int .u64 (x2 : Int))
    rw [← hw2]; exact ⟨t.os, t.tape, t.output, t.size, t.block⟩
  obtain ⟨w3, hw3⟩ : ∃ V, World.drew (w2.setCell ⟨y, 0, none⟩ (.int .u64 (x3 : Int))) = V := ⟨_, rfl⟩
  have b3 : Blk w3 y 117 [.int .u64 (x3 : Int)] := by rw [← hw3]; exact b2.set 0 _
  have k3 : Two y y w w3 := by
    have t := k2.setCell (p := ⟨y, 0, none⟩) (.inl rfl) (.int .u64 (x3 : Int))
    rw [← hw3]; exact ⟨t.os, t.tape, t.output, t.size, t.block⟩
  have c1 := b1.cell (j := 0) rfl
  have f1 := b1.fz
  have c2 := b2.cell (j := 0) rfl
  have f2 := b2.fz
  have c3 := b3.cell (j := 0) rfl
  replace b3 := W_hid b3
  replace k3 := W_hid k3
  clear b1 b2 k1 k2 q1 t1
  go_enter Try.func92, Try.ntmps92
  go_wp2_with fail
  go_region
  try rw [hw1]
  go_wp2_with fail
  go_region
  try rw [hw2]
  go_wp2_with fail
  go_region
  try rw [hw3]
  go_wp2_with fail
  go_ret
  exact ⟨x3, rfl, h3.out, b3.out, k3.out⟩

def lenOk (t i : Nat) : Bool := decide (i < 2 ^ t) && (decide (i = 0) || decide (2 ^ t ≤ 2 * i)) && decide (t ≤ 8)
theorem len_at (s : ByteArray) (hs : s.size = 256) (hp : ∀ i : Fin 256, lenOk (s.get! i.val).toNat i.val = true) (k : Nat) (hk : k < 256) : ∃ t : Nat, k < 2 ^ t ∧ (k = 0 ∨ 2 ^ t ≤ 2 * k) ∧ t ≤ 8 ∧ ∀ w, (Instr.index 9 (.string s) (.int .u8 (k : Int))).run Try.prog w = .ok (.int .u8 (t : Int)) w := by
  have hlt : k < s.size := by omega
  have h1 := hp ⟨k, hk⟩
  have e : s.get! k = s[k] := by
    show s.data[k]! = s.data[k]
    exact getElem!_pos s.data k hlt
  rw [show s.get! (⟨k, hk⟩ : Fin 256).val = s[k] from e] at h1
  unfold lenOk at h1
  simp only [Bool.and_eq_true, Bool.or_eq_true, decide_eq_true_eq] at h1
  refine ⟨(s[k]).toNat, h1.1.1, h1.1.2, h1.2, fun w => ?_⟩
  rw [run_index_string w _ s _ _ und_str, dif_pos ⟨by omega, by omega⟩]
  rfl

set_option maxRecDepth 100000 in
set_option maxHeartbeats 4000000 in
theorem Len64_fine (X : Nat) (w : World) (h0 : 1 ≤ X) (hX : X < 65536) : Calls Try.prog 88 #[.int .u64 (X : Int)] w fun e w' => (∃ k : Nat, e = .returned (.int .i64 (k : Int)) ∧ k ≤ 16 ∧ X < 2 ^ k ∧ 2 ^ k ≤ 2 * X) ∧ w' = w := by
  obtain ⟨Y, hY⟩ : ∃ Y : Int, Y = (X : Int) := ⟨_, rfl⟩
  have d0 : 0 ≤ Y := by omega
  have d1 : Y < 4294967296 := by omega
  have d2 : Y < 65536 := by omega
  rw [← hY]
  go_enter Try.func88, Try.ntmps88
  generalize hT : Value.string _ = T
  have hI : ∀ k : Nat, k < 256 → ∃ t : Nat, k < 2 ^ t ∧ (k = 0 ∨ 2 ^ t ≤ 2 * k) ∧ t ≤ 8 ∧ ∀ w, (Instr.index 9 T (.int .u8 (k : Int))).run Try.prog w = .ok (.int .u8 (t : Int)) w := by
    intro k hk
    rw [← hT]
    exact len_at _ (by rfl) (by decide +kernel) k hk
  clear hT
  by_cases h : 256 ≤ X
  · obtain ⟨t, ht1, ht2, ht3, hi⟩ := hI (X / 256) (by omega)
    have hfin : Hid (t + 8 ≤ 16 ∧ X < 2 ^ (t + 8) ∧ 2 ^ (t + 8) ≤ 2 * X) := by
      show _ ∧ _ ∧ _
      rw [Nat.pow_add]
      have : 2 ^ 8 = 256 := rfl
      omega
    obtain ⟨Q, hQ⟩ : ∃ Q : Int, Q = ((X / 256 : Nat) : Int) := ⟨_, rfl⟩
    have hYQ : Y / 256 = Q := by omega
    have hq : 0 ≤ Q ∧ Q < 256 := by omega
    have hy : 256 ≤ Y := by omega
    rw [← hQ] at hi
    have ht4 : t ≤ 8 := ht3
    clear hI ht1 ht2 ht3 hQ hY h0 hX h
    go_wp2_with fail
    go_ret
    exact ⟨⟨t + 8, by simp; omega, hfin.out⟩, rfl⟩
  · obtain ⟨t, ht1, ht2, ht3, hi⟩ := hI X (by omega)
    have hfin : Hid (t ≤ 16 ∧ X < 2 ^ t ∧ 2 ^ t ≤ 2 * X) := by
      show _ ∧ _ ∧ _
      omega
    have h2 : Y < 256 := by omega
    have ht4 : t ≤ 8 := ht3
    rw [← hY] at hi
    clear hI ht1 ht2 ht3 hY h0 hX h
    go_wp2_with fail
    go_ret
    exact ⟨⟨t, rfl, hfin.out⟩, rfl⟩

set_option maxRecDepth 100000 in
set_option maxHeartbeats 4000000 in
theorem Len_fine (X : Nat) (w : World) (h0 : 1 ≤ X) (hX : X < 65536) : Calls Try.prog 75 #[.int .u64 (X : Int)] w fun e w' => (∃ k : Nat, e = .returned (.int .i64 (k : Int)) ∧ k ≤ 16 ∧ X < 2 ^ k ∧ 2 ^ k ≤ 2 * X) ∧ w' = w := by
  have c := W_hid (Len64_fine X w h0 hX)
  clear h0 hX
  go_enter Try.func75, Try.ntmps75
  go_wp2_with (go_at_call 88; refine c.out.mono ?_; rintro e w' ⟨⟨k, rfl, hk⟩, rfl⟩)
  go_ret
  exact ⟨⟨k, rfl, hk⟩, rfl⟩

set_option maxRecDepth 100000 in
set_option maxHeartbeats 4000000 in
theorem power_any (X : Nat) (w : World) (h0 : 1 ≤ X) (hX : X < 65536) : Calls Try.prog 91 #[.int .i64 (X : Int)] w fun e w' => (∃ m : Nat, e = .returned (.int .u64 (m : Int)) ∧ X < m ∧ m ≤ 2 * X) ∧ w' = w := by
  have c := W_hid (Len_fine X w h0 hX)
  have hsh : Hid (∀ (k : Nat), k ≤ 16 → IntKind.u64.wrap ((2 : Int) ^ k) = ((2 ^ k : Nat) : Int)) := by
    intro k hk
    have hp : 2 ^ k ≤ 2 ^ 16 := Nat.pow_le_pow_right (by decide) hk
    rw [show ((2 : Int) ^ k) = ((2 ^ k : Nat) : Int) by push_cast; rfl]
    exact wrapm _ hp
  have hx1 : (X : Int) < 65536 := by omega
  clear h0 hX
  go_enter Try.func91, Try.ntmps91
  go_wp2_with fail
  refine c.out.mono ?_
  rintro e w' ⟨⟨k, rfl, hk, hk1, hk2⟩, rfl⟩
  have hs := hsh.out k hk
  obtain ⟨m, hm⟩ : ∃ m, 2 ^ k = m := ⟨_, rfl⟩
  rw [hm] at hs hk1 hk2
  replace hm := W_hid hm
  replace hs := W_hid hs
  go_wp2_with fail
  go_ret
  exact ⟨⟨m, ret_u64 hs.out, hk1, hk2⟩, rfl⟩
end IS
end Go.Proofs.Ytieneehpijilpaa

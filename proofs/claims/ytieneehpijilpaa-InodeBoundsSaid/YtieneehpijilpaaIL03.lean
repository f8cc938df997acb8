/- Contracts of the document's Link, Unlink, Open, Close, file, Stat, New. -/
import Derived.Test.YtieneehpijilpaaIL02
import Derived.Deep.CutRange
import Derived.Deep.CutBlock
import Derived.Laws.BitsAllLaws
import Derived.Test.YtieneehpijilpaaIL01
import Derived.Maps.AppendAt
import Derived.Laws.OwnMore
import Derived.Laws.AppendOwnNone
import Derived.Deep.RegionLaw
import Derived.Deep.MidRow

/- slices.Sort of a dozen numbers at most. -/
namespace Go.Proofs.Ytieneehpijilpaa
open Go.ChangeShapes Go.WideShapes Go.ChangeAt Go.RowKit
set_option linter.unusedVariables false
set_option linter.unusedSimpArgs false
namespace IS

set_option maxRecDepth 100000 in
set_option maxHeartbeats 4000000 in
theorem pdq_small (g N cap k : Nat) (rest : List Value) (X : Nat → Nat) (w : World) (h : RW w g N X rest) (hN : N ≤ 12) (hcap : N ≤ cap) (hX : ∀ i, i < N → X i < 9223372036854775808) :
    Calls Try.prog 74 #[.slice (some ⟨g, 0, none⟩) N cap, .int .i64 0, .int .i64 (N : Int), .int .i64 (k : Int)] w fun e w' => e = .returned (.tuple #[]) ∧ Two g g w w' ∧ ∃ Y, RW w' g N Y rest ∧ SO.Sw 0 N X Y ∧ SO.Up Y 0 N := by
  have c := insert_any g N cap rest 0 N X w h (by omega) (by omega) (by omega) hcap hX
  go_enter Try.func74, Try.ntmps74
  go_wp2_with fail
  go_loopw [1, 2, 3, 8, 9] (fun a b l _ _ wr => a = .int .i64 0 ∧ b = .int .i64 (N : Int) ∧ l = .int .i64 (k : Int) ∧ wr = w) (fun _ _ _ _ _ _ => 0)
  case atStart => exact ⟨rfl, rfl, rfl, rfl⟩
  case round =>
    obtain ⟨rfl, rfl, rfl, rfl⟩ := hrel
    go_wp2_with (go_at_call 78; refine c.mono ?_; rintro e w' ⟨rfl, hT, Y, hR, hS, hU⟩)
    refine bodyPost_ret (results_none rfl _ _ _) rfl ?_
    exact ⟨rfl, hT, Y, hR, hS, hU⟩

set_option maxRecDepth 100000 in
set_option maxHeartbeats 4000000 in
theorem Sort_small (g N cap : Nat) (rest : List Value) (X : Nat → Nat) (w : World) (h : RW w g N X rest) (hN : N ≤ 12) (hcap : N ≤ cap) (hX : ∀ i, i < N → X i < 9223372036854775808) :
    Calls Try.prog 61 #[.slice (some ⟨g, 0, none⟩) N cap] w fun e w' => e = .returned (.tuple #[]) ∧ Two g g w w' ∧ ∃ Y, RW w' g N Y rest ∧ SO.Sw 0 N X Y ∧ SO.Up Y 0 N := by
  have cL := Len_any (N : Int) w (by omega) (by omega)
  have cP := W_hid (fun k : Nat => pdq_small g N cap k rest X w h hN hcap hX)
  clear h
  go_enter Try.func61, Try.ntmps61
  go_wp2_with (first
    | (go_at_call 75; refine cL.mono ?_; rintro e w' ⟨⟨k, rfl, hk⟩, rfl⟩)
    | (go_at_call 74; refine (cP.out _).mono ?_; rintro e w' ⟨rfl, hT, Y, hR, hS, hU⟩))
  go_end0
  exact ⟨rfl, hT, Y, hR, hS, hU⟩

/-- What Sort does to rows of so many numbers. -/
def Sorts (m : Nat) : Prop := ∀ (g N cap : Nat) (rest : List Value) (X : Nat → Nat) (w : World), N ≤ m → RW w g N X rest → N ≤ cap → (∀ i, i < N → X i < 9223372036854775808) →
  Calls Try.prog 61 #[.slice (some ⟨g, 0, none⟩) N cap] w fun e w' => e = .returned (.tuple #[]) ∧ Two g g w w' ∧ ∃ Y, RW w' g N Y rest ∧ SO.Sw 0 N X Y ∧ SO.Up Y 0 N
theorem sorts_small : Sorts 12 := fun g N cap rest X w hN h hcap hX => Sort_small g N cap rest X w h hN hcap hX

/-- A slice of the call's own that holds these numbers, rising. -/
structure Nlist (base : Nat) (w : World) (v : Value) (l : List Nat) : Prop where
  ex : ∃ (g cap : Nat) (rest : List Value), v = .slice (some ⟨g, 0, none⟩) l.length cap ∧ base ≤ g ∧ l.length ≤ cap ∧ Blk w g 3 (l.map nk ++ rest)
theorem Nlist.keep {base : Nat} {w w' : World} {v : Value} {l : List Nat} (h : Nlist base w v l) (hb : Below w.heap.size w w') : Nlist base w' v l := by
  obtain ⟨g, cap, rest, e, h1, h2, h3⟩ := h.ex
  exact ⟨⟨g, cap, rest, e, h1, h2, h3.keep hb⟩⟩

theorem lst_of (l : List Nat) : SO.lst (fun i => l.getD i 0) l.length = l := by
  apply List.ext_getElem?
  intro i
  by_cases h : i < l.length
  · rw [SO.lst_get _ _ _ h]; simp [List.getD, h]
  · rw [List.getElem?_eq_none (by rw [SO.lst_len]; omega), List.getElem?_eq_none (by omega)]

theorem up_pairwise {X : Nat → Nat} {N : Nat} (h : SO.Up X 0 N) : (SO.lst X N).Pairwise (· ≤ ·) := by
  unfold SO.lst
  rw [List.pairwise_map]
  rw [List.pairwise_iff_getElem]
  intro i j hi hj hij
  simp only [List.length_range] at hi hj
  simp only [List.getElem_range]
  exact h i j (by omega) hij hj

set_option maxRecDepth 100000 in
set_option maxHeartbeats 4000000 in
/-- slices.Sorted of what Keys handed back. -/
theorem Sorted_any (mx : Nat) (hs : Sorts mx) (Bm b : Nat) (M : Int → Option Nat) (w : World) (hBm : Bm < w.heap.size) (hb : b < w.heap.size) (hm : w.cell? ⟨Bm, 0, none⟩ = some (.map (some b))) (hMB : MB w b M)
    (hsm : ∀ ss, Nums M ss → ss.length ≤ mx) (hne : ∃ f : Nat, M f ≠ none) :
    Calls Try.prog 37 #[.func (.func 62) #[] #[.pointer (some ⟨Bm, 0, none⟩)]] w fun e w' => ∃ (v : Value) (l : List Nat), e = .returned v ∧ Nums M l ∧ l.Pairwise (· ≤ ·) ∧ Nlist w.heap.size w' v l ∧ Below w.heap.size w w' := by
  have cC := Collect_any Bm b M w hBm hb hm hMB
  have hlt := fun ss (h : Nums M ss) => h.lt hMB
  have hs := W_hid hs
  clear hm
  go_enter Try.func37, Try.ntmps37
  go_wp2_with (go_at_call 60; refine cC.mono ?_; rintro e w1 ⟨v, ss, rfl, hN, hown, hnil, hB⟩)
  have hne0 : ss ≠ [] := by
    obtain ⟨f, hf⟩ := hne
    intro e
    have := (hN.2 f).2 hf
    rw [e] at this
    cases this
  rcases hown.2 with ⟨h0, -⟩ | ⟨g, cap, cur, rfl, hbase, hg, h1, h2, h3, h4⟩
  · exact absurd (hnil.1 h0) hne0
  have hrw : RW w1 g ss.length (fun i => ss.getD i 0) (cur.toList.drop ss.length) := by
    refine ⟨?_⟩
    unfold Blk
    rw [hg, lst_of]
    have e : ss.map nk ++ cur.toList.drop ss.length = cur.toList := by
      rw [Nat.mul_one] at h4
      rw [← h4, List.take_append_drop]
    rw [e]
  have cS := W_hid (hs.out g ss.length cap _ _ w1 (hsm ss hN) hrw (by omega) (fun i hi => by
    have := hlt ss hN (ss.getD i 0) (by rw [List.getD, List.getElem?_eq_getElem hi]; exact List.getElem_mem _)
    omega))
  clear hrw h4 h3 hg
  go_wp2_with (go_at_call 61; refine cS.out.mono ?_; rintro e w2 ⟨rfl, hT, Y, hR, hS, hU⟩)
  go_ret
  refine ⟨_, SO.lst Y ss.length, rfl, ⟨?_, fun f => ?_⟩, up_pairwise hU, ⟨⟨g, cap, _, by rw [SO.lst_len]; rfl, hbase, by rw [SO.lst_len]; exact h1, hR.blk⟩⟩, hB.trans (hT.below hB.size hbase hbase)⟩
  · refine SO.lst_nodup _ _ (hS.inj (Nat.le_refl _) (SO.inj_of_nodup _ _ ?_))
    rw [lst_of]; exact hN.1
  · rw [hS.mem (Nat.le_refl _), lst_of, hN.2 f]


end IS
end Go.Proofs.Ytieneehpijilpaa

/- xorshift's Next, nextPowerOfTwo, breakPatternsOrdered, choosePivotOrdered. -/
namespace Go.Proofs.Ytieneehpijilpaa
open Go.ChangeShapes Go.WideShapes Go.ChangeAt Go.RowKit
set_option linter.unusedVariables false
set_option linter.unusedSimpArgs false
namespace IS

theorem wrapn (x : Nat) : ∃ y : Nat, y < 18446744073709551616 ∧ IntKind.u64.wrap (x : Int) = (y : Int) := ⟨x % 18446744073709551616, Nat.mod_lt _ (by decide), by rw [IntKind.wrap_u64]; omega⟩
theorem wrapm (m : Nat) (h : m ≤ 2 ^ 16) : IntKind.u64.wrap (m : Int) = (m : Int) := by rw [IntKind.wrap_u64]; omega
theorem xor_some (x y : Nat) (hx : x < 18446744073709551616) (hy : y < 18446744073709551616) : ∃ z : Nat, z < 18446744073709551616 ∧ bits BinOp.xor IntKind.u64 (x : Int) (y : Int) = (z : Int) :=
  ⟨x ^^^ y, Nat.xor_lt_two_pow (n := 64) hx hy, u64_xor_nat _ _ hx hy⟩
theorem shl_some (x : Nat) (c : Nat) (hx : x < 18446744073709551616) : ∃ z : Nat, z < 18446744073709551616 ∧ bits BinOp.xor IntKind.u64 (x : Int) (IntKind.u64.wrap ((x : Int) * (c : Int))) = (z : Int) := by
  obtain ⟨y, hy, e⟩ := wrapn (x * c)
  rw [show ((x * c : Nat) : Int) = (x : Int) * (c : Int) by push_cast; rfl] at e
  rw [e]
  exact xor_some x y hx hy
theorem shr_some (x : Nat) (hx : x < 18446744073709551616) : ∃ z : Nat, z < 18446744073709551616 ∧ bits BinOp.xor IntKind.u64 (x : Int) ((x : Int) / 128) = (z : Int) := by
  rw [show (x : Int) / 128 = ((x / 128 : Nat) : Int) by omega]
  exact xor_some x _ hx (by omega)

set_option maxRecDepth 100000 in
set_option maxHeartbeats 1000000 in
theorem Next_any (y x : Nat) (w : World) (hy : Blk w y 117 [.int .u64 (x : Int)]) (hx : x < 18446744073709551616) :
    Calls Try.prog 92 #[.pointer (some ⟨y, 0, none⟩)] w fun e w' => ∃ z : Nat, e = .returned (.int .u64 (z : Int)) ∧ z < 18446744073709551616 ∧ Blk w' y 117 [.int .u64 (z : Int)] ∧ Two y y w w' := by
  obtain ⟨x1, h1, e1⟩ : ∃ z : Nat, z < 18446744073709551616 ∧ bits BinOp.xor IntKind.u64 (x : Int) (IntKind.u64.wrap ((x : Int) * 8192)) = (z : Int) := shl_some x 8192 hx
  obtain ⟨x2, h2, e2⟩ := shr_some x1 h1
  obtain ⟨x3, h3, e3⟩ : ∃ z : Nat, z < 18446744073709551616 ∧ bits BinOp.xor IntKind.u64 (x2 : Int) (IntKind.u64.wrap ((x2 : Int) * 131072)) = (z : Int) := shl_some x2 131072 h2
  have c0 := hy.cell (j := 0) rfl
  have f0 := hy.fz
  have q1 := W_hid (hy.set 0 (.int .u64 (x1 : Int)))
  have t1 := W_hid ((Two.refl y y w).setCell (p := ⟨y, 0, none⟩) (.inl rfl) (.int .u64 (x1 : Int)))
  replace h3 := W_hid h3
  clear hx h1 h2 hy
  obtain ⟨w1, hw1⟩ : ∃ V, World.drew (w.setCell ⟨y, 0, none⟩ (.int .u64 (x1 : Int))) = V := ⟨_, rfl⟩
  have b1 : Blk w1 y 117 [.int .u64 (x1 : Int)] := by rw [← hw1]; exact q1.out
  have k1 : Two y y w w1 := by rw [← hw1]; exact ⟨t1.out.os, t1.out.tape, t1.out.output, t1.out.size, t1.out.block⟩
  obtain ⟨w2, hw2⟩ : ∃ V, World.drew (w1.setCell ⟨y, 0, none⟩ (.int .u64 (x2 : Int))) = V := ⟨_, rfl⟩
  have b2 : Blk w2 y 117 [.int .u64 (x2 : Int)] := by rw [← hw2]; exact b1.set 0 _
  have k2 : Two y y w w2 := by
    have t := k1.setCell (p := ⟨y, 0, none⟩) (.inl rfl) (.int .u64 (x2 : Int))
    rw [← hw2]; exact ⟨t.os, t.tape, t.output, t.size, t.block⟩
  obtain ⟨w3, hw3⟩ : ∃ V, World.drew (w2.setCell ⟨y, 0, none⟩ (.int .u64 (x3 : Int))) = V := ⟨_, rfl⟩
  have b3 : Blk w3 y 117 [.int .u64 (x3 : Int)] := by rw [← hw3]; exact b2.set 0 _
  have k3 : Two y y w w3 := by
    have t := k2.setCell (p := ⟨y, 0, none⟩) (.inl rfl) (.int .u64 (x3 : Int))
    rw [← hw3]; exact ⟨t.os, t.tape, t.output, t.size, t.block⟩
  have c1 := b1.cell (j := 0) rfl
  have f1 := b1.fz
  have c2 := b2.cell (j := 0) rfl
  have f2 := b2.fz
  have c3 := b3.cell (j := 0) rfl
  replace b3 := W_hid b3
  replace k3 := W_hid k3
  clear b1 b2 k1 k2 q1 t1
  go_enter Try.func92, Try.ntmps92
  go_wp2_with fail
  go_region
  try rw [hw1]
  go_wp2_with fail
  go_region
  try rw [hw2]
  go_wp2_with fail
  go_region
  try rw [hw3]
  go_wp2_with fail
  go_ret
  exact ⟨x3, rfl, h3.out, b3.out, k3.out⟩

def lenOk (t i : Nat) : Bool := decide (i < 2 ^ t) && (decide (i = 0) || decide (2 ^ t ≤ 2 * i)) && decide (t ≤ 8)
theorem len_at (s : ByteArray) (hs : s.size = 256) (hp : ∀ i : Fin 256, lenOk (s.get! i.val).toNat i.val = true) (k : Nat) (hk : k < 256) : ∃ t : Nat, k < 2 ^ t ∧ (k = 0 ∨ 2 ^ t ≤ 2 * k) ∧ t ≤ 8 ∧ ∀ w, (Instr.index 9 (.string s) (.int .u8 (k : Int))).run Try.prog w = .ok (.int .u8 (t : Int)) w := by
  have hlt : k < s.size := by omega
  have h1 := hp ⟨k, hk⟩
  have e : s.get! k = s[k] := by
    show s.data[k]! = s.data[k]
    exact getElem!_pos s.data k hlt
  rw [show s.get! (⟨k, hk⟩ : Fin 256).val = s[k] from e] at h1
  unfold lenOk at h1
  simp only [Bool.and_eq_true, Bool.or_eq_true, decide_eq_true_eq] at h1
  refine ⟨(s[k]).toNat, h1.1.1, h1.1.2, h1.2, fun w => ?_⟩
  rw [run_index_string w _ s _ _ und_str, dif_pos ⟨by omega, by omega⟩]
  rfl

set_option maxRecDepth 100000 in
set_option maxHeartbeats 4000000 in
theorem Len64_fine (X : Nat) (w : World) (h0 : 1 ≤ X) (hX : X < 65536) : Calls Try.prog 88 #[.int .u64 (X : Int)] w fun e w' => (∃ k : Nat, e = .returned (.int .i64 (k : Int)) ∧ k ≤ 16 ∧ X < 2 ^ k ∧ 2 ^ k ≤ 2 * X) ∧ w' = w := by
  obtain ⟨Y, hY⟩ : ∃ Y : Int, Y = (X : Int) := ⟨_, rfl⟩
  have d0 : 0 ≤ Y := by omega
  have d1 : Y < 4294967296 := by omega
  have d2 : Y < 65536 := by omega
  rw [← hY]
  go_enter Try.func88, Try.ntmps88
  generalize hT : Value.string _ = T
  have hI : ∀ k : Nat, k < 256 → ∃ t : Nat, k < 2 ^ t ∧ (k = 0 ∨ 2 ^ t ≤ 2 * k) ∧ t ≤ 8 ∧ ∀ w, (Instr.index 9 T (.int .u8 (k : Int))).run Try.prog w = .ok (.int .u8 (t : Int)) w := by
    intro k hk
    rw [← hT]
    exact len_at _ (by rfl) (by decide +kernel) k hk
  clear hT
  by_cases h : 256 ≤ X
  · obtain ⟨t, ht1, ht2, ht3, hi⟩ := hI (X / 256) (by omega)
    have hfin : Hid (t + 8 ≤ 16 ∧ X < 2 ^ (t + 8) ∧ 2 ^ (t + 8) ≤ 2 * X) := by
      show _ ∧ _ ∧ _
      rw [Nat.pow_add]
      have : 2 ^ 8 = 256 := rfl
      omega
    obtain ⟨Q, hQ⟩ : ∃ Q : Int, Q = ((X / 256 : Nat) : Int) := ⟨_, rfl⟩
    have hYQ : Y / 256 = Q := by omega
    have hq : 0 ≤ Q ∧ Q < 256 := by omega
    have hy : 256 ≤ Y := by omega
    rw [← hQ] at hi
    have ht4 : t ≤ 8 := ht3
    clear hI ht1 ht2 ht3 hQ hY h0 hX h
    go_wp2_with fail
    go_ret
    exact ⟨⟨t + 8, by simp; omega, hfin.out⟩, rfl⟩
  · obtain ⟨t, ht1, ht2, ht3, hi⟩ := hI X (by omega)
    have hfin : Hid (t ≤ 16 ∧ X < 2 ^ t ∧ 2 ^ t ≤ 2 * X) := by
      show _ ∧ _ ∧ _
      omega
    have h2 : Y < 256 := by omega
    have ht4 : t ≤ 8 := ht3
    rw [← hY] at hi
    clear hI ht1 ht2 ht3 hY h0 hX h
    go_wp2_with fail
    go_ret
    exact ⟨⟨t, rfl, hfin.out⟩, rfl⟩

set_option maxRecDepth 100000 in
set_option maxHeartbeats 4000000 in
theorem Len_fine (X : Nat) (w : World) (h0 : 1 ≤ X) (hX : X < 65536) : Calls Try.prog 75 #[.int .u64 (X : Int)] w fun e w' => (∃ k : Nat, e = .returned (.int .i64 (k : Int)) ∧ k ≤ 16 ∧ X < 2 ^ k ∧ 2 ^ k ≤ 2 * X) ∧ w' = w := by
  have c := W_hid (Len64_fine X w h0 hX)
  clear h0 hX
  go_enter Try.func75, Try.ntmps75
  go_wp2_with (go_at_call 88; refine c.out.mono ?_; rintro e w' ⟨⟨k, rfl, hk⟩, rfl⟩)
  go_ret
  exact ⟨⟨k, rfl, hk⟩, rfl⟩

set_option maxRecDepth 100000 in
set_option maxHeartbeats 4000000 in
theorem power_any (X : Nat) (w : World) (h0 : 1 ≤ X) (hX : X < 65536) : Calls Try.prog 91 #[.int .i64 (X : Int)] w fun e w' => (∃ m : Nat, e = .returned (.int .u64 (m : Int)) ∧ X < m ∧ m ≤ 2 * X) ∧ w' = w := by
  have c := W_hid (Len_fine X w h0 hX)
  have hsh : Hid (∀ (k : Nat), k ≤ 16 → IntKind.u64.wrap ((2 : Int) ^ k) = ((2 ^ k : Nat) : Int)) := by
    intro k hk
    have hp : 2 ^ k ≤ 2 ^ 16 := Nat.pow_le_pow_right (by decide) hk
    rw [show ((2 : Int) ^ k) = ((2 ^ k : Nat) : Int) by push_cast; rfl]
    exact wrapm _ hp
  have hx1 : (X : Int) < 65536 := by omega
  clear h0 hX
  go_enter Try.func91, Try.ntmps91
  go_wp2_with fail
  refine c.out.mono ?_
  rintro e w' ⟨⟨k, rfl, hk, hk1, hk2⟩, rfl⟩
  have hs := hsh.out k hk
  obtain ⟨m, hm⟩ : ∃ m, 2 ^ k = m := ⟨_, rfl⟩
  rw [hm] at hs hk1 hk2
  replace hm := W_hid hm
  replace hs := W_hid hs
  go_wp2_with fail
  go_ret
  exact ⟨⟨m, ret_u64 hs.out, hk1, hk2⟩, rfl⟩
end IS
end Go.Proofs.Ytieneehpijilpaa

/- breakPatternsOrdered, choosePivotOrdered. -/
namespace Go.Proofs.Ytieneehpijilpaa
open Go.ChangeShapes Go.WideShapes Go.ChangeAt Go.RowKit
set_option linter.unusedVariables false
set_option linter.unusedSimpArgs false
namespace IS

theorem Two.own {g y : Nat} {w w' : World} (h : Two g y w w') (hy : w.heap.size ≤ y) : Two g g w w' := ⟨h.os, h.tape, h.output, h.size, fun k hk h1 _ => h.block k hk h1 (by omega)⟩
theorem Two.swap' {g y : Nat} {w w' : World} (h : Two y g w w') : Two g y w w' := ⟨h.os, h.tape, h.output, h.size, fun k hk h1 h2 => h.block k hk h2 h1⟩
theorem Two.wider {g y : Nat} {w w' : World} (h : Two y y w w') : Two g y w w' := ⟨h.os, h.tape, h.output, h.size, fun k hk h1 h2 => h.block k hk h2 h2⟩
theorem RW.two {w w' : World} {g y N : Nat} {X : Nat → Nat} {rest : List Value} (h : RW w g N X rest) (t : Two y y w w') (hne : g ≠ y) : RW w' g N X rest := ⟨h.blk.two t hne hne⟩
theorem and_some (x m n : Nat) (hx : x < 18446744073709551616) (h1 : n < m) (h2 : m ≤ 2 * n) (hn : n ≤ 65536) : ∃ r : Nat, r < 2 * n ∧ bits BinOp.and IntKind.u64 (x : Int) ((m : Int) - 1) = (r : Int) := by
  have e : (m : Int) - 1 = ((m - 1 : Nat) : Int) := by omega
  have h3 : x &&& (m - 1) ≤ m - 1 := Nat.and_le_right
  exact ⟨x &&& (m - 1), by omega, by rw [e]; exact u64_and_nat _ _ hx (by omega)⟩

set_option maxRecDepth 100000 in
set_option maxHeartbeats 4000000 in
theorem break_any (g N cap : Nat) (rest : List Value) (a b : Nat) (X : Nat → Nat) (w : World) (h : RW w g N X rest) (hab : a + 8 ≤ b) (hb : b ≤ N) (hN : N < 65536) (hcap : N ≤ cap) :
    Calls Try.prog 80 #[.slice (some ⟨g, 0, none⟩) N cap, .int .i64 (a : Int), .int .i64 (b : Int)] w fun e w' => e = .returned (.tuple #[]) ∧ Two g g w w' ∧ ∃ Y, RW w' g N Y rest ∧ SO.Sw a b X Y := by
  have hgl := h.lt
  have h := W_hid h
  obtain ⟨n, hn⟩ : ∃ n, b - a = n := ⟨_, rfl⟩
  have hni : (b : Int) - (a : Int) = (n : Int) := by omega
  have hn8 : 8 ≤ n := by omega
  have hnN : n < 65536 := by omega
  obtain ⟨d, hd⟩ : ∃ d, n / 4 = d := ⟨_, rfl⟩
  have hdi : (n : Int).tdiv 4 = (d : Int) := by rw [← hd]; rfl
  obtain ⟨d2, hd2⟩ : ∃ d2, d * 2 = d2 := ⟨_, rfl⟩
  have hd2i : (d : Int) * 2 = (d2 : Int) := by omega
  obtain ⟨s1, hs1⟩ : ∃ s, a + d2 = s := ⟨_, rfl⟩
  have hs1i : (a : Int) + (d2 : Int) = (s1 : Int) := by omega
  obtain ⟨s0, hs0⟩ : ∃ s, s1 - 1 = s := ⟨_, rfl⟩
  have hs0i : (s1 : Int) - 1 = (s0 : Int) := by omega
  have hbd : Hid (a ≤ s0 ∧ s1 + 1 < b ∧ s0 + 1 = s1 ∧ a + n = b) := by show _ ∧ _ ∧ _ ∧ _; omega
  have hsm : s1 ≤ 65536 ∧ s0 ≤ 65536 ∧ d2 ≤ 65536 ∧ d ≤ 65536 := by omega
  have cP := W_hid (fun w => power_any n w (by omega) hnN)
  have b1 : Below w.heap.size w (w.alloc (.cells #[.int .u64 (n : Int)] 117)) := (Below.refl _ _).alloc (Nat.le_refl _) _
  have hY := W_hid (Blk.new w 117 [.int .u64 (n : Int)] rfl)
  have hR1 := W_hid (h.out.keep b1)
  have hT1 : Hid (Two g w.heap.size w (w.alloc (.cells #[.int .u64 (n : Int)] 117))) := Two.of b1
  have hgy : ¬ g = w.heap.size := by omega
  replace hd := W_hid hd
  replace hd2 := W_hid hd2
  replace hs1 := W_hid hs1
  replace hs0 := W_hid hs0
  replace hn := W_hid hn
  clear b1
  go_enter Try.func80, Try.ntmps80
  go_wp2_with fail
  refine (cP.out _).mono ?_
  rintro e w1 ⟨⟨m, rfl, hm1, hm2⟩, rfl⟩
  have hmi : 0 ≤ (m : Int) - 1 ∧ (m : Int) - 1 ≤ 131072 := by omega
  replace hm1 := W_hid hm1
  replace hm2 := W_hid hm2
  go_wp2_with fail
  obtain ⟨W1, hW1⟩ : ∃ W, w.alloc (.cells #[.int .u64 (n : Int)] 117) = W := ⟨_, rfl⟩
  rw [hW1] at hY hR1 hT1 ⊢
  go_loopw [9] (fun v wr => ∃ (q x : Nat) (Z : Nat → Nat), v = .int .i64 (q : Int) ∧ s0 ≤ q ∧ q ≤ s1 + 2 ∧ Hid (x < 18446744073709551616) ∧ Hid (Blk wr w.heap.size 117 [.int .u64 (x : Int)]) ∧ Hid (RW wr g N Z rest) ∧ Hid (SO.Sw a b X Z) ∧ Hid (Two g w.heap.size w wr)) (fun v _ => s1 + 2 - (intOf v).toNat)
  case atStart => exact ⟨s0, n, X, rfl, Nat.le_refl _, by have := hbd.out; omega, (show n < 18446744073709551616 by omega), hY, hR1, W_hid .refl, hT1⟩
  case round =>
    clear hY hR1 hT1
    obtain ⟨q, x, Z, rfl, hq1, hq2, hx, hY, hR, hS, hT⟩ := hrel
    by_cases hle : q ≤ s1 + 1
    · have hlei : (q : Int) ≤ (s1 : Int) + 1 := by omega
      have cN := W_hid (Next_any w.heap.size x wr hY.out hx.out)
      go_wp2_with fail
      refine cN.out.mono ?_
      rintro e w2 ⟨z, rfl, hz, hY2, hT2⟩
      obtain ⟨r, hr1, hr2⟩ := and_some z m n hz hm1.out hm2.out (by omega)
      have hR2 := W_hid (hR.out.two hT2 hgy)
      have hT3 := W_hid (hT.out.trans (Two.wider hT2))
      replace hz := W_hid hz
      replace hY2 := W_hid hY2
      have hrb : r ≤ 131072 := by omega
      clear hY hR hT hT2 cN
      obtain ⟨o, ho, hor⟩ : ∃ o : Nat, o < n ∧ ((r < n ∧ o = r) ∨ (n ≤ r ∧ (r : Int) - (n : Int) = (o : Int))) := by
        by_cases hh : r < n
        · exact ⟨r, hh, .inl ⟨hh, rfl⟩⟩
        · exact ⟨r - n, by omega, .inr ⟨by omega, by omega⟩⟩
      obtain ⟨p, hp⟩ : ∃ p, a + o = p := ⟨_, rfl⟩
      have hpi : (a : Int) + (o : Int) = (p : Int) := by omega
      have hpb : a ≤ p ∧ p < b ∧ p < N := by have := hbd.out; omega
      have hqb : a ≤ q ∧ q < b ∧ q < N := by have := hbd.out; omega
      have dq := hR2.out.cell q hqb.2.2
      have dp := hR2.out.cell p hpb.2.2
      have gz := hR2.out.fz
      obtain ⟨vq, hvq⟩ : ∃ v, Z q = v := ⟨_, rfl⟩
      obtain ⟨vp, hvp⟩ : ∃ v, Z p = v := ⟨_, rfl⟩
      have hR4 := W_hid (hR2.out.swap q p hqb.2.2 hpb.2.2)
      have hT4 := W_hid ((hT3.out.setCell (p := ⟨g, q, none⟩) (.inl rfl) (.int .i64 (Z p : Int))).setCell (p := ⟨g, p, none⟩) (.inl rfl) (.int .i64 (Z q : Int)))
      have hS4 := W_hid (hS.out.step (i := q) (j := p) hqb.1 hqb.2.1 hpb.1 hpb.2.1)
      have hY4 := W_hid ((hY2.out.far (p := ⟨g, q, none⟩) (fun e => hgy e.symm) (.int .i64 (vp : Int))).far (p := ⟨g, p, none⟩) (fun e => hgy e.symm) (.int .i64 (vq : Int)))
      rw [hvq, hvp] at hR4 hT4
      rw [hvq] at dq
      rw [hvp] at dp
      replace hvq := W_hid hvq
      replace hvp := W_hid hvp
      replace hp := W_hid hp
      obtain ⟨V, hV⟩ : ∃ V, World.drew ((w2.setCell ⟨g, q, none⟩ (.int .i64 (vp : Int))).setCell ⟨g, p, none⟩ (.int .i64 (vq : Int))) = V := ⟨_, rfl⟩
      have hR5 : RW V g N (SO.swp Z q p) rest := by rw [← hV]; exact hR4.out.drew
      have hT5 : Two g w.heap.size w V := by rw [← hV]; exact ⟨hT4.out.os, hT4.out.tape, hT4.out.output, hT4.out.size, hT4.out.block⟩
      have hY5 : Blk V w.heap.size 117 [.int .u64 (z : Int)] := by rw [← hV]; exact hY4.out
      replace hR5 := W_hid hR5
      replace hT5 := W_hid hT5
      replace hY5 := W_hid hY5
      clear hR2 hT3 hY2 hR4 hT4 hY4 hS
      obtain ⟨qn, hqn⟩ : ∃ x, q + 1 = x := ⟨_, rfl⟩
      have hqi : (q : Int) + 1 = (qn : Int) := by omega
      have hqs : s0 ≤ qn ∧ qn ≤ s1 + 2 := by omega
      have hqm : Hid (s1 + 2 - qn < s1 + 2 - q) := by show _ < _; omega
      replace hqn := W_hid hqn
      rcases hor with ⟨hr, rfl⟩ | ⟨hr, hro⟩
      all_goals
        have hcs : p = q ∨ ¬ p = q := by omega
        rcases hcs with hqa | hne
        case' inl =>
          obtain rfl : vq = vp := hvq.out.symm.trans (by rw [← hqa]; exact hvp.out)
          subst hqa
        case' inr => have hne2 : ¬ q = p := fun e => hne e.symm
        all_goals
          go_wp2_with fail
          go_region
          try rw [hV]
          clear hV dq dp gz
          go_wp2_with fail
          go_roundw
          case rel => exact ⟨qn, z, _, rfl, hqs.1, hqs.2, hz, hY5, hR5, hS4, hT5⟩
          case measure => (have := hqm.out); first | (simp [intOf]; omega) | simp [intOf]
    · have hlei : ¬ (q : Int) ≤ (s1 : Int) + 1 := by omega
      go_wp2_with fail
      go_end0
      exact ⟨rfl, Two.own hT.out (Nat.le_refl _), Z, hR.out, hS.out⟩

set_option maxRecDepth 100000 in
set_option maxHeartbeats 4000000 in
theorem pivot_any (g N cap : Nat) (rest : List Value) (a b : Nat) (X : Nat → Nat) (w : World) (h : RW w g N X rest) (hab : a + 8 ≤ b) (hb : b ≤ N) (hN : N < 65536) (hcap : N ≤ cap) :
    Calls Try.prog 81 #[.slice (some ⟨g, 0, none⟩) N cap, .int .i64 (a : Int), .int .i64 (b : Int)] w fun e w' => ∃ p c : Nat, e = .returned (.tuple #[.int .i64 (p : Int), .int .i64 (c : Int)]) ∧ a ≤ p ∧ p < b ∧ c ≤ 2 ∧ Two g g w w' ∧ RW w' g N X rest := by
  have hgl := h.lt
  have hN' : N ≤ 65536 := by omega
  obtain ⟨n, hn⟩ : ∃ n, b - a = n := ⟨_, rfl⟩
  have hni : (b : Int) - (a : Int) = (n : Int) := by omega
  have hn8 : 8 ≤ n := by omega
  have hnN : n < 65536 := by omega
  obtain ⟨d, hd⟩ : ∃ d, n / 4 = d := ⟨_, rfl⟩
  have hdi : (n : Int).tdiv 4 = (d : Int) := by rw [← hd]; rfl
  obtain ⟨d2, hd2⟩ : ∃ d2, d * 2 = d2 := ⟨_, rfl⟩
  have hd2i : (d : Int) * 2 = (d2 : Int) := by omega
  obtain ⟨d3, hd3⟩ : ∃ d3, d * 3 = d3 := ⟨_, rfl⟩
  have hd3i : (d : Int) * 3 = (d3 : Int) := by omega
  obtain ⟨i, hi⟩ : ∃ s, a + d = s := ⟨_, rfl⟩
  have hii : (a : Int) + (d : Int) = (i : Int) := by omega
  obtain ⟨j, hj⟩ : ∃ s, a + d2 = s := ⟨_, rfl⟩
  have hji : (a : Int) + (d2 : Int) = (j : Int) := by omega
  obtain ⟨k, hk⟩ : ∃ s, a + d3 = s := ⟨_, rfl⟩
  have hki : (a : Int) + (d3 : Int) = (k : Int) := by omega
  have hsm : i < 65536 ∧ j < 65536 ∧ k < 65536 ∧ d ≤ 65536 ∧ d2 ≤ 65536 ∧ d3 ≤ 65536 := by omega
  have hbd : Hid (a ≤ i ∧ i < b ∧ a ≤ j ∧ j < b ∧ a ≤ k ∧ k < b) := by show _ ∧ _ ∧ _ ∧ _ ∧ _ ∧ _; omega
  have hbd2 : Hid (50 ≤ n → a + 1 ≤ i ∧ i + 1 < b ∧ a + 1 ≤ j ∧ j + 1 < b ∧ a + 1 ≤ k ∧ k + 1 < b) := by intro _; omega
  have b1 : Below w.heap.size w (w.alloc (.cells #[.int .i64 0] 3)) := (Below.refl _ _).alloc (Nat.le_refl _) _
  have hY := Blk.new w 3 [.int .i64 0] rfl
  have hR1 := h.keep b1
  have hT1 : Two w.heap.size w.heap.size w (w.alloc (.cells #[.int .i64 0] 3)) := Two.of b1
  have hgy : w.heap.size ≠ g := by omega
  obtain ⟨W1, hW1⟩ : ∃ W, w.alloc (.cells #[.int .i64 0] 3) = W := ⟨_, rfl⟩
  rw [hW1] at hY hR1 hT1
  -- the three places
  have hmed := W_hid (fun a b c s (V : World) h h1 h2 h3 h4 h5 => median_any g N cap rest a b c w.heap.size s X V h h1 h2 h3 hN' hcap h4 hgy h5)
  have hadj := W_hid (fun a s (V : World) h h1 h2 h4 h5 => adjacent_any g N cap rest a w.heap.size s X V h h1 h2 hN' hcap h4 hgy h5)
  replace hn := W_hid hn
  replace hd := W_hid hd
  replace hd2 := W_hid hd2
  replace hd3 := W_hid hd3
  replace hi := W_hid hi
  replace hj := W_hid hj
  replace hk := W_hid hk
  replace hgy := W_hid hgy
  replace hY := W_hid hY
  replace hR1 := W_hid hR1
  replace hT1 := W_hid hT1
  clear b1 h
  go_enter Try.func81, Try.ntmps81
  by_cases h50 : 50 ≤ n
  · have hb2 := hbd2.out h50
    have hA1 := W_hid (hadj.out i 0 W1 hR1.out (by omega) (by omega) hY.out (by omega))
    go_wp2_with fail
    try rw [hW1]
    clear hW1
    refine hA1.out.mono ?_
    rintro e w2 ⟨p1, rfl, hp1, hp1', k1⟩
    obtain ⟨s1, l1, u1, y1⟩ := k1.ex
    have hA2 := W_hid (hadj.out j s1 w2 k1.row (by omega) (by omega) y1 (by omega))
    replace k1 := W_hid k1
    clear y1 hA1 hR1 hY
    go_wp2_with fail
    refine hA2.out.mono ?_
    rintro e w3 ⟨p2, rfl, hp2, hp2', k2⟩
    obtain ⟨s2, l2, u2, y2⟩ := k2.ex
    have hA3 := W_hid (hadj.out k s2 w3 k2.row (by omega) (by omega) y2 (by omega))
    replace k2 := W_hid k2
    clear y2 hA2
    go_wp2_with fail
    refine hA3.out.mono ?_
    rintro e w4 ⟨p3, rfl, hp3, hp3', k3⟩
    obtain ⟨s3, l3, u3, y3⟩ := k3.ex
    have hA4 := W_hid (hmed.out p1 p2 p3 s3 w4 k3.row (by omega) (by omega) (by omega) y3 (by omega))
    replace k3 := W_hid k3
    clear y3 hA3
    go_wp2_with fail
    refine hA4.out.mono ?_
    rintro e w5 ⟨p4, rfl, hp4, k4⟩
    obtain ⟨s4, l4, u4, y4⟩ := k4.ex
    have hfin : Hid (a ≤ p4 ∧ p4 < b ∧ Two g g w w5 ∧ RW w5 g N X rest) := ⟨by omega, by omega, Two.own (g := g) (Two.wider ((((hT1.out.trans k1.out.two).trans k2.out.two).trans k3.out.two).trans k4.two)) (Nat.le_refl _), k4.row⟩
    have c4 := y4.cell (j := 0) rfl
    have hs4 : s4 ≤ 12 := by omega
    clear k1 k2 k3 k4 hA4 y4 l1 l2 l3 l4 u1 u2 u3 u4 hb2 hp1 hp1' hp2 hp2' hp3 hp3' hp4 hT1
    have hcs : s4 = 0 ∨ s4 = 12 ∨ (¬ s4 = 0 ∧ ¬ s4 = 12) := by omega
    rcases hcs with rfl | rfl | ⟨q1, q2⟩
    · go_wp2_with fail
      go_ret2
      exact ⟨p4, 1, rfl, hfin.out.1, hfin.out.2.1, by omega, hfin.out.2.2⟩
    · go_wp2_with fail
      go_ret2
      exact ⟨p4, 2, rfl, hfin.out.1, hfin.out.2.1, by omega, hfin.out.2.2⟩
    · have z1 : ((s4 : Int) == 0) = false := by simp; omega
      have z2 : ((s4 : Int) == 12) = false := by simp; omega
      go_wp2_with fail
      go_ret2
      exact ⟨p4, 0, rfl, hfin.out.1, hfin.out.2.1, by omega, hfin.out.2.2⟩
  · have hb2 := hbd.out
    have hA4 := W_hid (hmed.out i j k 0 W1 hR1.out (by omega) (by omega) (by omega) hY.out (by omega))
    go_wp2_with fail
    try rw [hW1]
    clear hW1
    refine hA4.out.mono ?_
    rintro e w5 ⟨p4, rfl, hp4, k4⟩
    obtain ⟨s4, l4, u4, y4⟩ := k4.ex
    have hfin : Hid (a ≤ p4 ∧ p4 < b ∧ Two g g w w5 ∧ RW w5 g N X rest) := ⟨by omega, by omega, Two.own (g := g) (Two.wider (hT1.out.trans k4.two)) (Nat.le_refl _), k4.row⟩
    have c4 := y4.cell (j := 0) rfl
    have hs4 : s4 ≤ 12 := by omega
    clear k4 hA4 y4 l4 u4 hb2 hp4 hT1 hR1 hY
    have hcs : s4 = 0 ∨ s4 = 12 ∨ (¬ s4 = 0 ∧ ¬ s4 = 12) := by omega
    rcases hcs with rfl | rfl | ⟨q1, q2⟩
    · go_wp2_with fail
      go_ret2
      exact ⟨p4, 1, rfl, hfin.out.1, hfin.out.2.1, by omega, hfin.out.2.2⟩
    · go_wp2_with fail
      go_ret2
      exact ⟨p4, 2, rfl, hfin.out.1, hfin.out.2.1, by omega, hfin.out.2.2⟩
    · have z1 : ((s4 : Int) == 0) = false := by simp; omega
      have z2 : ((s4 : Int) == 12) = false := by simp; omega
      go_wp2_with fail
      go_ret2
      exact ⟨p4, 0, rfl, hfin.out.1, hfin.out.2.1, by omega, hfin.out.2.2⟩
end IS
end Go.Proofs.Ytieneehpijilpaa

/- pdqsortOrdered, slices.Sort: rows of any length below 65536, where no number stands twice. -/
namespace Go.Proofs.Ytieneehpijilpaa
open Go.ChangeShapes Go.WideShapes Go.ChangeAt Go.RowKit
set_option linter.unusedVariables false
set_option linter.unusedSimpArgs false
namespace IS

/-- What the sort does to a range of so many. -/
def PdqAt (g N cap : Nat) (rest : List Value) (L : Nat) : Prop := ∀ (a b k : Nat) (X : Nat → Nat) (w : World), b - a = L → a ≤ b → b ≤ N → k ≤ 1000 → RW w g N X rest → SO.Bel X a b → SO.Inj X N → (∀ i, i < N → X i < 9223372036854775808) →
  Calls Try.prog 74 #[.slice (some ⟨g, 0, none⟩) N cap, .int .i64 (a : Int), .int .i64 (b : Int), .int .i64 (k : Int)] w fun e w' => e = .returned (.tuple #[]) ∧ Two g g w w' ∧ ∃ Y, RW w' g N Y rest ∧ SO.Sw a b X Y ∧ SO.Up Y a b

set_option maxRecDepth 100000 in
set_option maxHeartbeats 16000000 in
theorem pdq_step (g N cap : Nat) (rest : List Value) (hN : N < 65536) (hcap : N ≤ cap) (L : Nat) (IH : ∀ L', L' < L → PdqAt g N cap rest L') : PdqAt g N cap rest L := by
  intro a b k X w hL hab hb hk h hBel hInj hX
  have hN' : N ≤ 65536 := by omega
  have h := W_hid h
  have hBel := W_hid hBel
  have hInj := W_hid hInj
  have hX := W_hid hX
  have hIH := W_hid IH
  have hLf0 : Hid (SO.Left X a b a b) := SO.left_begin X a b
  have hXs : Hid (∀ Z : Nat → Nat, SO.Sw a b X Z → ∀ i, i < N → Z i < 9223372036854775808) := fun Z s i hi => (s.wide (Nat.zero_le a) hb).all (P := fun v => v < 9223372036854775808) (fun p _ hp => hX.out p hp) i (Nat.zero_le _) hi
  clear IH hX
  replace hL := W_hid hL
  go_enter Try.func74, Try.ntmps74
  go_wp2_with fail
  go_loopw [1, 2, 3, 8, 9] (fun u v l x y wr => ∃ (a1 b1 k1 : Nat) (t1 t2 : Bool) (Y : Nat → Nat), u = .int .i64 (a1 : Int) ∧ v = .int .i64 (b1 : Int) ∧ l = .int .i64 (k1 : Int) ∧ x = .bool t1 ∧ y = .bool t2 ∧ a ≤ a1 ∧ a1 ≤ b1 ∧ b1 ≤ b ∧ k1 ≤ 1000 ∧ Hid (RW wr g N Y rest) ∧ Hid (SO.Sw a b X Y) ∧ Hid (SO.Bel Y a1 b1) ∧ Hid (SO.Left Y a b a1 b1) ∧ Hid (Two g g w wr)) (fun u v _ _ _ _ => (intOf v - intOf u).toNat)
  case atStart => exact ⟨a, b, k, true, true, X, rfl, rfl, rfl, rfl, rfl, Nat.le_refl _, hab, Nat.le_refl _, hk, h, W_hid .refl, hBel, hLf0, W_hid (Two.refl _ _ _)⟩
  case round =>
    clear h hBel hLf0
    obtain ⟨a1, b1, k1, t1, t2, Y, rfl, rfl, rfl, rfl, rfl, q1, q2, q3, qk, hR, hS, hB, hLf, hT⟩ := hrel
    obtain ⟨n, hn⟩ : ∃ n, b1 - a1 = n := ⟨_, rfl⟩
    have hni : (b1 : Int) - (a1 : Int) = (n : Int) := by omega
    have hnb : n ≤ 65536 := by omega
    have hb1N : b1 ≤ N := by omega
    by_cases h12 : n ≤ 12
    · have c := W_hid (insert_any g N cap rest a1 b1 Y wr hR.out q2 hb1N hN' hcap (hXs.out Y hS.out))
      replace hn := W_hid hn
      go_wp2_with fail
      refine c.out.mono ?_
      rintro e w5 ⟨rfl, hT5, Z, hR5, hS5, hU5⟩
      have hfin : Hid (Two g g w w5 ∧ ∃ Y, RW w5 g N Y rest ∧ SO.Sw a b X Y ∧ SO.Up Y a b) := ⟨hT.out.trans hT5, Z, hR5, hS.out.trans (hS5.wide q1 q3), SO.left_done (SO.left_sw hLf.out hS5 q1 q3) hU5⟩
      clear c hT5 hR5 hS5 hU5
      go_wp2_with fail
      refine bodyPost_ret (results_none rfl _ _ _) rfl ?_
      exact ⟨rfl, hfin.out⟩
    · have hlt : a1 + 12 < b1 := by omega
      by_cases hk0 : k1 = 0
      · have c := W_hid (heap_any g N cap rest a1 b1 Y wr hR.out (by omega) hb1N hN' hcap)
        subst hk0
        replace hn := W_hid hn
        go_wp2_with fail
        refine c.out.mono ?_
        rintro e w5 ⟨rfl, hT5, Z, hR5, hS5, hU5⟩
        have hfin : Hid (Two g g w w5 ∧ ∃ Y, RW w5 g N Y rest ∧ SO.Sw a b X Y ∧ SO.Up Y a b) := ⟨hT.out.trans hT5, Z, hR5, hS.out.trans (hS5.wide q1 q3), SO.left_done (SO.left_sw hLf.out hS5 q1 q3) hU5⟩
        clear c hT5 hR5 hS5 hU5
        go_wp2_with fail
        refine bodyPost_ret (results_none rfl _ _ _) rfl ?_
        exact ⟨rfl, hfin.out⟩
      · have hkz : ((k1 : Int) == 0) = false := by simp; omega
        obtain ⟨kk, hkk⟩ : ∃ kk, k1 - 1 = kk := ⟨_, rfl⟩
        have hkki : (k1 : Int) - 1 = (kk : Int) := by omega
        have hkb : kk ≤ 1000 := by omega
        have cB := W_hid (break_any g N cap rest a1 b1 Y wr hR.out (by omega) hb1N hN hcap)
        replace hn := W_hid hn
        replace hkk := W_hid hkk
        -- the patterns
        go_upto_if 35 with fail
        go_cut [3] from 19 to 133 (fun l wx => ∃ (k2 : Nat) (Z : Nat → Nat), l = .int .i64 (k2 : Int) ∧ k2 ≤ 1000 ∧ Hid (RW wx g N Z rest) ∧ Hid (SO.Sw a1 b1 Y Z) ∧ Hid (Two g g w wx))
        case first =>
          cases t1 with
          | true =>
            go_wp2_with fail
            go_meet
            exact ⟨k1, Y, rfl, qk, hR, W_hid .refl, hT⟩
          | false =>
            go_wp2_with fail
            refine cB.out.mono ?_
            rintro e w5 ⟨rfl, hT5, Z, hR5, hS5⟩
            replace hT5 := W_hid (hT.out.trans hT5)
            replace hR5 := W_hid hR5
            replace hS5 := W_hid hS5
            go_wp2_with fail
            go_meet
            exact ⟨kk, Z, rfl, hkb, hR5, hS5, hT5⟩
        case rest =>
        clear hR hT cB
        obtain ⟨k2, Z, rfl, qk2, hR, hS2, hT⟩ := hcut
        have cV := W_hid (pivot_any g N cap rest a1 b1 Z wc hR.out (by omega) hb1N hN hcap)
        go_wp2_with fail
        refine cV.out.mono ?_
        rintro e w5 ⟨p, c, rfl, hp1, hp2, hc, hT5, hR5⟩
        replace hT := W_hid (hT.out.trans hT5)
        replace hR := W_hid hR5
        have cR := W_hid (reverse_any g N cap rest a1 b1 Z w5 hR5 (by omega) hb1N hN' hcap)
        obtain ⟨p2, hp2e⟩ : ∃ p2, b1 - 1 - (p - a1) = p2 := ⟨_, rfl⟩
        obtain ⟨b2, hb2e⟩ : ∃ b2, b1 - 1 = b2 := ⟨_, rfl⟩
        obtain ⟨p3, hp3e⟩ : ∃ p3, p - a1 = p3 := ⟨_, rfl⟩
        have e1 : (b1 : Int) - 1 = (b2 : Int) := by omega
        have e2 : (p : Int) - (a1 : Int) = (p3 : Int) := by omega
        have e3 : (b2 : Int) - (p3 : Int) = (p2 : Int) := by omega
        have hpb : Hid (a1 ≤ p2 ∧ p2 < b1) := by show _ ∧ _; omega
        have hpsm : p2 ≤ 65536 ∧ b2 ≤ 65536 ∧ p3 ≤ 65536 := by omega
        replace hp2e := W_hid hp2e
        replace hb2e := W_hid hb2e
        replace hp3e := W_hid hp3e
        clear cV hT5 hR5
        go_upto_if 50 with fail
        go_cut [11, 12] from 19 to 133 (fun u v wx => ∃ (p c : Nat) (Z2 : Nat → Nat), u = .int .i64 (p : Int) ∧ v = .int .i64 (c : Int) ∧ a1 ≤ p ∧ p < b1 ∧ Hid (RW wx g N Z2 rest) ∧ Hid (SO.Sw a1 b1 Z Z2) ∧ Hid (Two g g w wx))
        case first =>
          by_cases hc2 : c = 2
          · subst hc2
            go_wp2_with fail
            refine cR.out.mono ?_
            rintro e w6 ⟨rfl, hT6, Z2, hR6, hS6⟩
            replace hT6 := W_hid (hT.out.trans hT6)
            replace hR6 := W_hid hR6
            replace hS6 := W_hid hS6
            go_wp2_with fail
            go_meet
            exact ⟨p2, 1, Z2, rfl, rfl, hpb.out.1, hpb.out.2, hR6, hS6, hT6⟩
          · have hcz : ((c : Int) == 2) = false := by simp; omega
            go_wp2_with fail
            go_meet
            exact ⟨p, c, Z, rfl, rfl, hp1, hp2, hR, W_hid .refl, hT⟩
        case rest =>
        clear hR hT cR hp1 hp2 hc hpb hpsm e1 e2 e3 hp2e hb2e hp3e
        obtain ⟨p, c, Z2, rfl, rfl, hp1, hp2, hR, hS3, hT⟩ := hcut
        obtain ⟨W2, hW2⟩ : ∃ W, W = wc := ⟨wc, rfl⟩
        go_upto_region 15 with fail
        go_cut [68] from 19 to 133 (fun v wx => (∃ t : Bool, v = .bool t) ∧ wx = W2)
        case first =>
          have hce : c = 1 ∨ ¬ c = 1 := by omega
          rcases hce with rfl | hc1
          case' inr => have hcz : ((c : Int) == 1) = false := by simp; omega
          all_goals
            cases t1 <;> cases t2
          all_goals
            go_wp2_with fail
            go_meet
            exact ⟨⟨_, rfl⟩, hW2.symm⟩
        case rest =>
        obtain ⟨⟨t, rfl⟩, hwc⟩ := hcut
        rw [hwc]
        rw [← hW2] at hR hT
        clear hW2 hwc
        have hS23 := W_hid (hS2.out.trans hS3.out)
        have cI := W_hid (partins_any g N cap rest a1 b1 Z2 W2 hR.out (by omega) hb1N hN' hcap (SO.bel_sw (SO.bel_sw hB.out hS2.out) hS3.out))
        go_upto_if 68 with fail
        go_cut [] from 19 to 133 (fun wx => ∃ (Z4 : Nat → Nat), Hid (RW wx g N Z4 rest) ∧ Hid (SO.Sw a1 b1 Y Z4) ∧ Hid (Two g g w wx))
        case first =>
          cases t with
          | true =>
            go_wp2_with fail
            refine cI.out.mono ?_
            rintro e w6 ⟨tt, rfl, hT6, Z4, hR6, hS6, hU6⟩
            replace hT6 := W_hid (hT.out.trans hT6)
            replace hR6 := W_hid hR6
            replace hS6 := W_hid (hS23.out.trans hS6)
            cases tt with
            | true =>
              have hfin : Hid (Two g g w w6 ∧ ∃ Y, RW w6 g N Y rest ∧ SO.Sw a b X Y ∧ SO.Up Y a b) := ⟨hT6.out, Z4, hR6.out, hS.out.trans (hS6.out.wide q1 q3), SO.left_done (SO.left_sw hLf.out hS6.out q1 q3) (hU6 rfl)⟩
              clear hU6
              go_wp2_with fail
              refine bodyPost_ret (results_none rfl _ _ _) rfl ?_
              exact ⟨rfl, hfin.out⟩
            | false =>
              clear hU6
              go_wp2_with fail
              go_meet
              exact ⟨Z4, hR6, hS6, hT6⟩
          | false =>
            go_wp2_with fail
            go_meet
            exact ⟨Z2, hR, hS23, hT⟩
        case rest =>
        clear hR hT hS2 hS3 hS23 cI
        obtain ⟨Z4, hR, hS4, hT⟩ := hcut
        have hB4 := W_hid (SO.bel_sw hB.out hS4.out)
        have hS5 := W_hid (hS.out.trans (hS4.out.wide q1 q3))
        have hI5 := W_hid (hS5.out.inj hb hInj.out)
        have hLf5 := W_hid (SO.left_sw hLf.out hS4.out q1 q3)
        clear hLf hB hS hS4
        go_upto_region 17 with fail
        go_cut [87] from 19 to 133 (fun v wx => v = .bool false ∧ Hid (RW wx g N Z4 rest) ∧ Hid (Two g g w wx))
        case first =>
          rename_i J1 K1 hJ1 hK1
          by_cases ha0 : a1 = 0
          · subst ha0
            go_quiet (fail)
            refine hK1 _ _ (Met.intro (hJ1 _ _ ?_))
            repeat apply Exists.intro
            exact ⟨⟨rfl, W_hid (hR.out.drewN nq), W_hid (hT.out.drew nq)⟩, rfl⟩
          · obtain ⟨a0, ha⟩ : ∃ a0, a1 = a0 + 1 := ⟨a1 - 1, by omega⟩
            have ea : (a1 : Int) - 1 = (a0 : Int) := by omega
            have hpos : 0 < a1 := by omega
            have hb0 : a0 < N ∧ p < N := by omega
            have da := hR.out.cell a0 hb0.1
            have dp := hR.out.cell p hb0.2
            obtain ⟨va, hva⟩ : ∃ v, Z4 a0 = v := ⟨_, rfl⟩
            obtain ⟨vp, hvp⟩ : ∃ v, Z4 p = v := ⟨_, rfl⟩
            have hless : va < vp := by
              rcases hB4.out with h0 | h0
              · omega
              · have h1 := h0 p hp1 hp2
                rw [show a1 - 1 = a0 by omega, hva, hvp] at h1
                rcases Nat.lt_or_ge va vp with hh | hh
                · exact hh
                · have h2 := hI5.out a0 p hb0.1 hb0.2 (by rw [hva, hvp]; omega)
                  omega
            rw [hva] at da
            rw [hvp] at dp
            have hL := W_hid (fun t => Calls.quiet_of_same (Less_any va vp (wc.drewN t)))
            rw [show decide (va < vp) = true by simp [hless]] at hL
            replace ha := W_hid ha
            replace hva := W_hid hva
            replace hvp := W_hid hvp
            replace hless := W_hid hless
            go_quiet ((go_at_call 84; exact hL.out _))
            refine hK1 _ _ (Met.intro (hJ1 _ _ ?_))
            repeat apply Exists.intro
            exact ⟨⟨rfl, W_hid (hR.out.drewN nq), W_hid (hT.out.drew nq)⟩, rfl⟩
        case rest =>
        clear hR hT
        obtain ⟨rfl, hR, hT⟩ := hcut
        have cP := W_hid (partition_any g N cap rest a1 b1 p Z4 wc hR.out hp1 hp2 hb1N hN' hcap)
        go_wp2_with fail
        refine cP.out.mono ?_
        rintro e w7 ⟨m, t3, rfl, hm1, hm2, hT7, Z5, hR7, hS7, hP7⟩
        replace hT7 := W_hid (hT.out.trans hT7)
        have hB7 := W_hid (SO.bel_sw hB4.out hS7)
        have hS8 := W_hid (hS5.out.trans (hS7.wide q1 q3))
        have hI8 := W_hid (hS8.out.inj hb hInj.out)
        have hLf8 := W_hid (SO.left_sw hLf5.out hS7 q1 q3)
        replace hR7 := W_hid hR7
        replace hP7 := W_hid hP7
        obtain ⟨l1, hl1⟩ : ∃ l, m - a1 = l := ⟨_, rfl⟩
        obtain ⟨l2, hl2⟩ : ∃ l, b1 - m = l := ⟨_, rfl⟩
        obtain ⟨th, hth⟩ : ∃ t, n / 8 = t := ⟨_, rfl⟩
        have f1 : (m : Int) - (a1 : Int) = (l1 : Int) := by omega
        have f2 : (b1 : Int) - (m : Int) = (l2 : Int) := by omega
        have f3 : (n : Int).tdiv 8 = (th : Int) := by rw [← hth]; rfl
        have hlb : l1 ≤ 65536 ∧ l2 ≤ 65536 ∧ th ≤ 65536 := by omega
        obtain ⟨m1, hm1e⟩ : ∃ x, m + 1 = x := ⟨_, rfl⟩
        have f4 : (m : Int) + 1 = (m1 : Int) := by omega
        have hLL : Hid (l1 < L ∧ b1 - m1 < L ∧ m1 ≤ b1) := by
          have := hL.out
          show _ ∧ _ ∧ _
          omega
        have cL := W_hid (hIH.out l1 hLL.out.1 a1 m k2 Z5 w7 hl1 hm1 (by omega) qk2 hR7.out (SO.bel_left hB7.out (by omega)) hI8.out (hXs.out Z5 hS8.out))
        have cU := W_hid (hIH.out (b1 - m1) hLL.out.2.1 m1 b1 k2 Z5 w7 rfl hLL.out.2.2 hb1N qk2 hR7.out (by rw [← hm1e]; exact SO.bel_right hP7.out) hI8.out (hXs.out Z5 hS8.out))
        replace hl1 := W_hid hl1
        replace hl2 := W_hid hl2
        replace hth := W_hid hth
        clear cP hR hT hS7 hB4 hI5 hLf5 hS5
        by_cases hll : l1 < l2
        · clear cU
          go_wp2_with fail
          refine cL.out.mono ?_
          rintro e w8 ⟨rfl, hT8, Z6, hR8, hS9, hU9⟩
          have hP9 := SO.parted_left hP7.out hS9 hm2
          have hS9w := hS9.wide (a' := a1) (b' := b1) (Nat.le_refl _) (by omega)
          have hfin : Hid (RW w8 g N Z6 rest ∧ SO.Sw a b X Z6 ∧ SO.Bel Z6 m1 b1 ∧ SO.Left Z6 a b m1 b1 ∧ Two g g w w8) := by
            rw [← hm1e]
            exact ⟨hR8, hS8.out.trans (hS9.wide q1 (by omega)), SO.bel_right hP9, SO.left_lower (SO.left_sw hLf8.out hS9w q1 q3) hP9 hm1 hm2 hU9, hT7.out.trans hT8⟩
          have hmb : Hid (a ≤ m1 ∧ m1 ≤ b1 ∧ b1 - m1 < b1 - a1) := by show _ ∧ _ ∧ _; omega
          replace hm1e := W_hid hm1e
          clear hT8 hR8 hS9 hU9 hP9 hS9w cL
          go_wp2_with fail
          go_roundw
          case rel => exact ⟨m1, b1, k2, _, t3, Z6, rfl, rfl, rfl, rfl, rfl, hmb.out.1, hmb.out.2.1, q3, qk2, W_hid hfin.out.1, W_hid hfin.out.2.1, W_hid hfin.out.2.2.1, W_hid hfin.out.2.2.2.1, W_hid hfin.out.2.2.2.2⟩
          case measure => (have := hmb.out.2.2); first | (simp [intOf]; omega) | simp [intOf]
        · clear cL
          go_wp2_with fail
          refine cU.out.mono ?_
          rintro e w8 ⟨rfl, hT8, Z6, hR8, hS9, hU9⟩
          have hfin : Hid (RW w8 g N Z6 rest ∧ SO.Sw a b X Z6 ∧ SO.Bel Z6 a1 m ∧ SO.Left Z6 a b a1 m ∧ Two g g w w8) := by
            rw [← hm1e] at hS9 hU9
            have hP9 := SO.parted_right hP7.out hS9
            have hS9w := hS9.wide (a' := a1) (b' := b1) (by omega) (Nat.le_refl _)
            exact ⟨hR8, hS8.out.trans (hS9.wide (by omega) q3), SO.bel_left (SO.bel_sw hB7.out hS9w) (by omega), SO.left_upper (SO.left_sw hLf8.out hS9w q1 q3) hP9 hm1 hm2 hU9, hT7.out.trans hT8⟩
          have hmb : Hid (m ≤ b ∧ m - a1 < b1 - a1) := by show _ ∧ _; omega
          replace hm1e := W_hid hm1e
          clear hT8 hR8 hS9 hU9 cU
          go_wp2_with fail
          go_roundw
          case rel => exact ⟨a1, m, k2, _, t3, Z6, rfl, rfl, rfl, rfl, rfl, q1, hm1, hmb.out.1, qk2, W_hid hfin.out.1, W_hid hfin.out.2.1, W_hid hfin.out.2.2.1, W_hid hfin.out.2.2.2.1, W_hid hfin.out.2.2.2.2⟩
          case measure => (have := hmb.out.2); first | (simp [intOf]; omega) | simp [intOf]

theorem pdq_all (g N cap : Nat) (rest : List Value) (hN : N < 65536) (hcap : N ≤ cap) (L : Nat) : PdqAt g N cap rest L := by
  induction L using Nat.strongRecOn with
  | ind L ih => exact pdq_step g N cap rest hN hcap L ih

set_option maxRecDepth 100000 in
set_option maxHeartbeats 4000000 in
/-- slices.Sort of a row in which no number stands twice. -/
theorem Sort_all (g N cap : Nat) (rest : List Value) (X : Nat → Nat) (w : World) (h : RW w g N X rest) (hN : N < 65536) (hcap : N ≤ cap) (hX : ∀ i, i < N → X i < 9223372036854775808) (hI : SO.Inj X N) :
    Calls Try.prog 61 #[.slice (some ⟨g, 0, none⟩) N cap] w fun e w' => e = .returned (.tuple #[]) ∧ Two g g w w' ∧ ∃ Y, RW w' g N Y rest ∧ SO.Sw 0 N X Y ∧ SO.Up Y 0 N := by
  have cL := Len_any (N : Int) w (by omega) (by omega)
  have cP := W_hid (fun (k : Nat) hk => pdq_all g N cap rest hN hcap N 0 N k X w (by omega) (Nat.zero_le _) (Nat.le_refl _) hk h (.inl rfl) hI hX)
  clear h
  go_enter Try.func61, Try.ntmps61
  go_wp2_with (first
    | (go_at_call 75; refine cL.mono ?_; rintro e w' ⟨⟨k, rfl, hk⟩, rfl⟩)
    | (go_at_call 74; refine (cP.out _ (by omega)).mono ?_; rintro e w' ⟨rfl, hT, Y, hR, hS, hU⟩))
  go_end0
  exact ⟨rfl, hT, Y, hR, hS, hU⟩
end IS
end Go.Proofs.Ytieneehpijilpaa

/- slices.Sorted of a map's keys, Tables of any tree. -/
namespace Go.Proofs.Ytieneehpijilpaa
open Go.ChangeShapes Go.WideShapes Go.ChangeAt Go.RowKit
set_option linter.unusedVariables false
set_option linter.unusedSimpArgs false
namespace IS

set_option maxRecDepth 100000 in
set_option maxHeartbeats 4000000 in
/-- slices.Sorted of what Keys handed back. -/
theorem Sorted_all (Bm b : Nat) (M : Int → Option Nat) (w : World) (hBm : Bm < w.heap.size) (hb : b < w.heap.size) (hm : w.cell? ⟨Bm, 0, none⟩ = some (.map (some b))) (hMB : MB w b M)
    (hsm : ∀ ss, Nums M ss → ss.length < 65536) (hne : ∃ f : Nat, M f ≠ none) :
    Calls Try.prog 37 #[.func (.func 62) #[] #[.pointer (some ⟨Bm, 0, none⟩)]] w fun e w' => ∃ (v : Value) (l : List Nat), e = .returned v ∧ Nums M l ∧ l.Pairwise (· ≤ ·) ∧ Nlist w.heap.size w' v l ∧ Below w.heap.size w w' := by
  have cC := Collect_any Bm b M w hBm hb hm hMB
  have hlt := fun ss (h : Nums M ss) => h.lt hMB
  clear hm
  go_enter Try.func37, Try.ntmps37
  go_wp2_with (go_at_call 60; refine cC.mono ?_; rintro e w1 ⟨v, ss, rfl, hN, hown, hnil, hB⟩)
  have hne0 : ss ≠ [] := by
    obtain ⟨f, hf⟩ := hne
    intro e
    have := (hN.2 f).2 hf
    rw [e] at this
    cases this
  rcases hown.2 with ⟨h0, -⟩ | ⟨g, cap, cur, rfl, hbase, hg, h1, h2, h3, h4⟩
  · exact absurd (hnil.1 h0) hne0
  have hrw : RW w1 g ss.length (fun i => ss.getD i 0) (cur.toList.drop ss.length) := by
    refine ⟨?_⟩
    unfold Blk
    rw [hg, lst_of]
    have e : ss.map nk ++ cur.toList.drop ss.length = cur.toList := by
      rw [Nat.mul_one] at h4
      rw [← h4, List.take_append_drop]
    rw [e]
  have cS := W_hid (Sort_all g ss.length cap _ _ w1 hrw (hsm ss hN) (by omega) (fun i hi => by
    have := hlt ss hN (ss.getD i 0) (by rw [List.getD, List.getElem?_eq_getElem hi]; exact List.getElem_mem _)
    omega) (SO.inj_of_nodup _ _ (by rw [lst_of]; exact hN.1)))
  clear hrw h4 h3 hg
  go_wp2_with (go_at_call 61; refine cS.out.mono ?_; rintro e w2 ⟨rfl, hT, Y, hR, hS, hU⟩)
  go_ret
  refine ⟨_, SO.lst Y ss.length, rfl, ⟨?_, fun f => ?_⟩, up_pairwise hU, ⟨⟨g, cap, _, by rw [SO.lst_len]; rfl, hbase, by rw [SO.lst_len]; exact h1, hR.blk⟩⟩, hB.trans (hT.below hB.size hbase hbase)⟩
  · refine SO.lst_nodup _ _ (hS.inj (Nat.le_refl _) (SO.inj_of_nodup _ _ ?_))
    rw [lst_of]; exact hN.1
  · rw [hS.mem (Nat.le_refl _), lst_of, hN.2 f]


end IS
end Go.Proofs.Ytieneehpijilpaa

/- Rows that are owned, continued: what reads as cells, appended; rows made empty; cuts. Free of any program's numbers. -/
namespace Go.Proofs.Ytieneehpijilpaa
open Go.ChangeShapes Go.WideShapes Go.ChangeAt Go.RowKit
set_option linter.unusedVariables false
set_option linter.unusedSimpArgs false
namespace Own

/-- A slice value that reads as these cells, m elements of so many. -/
def Src (w : World) (size : Nat) (u : Value) (m : Nat) (ys : List Value) : Prop :=
  (u = .slice none 0 0 ∧ m = 0 ∧ ys = []) ∨ ∃ ad c, u = .slice (some ad) m c ∧ ys.length = m * size ∧ ∀ j v, ys[j]? = some v → w.cell? (ad.add j) = some v
theorem Src.keep {w w' : World} {size m : Nat} {u : Value} {ys : List Value} (h : Src w size u m ys) (hb : Below w.heap.size w w') : Src w' size u m ys := by
  rcases h with h | ⟨ad, c, h1, h2, h3⟩
  · exact .inl h
  · exact .inr ⟨ad, c, h1, h2, fun j v hj => by rw [hb.cell (World.block_lt_of_cell? w _ (h3 j v hj))]; exact h3 j v hj⟩
theorem Src.grown {w w' : World} {size m : Nat} {u : Value} {ys : List Value} {row : Option Nat} (h : Src w size u m ys) (hg : w.grownBy w' row) (hr : ∀ ad n c, u = .slice (some ad) n c → 0 < n → some ad.block ≠ row) : Src w' size u m ys := by
  rcases h with h | ⟨ad, c, h1, h2, h3⟩
  · exact .inl h
  · refine .inr ⟨ad, c, h1, h2, fun j v hj => ?_⟩
    have hm : 0 < m := by
      rcases Nat.eq_zero_or_pos m with h0 | h0
      · subst h0
        rw [Nat.zero_mul] at h2
        rw [List.eq_nil_of_length_eq_zero h2] at hj
        cases hj
      · exact h0
    refine cellg hg (h3 j v hj) ?_
    have e : (ad.add j).block = ad.block := by unfold Addr.add; split <;> rfl
    rw [e]
    exact hr ad m c h1 hm

/-- What the model says of an element's type. -/
def Info (P : Program) (e : TypeId) (z : Value) (size bytes : Nat) : Prop := ∃ i, P.info? e = some i ∧ i.zero = some z ∧ i.size = size ∧ i.bytes = bytes ∧ z.cells.size = size ∧ 0 < size
theorem info_of {P : Program} {e : TypeId} {z : Value} {size bytes : Nat} (h : (P.info? e).map (fun i => (i.zero, i.size, i.bytes)) = some (some z, size, bytes)) (h2 : z.cells.size = size) (h3 : 0 < size) : Info P e z size bytes := by
  cases hi : P.info? e with
  | none => rw [hi] at h; cases h
  | some i =>
    rw [hi] at h
    simp only [Option.map_some, Option.some.injEq, Prod.mk.injEq] at h
    exact ⟨i, hi, h.1, h.2.1, h.2.2, h2, h3⟩

theorem run_app {P : Program} {w : World} {t ty e : TypeId} {z : Value} {size bytes : Nat} (ht : P.underlying t = some (.slice e)) (hinf : Info P e z size bytes) {base n m : Nat} {v u : Value} {xs ys : List Value}
    (hown : w.ownsRow base e size v n xs) (hbase : base ≤ w.heap.size) (hs : Src w size u m ys) (h1 : ∀ u ∈ ys, u.oneCell' = true) (h63 : n + m ≤ maxLen) (hb : (n + m) * bytes ≤ 140737488355328) :
    ∃ v' w', (Builtin.append_ #[t, t] ty #[v, u]).run P w = .ok v' w' ∧ w'.ownsRow base e size v' (n + m) (xs ++ ys) ∧ w.grownBy w' v.ownBlock ∧ (v'.ownBlock = v.ownBlock ∨ v'.ownBlock = some w.heap.size) := by
  obtain ⟨i, hi, hz, hsize, hby, hzs, hsz⟩ := hinf
  rcases hs with ⟨rfl, rfl, rfl⟩ | ⟨ad, c, rfl, hl, hc⟩
  · refine ⟨v, w, run_append_owned_none (P := P) (w := w) base t ty e i size ht hi v n xs hown, ?_, World.grownBy.refl w _, .inl rfl⟩
    simpa using hown
  · obtain ⟨v', w', h1, h2, h3, -, h5⟩ := run_append_own_at (P := P) w base t ty e i z size bytes ht hi hz hsize hby hzs hsz v n xs hown ad m c ys hl hc h1 h63 hb hbase
    exact ⟨v', w', h1, h2, h3, h5⟩
/-- 'append', as one step of a region that draws. -/
theorem step_app {P : Program} {ops : Array Oper} {o : Oper} {a : Act} {w : World} {K : Act → World → Prop} {Q : Exit → Act → World → Prop} {E : Prop}
    (hg : o.guard = none) (s x : Operand) (t : TypeId) (hop : o.op = Op.call { callee := Callee.builtin Builtin.append, args := #[s, x], argTypes := #[t, t] })
    {e : TypeId} {z : Value} {size bytes : Nat} (ht : P.underlying t = some (.slice e)) (hinf : Info P e z size bytes) {base n m : Nat} (v u : Value) {xs ys : List Value} (hs : a.eval s = v) (hx : a.eval x = u)
    (hown : w.ownsRow base e size v n xs) (hbase : base ≤ w.heap.size) (hsrc : Src w size u m ys) (h1 : ∀ u ∈ ys, u.oneCell' = true) (h63 : n + m ≤ maxLen) (hb : (n + m) * bytes ≤ 140737488355328)
    (hK : ∀ v' w', w'.ownsRow base e size v' (n + m) (xs ++ ys) → w.grownBy w' v.ownBlock → (v'.ownBlock = v.ownBlock ∨ v'.ownBlock = some w.heap.size) → K (a.put o.dst v') w') :
    if Region.wanted o (yielded ops a.tmps) = true then Oper.wp P o a w K Q else E := by
  have hw : Region.wanted o (yielded ops a.tmps) = true := by simp [Region.wanted, hg]
  rw [if_pos hw]
  obtain ⟨v', w', hrun, r1, r2, r3⟩ := run_app (ty := o.type) ht hinf hown hbase hsrc h1 h63 hb
  unfold Oper.wp
  simp [execOp, hop, resolve, invoke, builtin, hs, hx, hrun, Result.andThen]
  exact hK v' w' r1 r2 r3
/-- 'append', at the list of a plain region's operations. -/
theorem wpList_app {P : Program} {ops : Array Oper} {rest : List Oper} {o : Oper} {a : Act} {w : World} {Q : Exit → Act → World → Prop} (hgd : o.guard = none) (s x : Operand) (t : TypeId)
    (hop : o.op = Op.call { callee := Callee.builtin Builtin.append, args := #[s, x], argTypes := #[t, t] })
    {e : TypeId} {z : Value} {size bytes : Nat} (ht : P.underlying t = some (.slice e)) (hinf : Info P e z size bytes) {base n m : Nat} (v u : Value) {xs ys : List Value} (hs : a.eval s = v) (hx : a.eval x = u)
    (hown : w.ownsRow base e size v n xs) (hbase : base ≤ w.heap.size) (hsrc : Src w size u m ys) (h1 : ∀ u ∈ ys, u.oneCell' = true) (h63 : n + m ≤ maxLen) (hb : (n + m) * bytes ≤ 140737488355328)
    (hK : ∀ v' w', w'.ownsRow base e size v' (n + m) (xs ++ ys) → w.grownBy w' v.ownBlock → (v'.ownBlock = v.ownBlock ∨ v'.ownBlock = some w.heap.size) → wpList P ops Q rest (a.put o.dst v') w') : wpList P ops Q (o :: rest) a w := by
  refine wpList_plain hgd fun K' hK' => ?_
  obtain ⟨v', w', hrun, r1, r2, r3⟩ := run_app (ty := o.type) ht hinf hown hbase hsrc h1 h63 hb
  unfold Oper.wp
  simp [execOp, hop, resolve, invoke, builtin, hs, hx, hrun, Result.andThen]
  exact hK' _ _ (hK v' w' r1 r2 r3)
/-- 'make' of an empty row with room. -/
theorem make_room {P : Program} {t e : TypeId} {z : Value} {size bytes : Nat} (ht : P.underlying t = some (.slice e)) (hinf : Info P e z size bytes) (m : Nat) (zz : Int) (hzm : zz = m) (h : m * bytes ≤ 140737488355328) (h2 : m ≤ 140737488355328) :
    ∃ X : Obj, (∀ W : World, (Instr.makeSlice t (.int .i64 0) (.int .i64 zz)).run P W = .ok (.slice (some ⟨W.heap.size, 0, none⟩) 0 m) (W.alloc X)) ∧
    ∀ (W : World) (base : Nat), base ≤ W.heap.size → (W.alloc X).ownsRow base e size (.slice (some ⟨W.heap.size, 0, none⟩) 0 m) 0 [] := by
  subst hzm
  obtain ⟨i0, hi, hz0, hz1, hz2, hzs, hsz⟩ := hinf
  refine ⟨_, fun W => ?_, fun W base hb => World.ownsRow_made (size := size) W _ m hb (by unfold maxLen; omega) (size_madeCells z.cells (m * size))⟩
  have hr := run_make (P := P) W t e i0 z ht hi hz0 .i64 .i64 0 (m : Int) (Int.le_refl _) (by omega) (by rw [hz2, Int.mul_comm, ← Int.natCast_mul]; omega) (by omega)
  simp only [Int.toNat_zero, Int.toNat_natCast, hz1] at hr
  exact hr
end Own
end Go.Proofs.Ytieneehpijilpaa

/- slices.Sorted of a map's numbers, also of none; contract of package inode's All. -/
namespace Go.Proofs.Ytieneehpijilpaa
open Go.ChangeShapes Go.WideShapes Go.ChangeAt Go.RowKit
set_option linter.unusedVariables false
set_option linter.unusedSimpArgs false
namespace IS

set_option maxRecDepth 100000 in
set_option maxHeartbeats 1000000 in
theorem insert_nil (w : World) : Calls Try.prog 78 #[.slice none 0 0, .int .i64 0, .int .i64 0] w fun e w' => e = .returned (.tuple #[]) ∧ w' = w := by
  go_enter Try.func78, Try.ntmps78
  go_wp2_with fail
  go_loopw [6] (fun v wr => v = .int .i64 1 ∧ wr = w) (fun _ _ => 0)
  case atStart => exact ⟨rfl, rfl⟩
  case round =>
    obtain ⟨rfl, rfl⟩ := hrel
    go_wp2_with fail
    go_end0
    exact ⟨rfl, rfl⟩
set_option maxRecDepth 100000 in
set_option maxHeartbeats 1000000 in
theorem pdq_nil (k : Nat) (w : World) : Calls Try.prog 74 #[.slice none 0 0, .int .i64 0, .int .i64 0, .int .i64 (k : Int)] w fun e w' => e = .returned (.tuple #[]) ∧ w' = w := by
  have c := W_hid (insert_nil w)
  go_enter Try.func74, Try.ntmps74
  go_wp2_with fail
  go_loopw [1, 2, 3, 8, 9] (fun a b l _ _ wr => a = .int .i64 0 ∧ b = .int .i64 0 ∧ l = .int .i64 (k : Int) ∧ wr = w) (fun _ _ _ _ _ _ => 0)
  case atStart => exact ⟨rfl, rfl, rfl, rfl⟩
  case round =>
    obtain ⟨rfl, rfl, rfl, rfl⟩ := hrel
    go_wp2_with fail
    refine c.out.mono ?_
    rintro e w' ⟨rfl, rfl⟩
    go_wp2_with fail
    refine bodyPost_ret (results_none rfl _ _ _) rfl ?_
    exact ⟨rfl, rfl⟩
set_option maxRecDepth 100000 in
set_option maxHeartbeats 1000000 in
theorem Sort_nil (w : World) : Calls Try.prog 61 #[.slice none 0 0] w fun e w' => e = .returned (.tuple #[]) ∧ w' = w := by
  have cL := Len_any 0 w (by omega) (by omega)
  have cP := W_hid (fun k : Nat => pdq_nil k w)
  go_enter Try.func61, Try.ntmps61
  go_wp2_with (first
    | (go_at_call 75; refine cL.mono ?_; rintro e w' ⟨⟨k, rfl, hk⟩, rfl⟩)
    | (go_at_call 74; refine (cP.out _).mono ?_; rintro e w' ⟨rfl, rfl⟩))
  go_end0
  exact ⟨rfl, rfl⟩

/-- A slice value that reads as these numbers. -/
def LC (base : Nat) (w : World) (v : Value) (l : List Nat) : Prop := ∃ ao cap, v = .slice ao l.length cap ∧ ∀ i (hi : i < l.length), ∃ blk off, ao = some ⟨blk, off, none⟩ ∧ base ≤ blk ∧ blk < w.heap.size ∧ w.cell? ⟨blk, off + i, none⟩ = some (.int .i64 (l[i] : Int))
theorem LC.nlist {base : Nat} {w : World} {v : Value} {l : List Nat} (h : Nlist base w v l) : LC base w v l := by
  obtain ⟨g, cap, rest, rfl, h1, h2, h3⟩ := h.ex
  refine ⟨_, _, rfl, fun i hi => ⟨g, 0, rfl, h1, h3.lt, ?_⟩⟩
  rw [Nat.zero_add]
  refine h3.cell ?_
  rw [List.getElem?_append_left (by simpa using hi), List.getElem?_map, List.getElem?_eq_getElem hi]
  rfl

set_option maxRecDepth 100000 in
set_option maxHeartbeats 4000000 in
theorem Sorted_nums (Bm b : Nat) (M : Int → Option Nat) (w : World) (hBm : Bm < w.heap.size) (hb : b < w.heap.size) (hm : w.cell? ⟨Bm, 0, none⟩ = some (.map (some b))) (hMB : MB w b M) (ks : List Nat) (hk : Nums M ks) (hr : ks.Pairwise (· < ·)) (hlen : ks.length < 65536) :
    Calls Try.prog 37 #[.func (.func 62) #[] #[.pointer (some ⟨Bm, 0, none⟩)]] w fun e w' => ∃ v, e = .returned v ∧ LC w.heap.size w' v ks ∧ Below w.heap.size w w' := by
  cases ks with
  | nil =>
    have cC := W_hid (Collect_any Bm b M w hBm hb hm hMB)
    have hS := W_hid Sort_nil
    have hk := W_hid hk
    clear hm hMB
    go_enter Try.func37, Try.ntmps37
    go_wp2_with fail
    refine cC.out.mono ?_
    rintro e w1 ⟨v, ss, rfl, hN, hown, hnil, hB⟩
    have hss : ss = [] := List.eq_nil_of_length_eq_zero (by have := hN.len_eq hk.out; simpa using this)
    obtain rfl := hnil.2 hss
    clear hN hown hnil hss
    go_wp2_with fail
    refine (hS.out w1).mono ?_
    rintro e w2 ⟨rfl, rfl⟩
    go_wp2_with fail
    go_ret
    exact ⟨_, rfl, ⟨none, 0, rfl, fun i hi => by simp at hi⟩, hB⟩
  | cons x r =>
    refine (Sorted_all Bm b M w hBm hb hm hMB (fun ss hs => by rw [hs.len_eq hk]; exact hlen) ⟨x, (hk.2 x).1 (by simp)⟩).mono ?_
    rintro e w' ⟨v, l, rfl, hN, hp, hl, hB⟩
    have hl1 : l.Pairwise (· < ·) := by
      refine List.pairwise_iff_getElem.2 fun i j hi hj hij => ?_
      have h3 := List.pairwise_iff_getElem.1 hp i j hi hj hij
      have h4 := List.pairwise_iff_getElem.1 hN.1 i j hi hj hij
      omega
    have e : l = x :: r := IN.rise_eq hl1 hr fun y => by rw [hN.2 y, hk.2 y]
    subst e
    exact ⟨v, rfl, LC.nlist hl, hB⟩
end IS

namespace IN
/-- Inodes, as cells. -/
def stcl (l : List (Nat × Nd)) : List Value := l.flatMap fun x => stl (x.1 : Int) x.2
theorem stcl_len (l : List (Nat × Nd)) : (stcl l).length = l.length * 6 := by
  induction l with
  | nil => rfl
  | cons x r ih => simp only [stcl, List.flatMap_cons, List.length_append, List.length_cons] at ih ⊢; rw [ih]; simp [stl]; omega
theorem stcl_app (a b : List (Nat × Nd)) : stcl (a ++ b) = stcl a ++ stcl b := List.flatMap_append
theorem stcl_one (x : Nat × Nd) : stcl [x] = stl (x.1 : Int) x.2 := by simp [stcl]
theorem info_stat : Own.Info Try.prog 41 (.agg zl.toArray) 6 48 := Own.info_of (by kernel_rfl) rfl (by decide)
theorem stl_cells (w : World) (n : Int) (d : Nd) (g : Nat) (hB : Blk w g 41 (stl n d)) : Own.Src w 6 (.slice (some ⟨g, 0, none⟩) 1 1) 1 (stl n d) :=
  .inr ⟨_, _, rfl, by simp [stl], fun j v hj => by
    have := hB.cell hj
    rw [Addr.add_lit, Nat.zero_add]
    exact this⟩
theorem stl_one (n : Int) (d : Nd) : ∀ u ∈ stl n d, u.oneCell' = true := by
  intro u hu
  simp only [stl, List.mem_cons, List.not_mem_nil, or_false] at hu
  rcases hu with rfl | rfl | rfl | rfl | rfl | rfl <;> rfl

section
variable {base sg mb I L B k : Nat} {M : Int → Option Nat} {S : Int → Option Nd}
set_option maxRecDepth 100000 in
theorem ask_one {w : World} {I L left : Int} (h : PM base w sg mb M I L left S) :
    Calls Try.prog 35 #[.int .i64 0, .slice (some ⟨w.heap.size, 0, none⟩) 1 1] (w.alloc (.cells #[.func (.func 36) #[.pointer (some ⟨sg, 0, none⟩)] #[]] 45)) fun e w' => e = .returned (.int .i64 0) ∧ Below w.heap.size w w' := by
  have hal := (Below.refl w.heap.size w).alloc (Nat.le_refl _) (.cells #[.func (.func 36) #[.pointer (some ⟨sg, 0, none⟩)] #[]] 45)
  refine (first_one (.pointer (some ⟨sg, 0, none⟩)) _ 0 0 w.heap.size _ (chk_blk w [.func (.func 36) #[.pointer (some ⟨sg, 0, none⟩)] #[]] _ rfl)
    (fun w => by kernel_rfl) (fun W hW => made_some _ W (h.keep (hal.trans (hW.mono hal.size))))).mono ?_
  rintro e w' ⟨rfl, hb⟩
  exact ⟨rfl, hal.trans (hb.mono hal.size)⟩

set_option maxRecDepth 100000 in
set_option maxHeartbeats 8000000 in
theorem All_any (w : World) (h : PS base w sg mb M I L B k S) :
    Calls Try.prog 14 #[.pointer (some ⟨sg, 0, none⟩)] w fun e w' => ∃ v, e = .returned v ∧ w'.ownsRow w.heap.size 41 6 v (lst S I).length (stcl (lst S I)) ∧ Below w.heap.size w w' := by
  have hmf : ∀ (fn : Fn) (first cap : Array Value) (w : World), (Instr.makeFunc fn first cap).run Try.prog w = .ok (.func fn first cap) w := fun _ _ _ _ => rfl
  have cA := W_hid (ask_one h.pm)
  have hlen := lst_len S I
  have hI := h.lim.1
  have hN := W_hid h.nums
  have hrise := W_hid (ks_rise S I)
  have hkl := W_hid (ks_len S I)
  have hgood := W_hid h.fn
  have hmem : Hid (∀ j (hj : j < (lst S I).length), 1 ≤ (lst S I)[j].1 ∧ (lst S I)[j].1 ≤ I ∧ S ((lst S I)[j].1 : Int) = some (lst S I)[j].2) := W_hid (fun j hj => mem_lst.1 (List.getElem_mem hj))
  have hkat : Hid (∀ j (hj : j < (ks S I).length) (hj2 : j < (lst S I).length), (ks S I)[j] = (lst S I)[j].1) := W_hid (fun j hj hj2 => by simp [ks])
  have H := W_hid h
  obtain ⟨Ls, hLs⟩ : ∃ Ls, lst S I = Ls := ⟨_, rfl⟩
  rw [hLs] at hlen hkl hmem hkat ⊢
  obtain ⟨Ks, hKs⟩ : ∃ Ks, ks S I = Ks := ⟨_, rfl⟩
  rw [hKs] at hN hrise hkl hkat
  obtain ⟨N, hNN⟩ : ∃ N, Ls.length = N := ⟨_, rfl⟩
  rw [hNN] at hlen hkl ⊢
  obtain ⟨X, hmk, hmo⟩ := Own.make_room (t := 37) Try.underlying37 info_stat N (N : Int) rfl (by omega) (by omega)
  replace hmo := W_hid hmo
  replace hNN := W_hid hNN
  clear h hLs hKs
  go_enter Try.func14, Try.ntmps14
  go_wp2_with fail
  refine cA.out.mono ?_
  rintro e w1 ⟨rfl, b1⟩
  have h1 := H.out.keep b1
  have c0 := h1.pm.box.cell (j := 0) rfl
  have hcnt : ∀ ty, (Builtin.len_ #[55] ty #[.map (some mb)]).run Try.prog w1 = .ok (.int .i64 (N : Int)) w1 := fun ty => by have := h1.pm.mp.count hN.out ty; rw [hkl.out] at this; exact this
  have hown0 := W_hid (hmo.out w1 w1.heap.size (Nat.le_refl _))
  have b2 := b1.alloc b1.size X
  obtain ⟨w2, hw2⟩ : ∃ w2, w1.alloc X = w2 := ⟨_, rfl⟩
  rw [hw2] at hown0 b2
  have hs2 : w2.heap.size = w1.heap.size + 1 := by rw [← hw2]; simp
  have h2 := H.out.keep b2
  have d0 := h2.pm.box.cell (j := 0) rfl
  have hbox := (Blk.new w2 55 [.map (some mb)] rfl).cell (j := 0) rfl
  have b3 := b2.alloc b2.size (.cells #[.map (some mb)] 55)
  have cK := W_hid (IS.Keys_any mb w2)
  have cS := W_hid (IS.Sorted_nums w2.heap.size mb M (w2.alloc (.cells #[.map (some mb)] 55)) (by simp) (by have := h2.pm.mp.lt; simp; omega) hbox (h2.pm.mp.alloc _) Ks hN.out hrise.out (by rw [hkl.out]; omega))
  have hs1 := b1.size
  have b1 := W_hid b1
  have b3 := W_hid b3
  replace hs2 := W_hid hs2
  clear cA hbox h1 h2 b2 hmo hN hrise
  go_wp2_with fail
  refine cK.out.mono ?_
  rintro e w3 ⟨rfl, rfl⟩
  go_wp2_with fail
  refine cS.out.mono ?_
  rintro e w4 ⟨v4, rfl, ⟨ao, cap, rfl, hcell⟩, b4⟩
  rw [hkl.out]
  have b5 := W_hid (b3.out.trans (b4.mono b3.out.size))
  have hown4 : Hid (w4.ownsRow w1.heap.size 41 6 (.slice (some ⟨w1.heap.size, 0, none⟩) 0 N) 0 []) := W_hid (Own.below (Own.below hown0.out ((Below.refl _ w2).alloc (Nat.le_refl _) _)) b4)
  have hcell : Hid (∀ i (hi : i < N), ∃ blk off, ao = some ⟨blk, off, none⟩ ∧ w1.heap.size < blk ∧ blk < w4.heap.size ∧ w4.cell? ⟨blk, off + i, none⟩ = some (.int .i64 ((Ls[i]'(by rw [hNN.out]; exact hi)).1 : Int))) := W_hid (fun i hi => by
    obtain ⟨blk, off, h1, h0, h2, h3⟩ := hcell i (by rw [hkl.out]; exact hi)
    rw [hkat.out i _ (by rw [hNN.out]; exact hi)] at h3
    exact ⟨blk, off, h1, by have := hs2.out; simp at h0; omega, h2, h3⟩)
  have hsw := hs1
  have hsz4 : w1.heap.size ≤ w4.heap.size := by have := b4.size; have := hs2.out; simp at *; omega
  clear hown0 b4 b3 cS cK hkat hkl d0 c0
  replace hw2 := W_hid hw2
  go_wp2_with fail
  go_loopw [24, 3] (fun i v wr => ∃ (j : Nat), j ≤ N ∧ i = .int .i64 (j : Int) ∧ Hid (wr.ownsRow w1.heap.size 41 6 v j (stcl (Ls.take j))) ∧ Hid (v.ownBlock = some w1.heap.size ∨ ∃ g, w4.heap.size ≤ g ∧ v.ownBlock = some g) ∧ Hid (Two w1.heap.size w1.heap.size w4 wr)) (fun i _ _ => N - (intOf i).toNat)
  case atStart => exact ⟨0, Nat.zero_le _, rfl, hown4, W_hid (.inl rfl), W_hid (Two.refl _ _ _)⟩
  case round =>
    obtain ⟨j, hj, rfl, hown, hob, hT⟩ := hrel
    have belr := W_hid (b5.out.trans (hT.out.below (B := w.heap.size) (by omega) hsw hsw))
    by_cases hlt : j < N
    · obtain ⟨blk, off, rfl, hb1, hb2, hc⟩ := hcell.out j hlt
      have hm := hmem.out j (by rw [hNN.out]; exact hlt)
      have htake := EM.take_snoc Ls j (by rw [hNN.out]; exact hlt)
      obtain ⟨⟨nj, dj⟩, hx⟩ : ∃ x, Ls[j]'(by rw [hNN.out]; exact hlt) = x := ⟨_, rfl⟩
      rw [hx] at hc hm htake
      simp only at hc hm
      have hc' : wr.cell? ⟨blk, off + j, none⟩ = some (.int .i64 (nj : Int)) := by
        rw [World.cell?_of_block (w := w4) (w' := wr) (a := ⟨blk, off + j, none⟩) (hT.out.block blk hb2 (by omega) (by omega))]
        exact hc
      have cT := stat_any (nj : Int) dj wr (H.out.keep belr.out).pm ⟨by omega, by omega⟩ hm.2.2 (hgood.out.good _ _ hm.2.2).ok
      simp only [stl] at cT
      replace cT := W_hid cT
      replace htake := W_hid htake
      have hsr := hT.out.size
      clear hx hc hm
      go_wp2_with fail
      refine cT.out.mono ?_
      rintro e w5 ⟨rfl, b6⟩
      have hsrc := stl_cells (w5.alloc (.cells #[.int .i64 (nj : Int), .int .i64 dj.kind, .int .i64 dj.links, .int .i64 dj.opens, .int .i64 dj.size, .int .i64 (EM.cnt dj.l : Int)] 41)) (nj : Int) dj w5.heap.size (Blk.new w5 41 (stl (nj : Int) dj) rfl)
      have b7 := b6.alloc b6.size (.cells #[.int .i64 (nj : Int), .int .i64 dj.kind, .int .i64 dj.links, .int .i64 dj.opens, .int .i64 dj.size, .int .i64 (EM.cnt dj.l : Int)] 41)
      have hown7 := W_hid (Own.below hown.out b7)
      have hT7 := W_hid (hT.out.trans (Two.of b7))
      have hs7 := b7.size
      have hsrc := W_hid hsrc
      clear b6 b7 cT hc'
      go_wp2_with (first
        | (at_builtin; refine Own.wpList_app rfl (.tmp 28) (.tmp 32) 37 rfl Try.underlying37 info_stat u3 (.slice (some ⟨w5.heap.size, 0, none⟩) 1 1) rfl rfl hown7.out (by omega) hsrc.out (stl_one _ _) (by unfold maxLen; omega) (by omega) ?_; intro v' w8 ho8 hg8 hb8))
      have hown8 : Hid (w8.ownsRow w1.heap.size 41 6 v' (j + 1) (stcl (Ls.take (j + 1)))) := W_hid (by rw [htake.out, stcl_app, stcl_one]; exact ho8)
      have hob8 : Hid (v'.ownBlock = some w1.heap.size ∨ ∃ g, w4.heap.size ≤ g ∧ v'.ownBlock = some g) := W_hid (by
        rcases hb8 with e | e
        · rw [e]; exact hob.out
        · exact .inr ⟨_, by omega, e⟩)
      have hT8 : Hid (Two w1.heap.size w1.heap.size w4 w8) := W_hid ⟨hg8.os.trans hT7.out.os, hg8.tape.trans hT7.out.tape, hg8.output.trans hT7.out.output, Nat.le_trans hT7.out.size hg8.size, fun k hk h1 h2 => by
        rw [hg8.block k (by omega) (fun e => by
          rcases hob.out with e2 | ⟨g, hg, e2⟩
          · rw [e2] at e; cases e; exact h1 rfl
          · rw [e2] at e; cases e; omega)]
        exact hT7.out.block k hk h1 h2⟩
      clear ho8 hg8 hb8 hown7 hT7 hsrc
      go_wp2_with fail
      go_roundw
      case rel => exact ⟨j + 1, by omega, by go_num, hown8, hob8, hT8⟩
      case measure => simp [intOf]; omega
    · obtain rfl : j = N := by omega
      have hfin := hown.out
      rw [List.take_of_length_le (Nat.le_of_eq hNN.out)] at hfin
      have hfin := W_hid (Own.low (base' := w.heap.size) hsw hfin)
      go_wp2_with fail
      go_ret
      exact ⟨_, rfl, hfin.out, belr.out⟩
end
end IN
end Go.Proofs.Ytieneehpijilpaa

/- Contracts of package inode's Read, Write, Trunc, of stores that are there. -/
namespace Go.Proofs.Ytieneehpijilpaa
open Go.ChangeShapes Go.WideShapes Go.ChangeAt Go.RowKit Go.Maps
set_option linter.unusedVariables false
set_option linter.unusedSimpArgs false
namespace IN

/-! Where a list ends. -/
theorem nxt_ge : ∀ {b : Int} {l : List (Int × ByteArray)}, EM.ok b l = true → l ≠ [] → b ≤ EM.nxt b l - 1
  | _, [], _, h => absurd rfl h
  | b, x :: r, h, _ => by
    obtain ⟨h1, h2, h3, h4⟩ := EM.ok_cons.1 h
    have hf : EM.fin x = x.1 + x.2.size := rfl
    show b ≤ EM.nxt (EM.fin x + 1) r - 1
    cases r with
    | nil => show b ≤ EM.fin x + 1 - 1; omega
    | cons y r' => have := nxt_ge h4 (by simp); omega
theorem none_from : ∀ {b : Int} {l : List (Int × ByteArray)}, EM.ok b l = true → ∀ i, EM.nxt b l - 1 ≤ i → l ≠ [] → EM.cont l i = none
  | _, [], _, _, _, _ => rfl
  | b, x :: r, h, i, hi, _ => by
    obtain ⟨h1, h2, h3, h4⟩ := EM.ok_cons.1 h
    have hi' : EM.nxt (EM.fin x + 1) r - 1 ≤ i := hi
    show (EM.get x i).or (EM.cont r i) = none
    cases r with
    | nil =>
      have : EM.nxt (EM.fin x + 1) [] = EM.fin x + 1 := rfl
      rw [EM.get_none (.inr (by omega))]; rfl
    | cons y r' =>
      have h5 := nxt_ge h4 (by simp)
      rw [EM.get_none (.inr (by omega)), none_from h4 i hi' (by simp)]; rfl
theorem cnt_nxt : ∀ {b : Int} {l : List (Int × ByteArray)}, EM.ok b l = true → l ≠ [] → (EM.cnt l : Int) ≤ EM.nxt b l - 1 - b
  | _, [], _, h => absurd rfl h
  | b, x :: r, h, _ => by
    obtain ⟨h1, h2, h3, h4⟩ := EM.ok_cons.1 h
    have hf : EM.fin x = x.1 + x.2.size := rfl
    rw [EM.cnt_cons]
    show _ ≤ EM.nxt (EM.fin x + 1) r - 1 - b
    cases r with
    | nil => show _ ≤ EM.fin x + 1 - 1 - b; rw [EM.cnt_nil]; omega
    | cons y r' => have := cnt_nxt h4 (by simp); omega
theorem ends_eq {l : List (Int × ByteArray)} (h : l ≠ []) : ends l = EM.nxt 0 l - 1 := by
  cases l with
  | nil => exact absurd rfl h
  | cons x r => rfl
theorem cnt_ends {l : List (Int × ByteArray)} (h : EM.ok 0 l = true) : (EM.cnt l : Int) ≤ ends l := by
  by_cases e : l = []
  · subst e; exact Int.le_refl _
  · rw [ends_eq e]; have := cnt_nxt h e; omega
theorem none_ends {l : List (Int × ByteArray)} (h : EM.ok 0 l = true) (i : Int) (hi : ends l ≤ i) : EM.cont l i = none := by
  by_cases e : l = []
  · subst e; rfl
  · rw [ends_eq e] at hi; exact none_from h i hi e
theorem ends_le {l : List (Int × ByteArray)} (h : EM.ok 0 l = true) {b : Int} (hb : 0 ≤ b) (hc : ∀ i, b ≤ i → EM.cont l i = none) : ends l ≤ b := by
  rcases List.eq_nil_or_concat l with rfl | ⟨q, x, rfl⟩
  · exact hb
  · rw [List.concat_eq_append] at h hc ⊢
    have e : ends (q ++ [x]) = EM.fin x := by
      rw [ends_eq (by simp), EM.nxt_snoc]; omega
    rw [e]
    have h0 : 0 < x.2.size := EM.wk_pos (EM.ok_wk h) x (by simp)
    have hf : EM.fin x = x.1 + x.2.size := rfl
    rcases Int.lt_or_le b (EM.fin x) with hlt | hle
    · obtain ⟨c, hx⟩ := EM.get_some (x := x) (i := EM.fin x - 1) (by omega) (by omega)
      have h1 := hc (EM.fin x - 1) (by omega)
      rw [EM.cont_append, EM.cont_one, hx] at h1
      cases hq : EM.cont q (EM.fin x - 1) <;> rw [hq] at h1 <;> cases h1
    · exact hle
theorem cnt_part (lo hi : Int) : ∀ l : List (Int × ByteArray), EM.cnt (EM.part lo hi l) ≤ EM.cnt l
  | [] => Nat.le_refl _
  | x :: r => by
    have ih := cnt_part lo hi r
    rw [EM.cnt_cons]
    unfold EM.part at ih ⊢
    cases h : EM.piece lo hi x with
    | none => rw [List.filterMap_cons_none h]; omega
    | some y =>
      rw [List.filterMap_cons_some h, EM.cnt_cons]
      obtain ⟨h1, h2, h3⟩ := EM.piece_fin h
      have hf : EM.fin x = x.1 + x.2.size := rfl
      have hg : EM.fin y = y.1 + y.2.size := rfl
      omega
theorem ends_part {l : List (Int × ByteArray)} (h : EM.ok 0 l = true) {s : Int} (hs : 0 ≤ s) : EM.ok 0 (EM.part 0 s l) = true ∧ ends (EM.part 0 s l) ≤ s :=
  ⟨EM.ok_part h 0 s (Int.le_refl _), ends_le (EM.ok_part h 0 s (Int.le_refl _)) hs fun i hi => by rw [EM.cont_part, if_neg (by omega)]⟩
theorem ends_wr {l : List (Int × ByteArray)} (h : EM.ok 0 l = true) {f : Int} {d : ByteArray} (hf : 0 ≤ f) (hd : f + d.size ≤ 1048576) {s : Int} (hs : ends l ≤ s) (h0 : 0 ≤ s) :
    EM.ok 0 (EM.wr l f d) = true ∧ ends (EM.wr l f d) ≤ if d.size = 0 then s else max s (f + d.size) := by
  refine ⟨EM.wr_ok h hf hd, ?_⟩
  by_cases e : d.size = 0
  · rw [if_pos e, EM.wr_nil h e]; exact hs
  · rw [if_neg e]
    exact ends_le (EM.wr_ok h hf hd) (by omega) fun i hi => by
      rw [EM.wr_cont h hf hd, if_neg (by omega)]
      exact none_ends h i (by omega)

/-! Read. -/
def rdErr (S : Int → Option Nd) (n f m : Int) : Int := askR S n fun d => if d.kind = 1 then rdE d.l d.size f m else 14
def rdRes (S : Int → Option Nd) (n f m : Int) : ByteArray := match S n with
  | none => ⟨#[]⟩
  | some d => if d.kind = 1 then strOf (rdV d.l d.size f m) else ⟨#[]⟩
section
variable {base sg mb I L B k : Nat} {M : Int → Option Nat} {S : Int → Option Nd}
theorem ask_file {w : World} (n : Int) {I L left : Int} (h : PM base w sg mb M I L left S) (hn : IS.I64 n) :
    Calls Try.prog 35 #[.int .i64 n, .slice (some ⟨w.heap.size, 0, none⟩) 3 3] (w.alloc (.cells #[.func (.func 36) #[.pointer (some ⟨sg, 0, none⟩)] #[], .func (.func 42) #[.pointer (some ⟨sg, 0, none⟩)] #[], .func (.func 47) #[.pointer (some ⟨sg, 0, none⟩)] #[]] 45)) fun e w' => e = .returned (.int .i64 (askR S n fun d => if d.kind = 1 then 0 else 14)) ∧ Below w.heap.size w w' :=
  ask_three 47 (fun d => if d.kind = 1 then 0 else 14) n h hn (fun w => by kernel_rfl) (fun d hS W hW => file_any n d W (h.keep hW) hn hS)

set_option maxRecDepth 100000 in
set_option maxHeartbeats 4000000 in
theorem Read_no (n f m : Int) (w : World) (r : Int) (h : PS base w sg mb M I L B k S) (hn : IS.I64 n) (hr : (askR S n fun d => if d.kind = 1 then 0 else 14) = r) (hr0 : r ≠ 0) :
    Calls Try.prog 21 #[.pointer (some ⟨sg, 0, none⟩), .int .i64 n, .int .i64 f, .int .i64 m] w fun e w' => e = .returned (.tuple #[.string ⟨#[]⟩, .int .i64 r]) ∧ Below w.heap.size w w' := by
  have hmf : ∀ (fn : Fn) (first cap : Array Value) (w : World), (Instr.makeFunc fn first cap).run Try.prog w = .ok (.func fn first cap) w := fun _ _ _ _ => rfl
  have cA := ask_file n h.pm hn
  rw [hr] at cA
  have cA := W_hid cA
  clear h hr
  go_enter Try.func21, Try.ntmps21
  go_wp2_with fail
  refine cA.out.mono ?_
  rintro e w1 ⟨rfl, b1⟩
  go_wp2_with fail
  go_ret2
  exact ⟨rfl, b1⟩

set_option maxRecDepth 100000 in
set_option maxHeartbeats 4000000 in
theorem Read_yes (n f m : Int) (d : Nd) (w : World) (h : PS base w sg mb M I L B k S) (hn : IS.I64 n) (hf : I64 f) (hm : I64 m) (hS : S n = some d) (hk : d.kind = 1) :
    Calls Try.prog 21 #[.pointer (some ⟨sg, 0, none⟩), .int .i64 n, .int .i64 f, .int .i64 m] w fun e w' => e = .returned (.tuple #[.string (strOf (rdV d.l d.size f m)), .int .i64 (rdE d.l d.size f m)]) ∧ Below w.heap.size w w' := by
  have hmf : ∀ (fn : Fn) (first cap : Array Value) (w : World), (Instr.makeFunc fn first cap).run Try.prog w = .ok (.func fn first cap) w := fun _ _ _ _ => rfl
  have cA := ask_file n h.pm hn
  have hr : (askR S n fun d => if d.kind = 1 then (0 : Int) else 14) = 0 := by simp [askR, hS, hk]
  rw [hr] at cA
  have cA := W_hid cA
  have H := W_hid h
  have hS := W_hid hS
  clear h hr
  go_enter Try.func21, Try.ntmps21
  go_wp2_with fail
  refine cA.out.mono ?_
  rintro e w1 ⟨rfl, b1⟩
  have h1 := H.out.keep b1
  have c0 := h1.pm.box.cell (j := 0) rfl
  have hlk := h1.pm.mp.look n hn
  obtain ⟨g, v, hM, hN, hge, hgs, hgm⟩ := h1.pm.has hS.out
  rw [hM] at hlk
  simp only [IS.ptr] at hlk
  have hg := h1.fn.good n d hS.out
  obtain ⟨ao, nn, cc, rfl, hx1, -⟩ := hN.2
  have hb1 := W_hid b1
  have cR := W_hid (Read_any ao nn cc d.l d.size f m w1.drew hx1 (ok_fit (Int.le_refl _) hg.ok) ⟨by have := hg.size; omega, by have := hg.size; omega⟩ hf hm)
  have hNN := W_hid (show Blk w1.drew g 74 (ncl d (.slice ao nn cc)) from hN.1)
  have hN1 := W_hid (fun w' (hb : Below w1.heap.size w1 w') => hN.1.keep hb)
  clear h1 hN hM b1 hx1 hg
  go_wp2_with fail
  refine wp_region_held_drew (S := (fun w' => Blk w' g 74 (ncl d (.slice ao nn cc)))) (by kernel_rfl) hNN.out (fun hHeld => ?_)
  refine wpAnyH_take (i := 0) (v := .pointer (some ⟨g, 0, none⟩)) rfl (by kernel_rfl) (by kernel_rfl) (by kernel_rfl) (fun _ _ _ h => h) (Or.inl ⟨by rfl, fun w0 s1 => ?_⟩) hHeld ?_
  · go_simp
  try simp only [Act.put, List.setIfInBounds_toArray, List.set_cons_zero, List.set_cons_succ, List.getElem_toArray, List.getElem_cons_zero, List.getElem_cons_succ]
  refine wpAnyH_take (i := 1) (v := .pointer (some ⟨g, 0, none⟩)) rfl (by kernel_rfl) (by kernel_rfl) (by kernel_rfl) (fun _ _ _ h => h) (Or.inl ⟨by rfl, fun w0 s1 => ?_⟩) hHeld ?_
  · go_simp
  try simp only [Act.put, List.setIfInBounds_toArray, List.set_cons_zero, List.set_cons_succ, List.getElem_toArray, List.getElem_cons_zero, List.getElem_cons_succ]
  refine wpAnyH_take (i := 2) (v := .pointer (some ⟨g, 4, none⟩)) rfl (by kernel_rfl) (by kernel_rfl) (by kernel_rfl) (fun _ _ _ h => h) (Or.inl ⟨by rfl, fun w0 s1 => ?_⟩) hHeld ?_
  · go_simp
  try simp only [Act.put, List.setIfInBounds_toArray, List.set_cons_zero, List.set_cons_succ, List.getElem_toArray, List.getElem_cons_zero, List.getElem_cons_succ]
  refine wpAnyH_take (i := 3) (v := .slice ao nn cc) rfl (by kernel_rfl) (by kernel_rfl) (by kernel_rfl) (fun _ _ _ h => h) (Or.inl ⟨by rfl, fun w0 s1 => ?_⟩) hHeld ?_
  · (have q := Blk.cell (j := 4) s1 rfl; go_simp)
  try simp only [Act.put, List.setIfInBounds_toArray, List.set_cons_zero, List.set_cons_succ, List.getElem_toArray, List.getElem_cons_zero, List.getElem_cons_succ]
  refine wpAnyH_take (i := 4) (v := .pointer (some ⟨g, 0, none⟩)) rfl (by kernel_rfl) (by kernel_rfl) (by kernel_rfl) (fun _ _ _ h => h) (Or.inl ⟨by rfl, fun w0 s1 => ?_⟩) hHeld ?_
  · go_simp
  try simp only [Act.put, List.setIfInBounds_toArray, List.set_cons_zero, List.set_cons_succ, List.getElem_toArray, List.getElem_cons_zero, List.getElem_cons_succ]
  refine wpAnyH_take (i := 5) (v := .pointer (some ⟨g, 0, none⟩)) rfl (by kernel_rfl) (by kernel_rfl) (by kernel_rfl) (fun _ _ _ h => h) (Or.inl ⟨by rfl, fun w0 s1 => ?_⟩) hHeld ?_
  · go_simp
  try simp only [Act.put, List.setIfInBounds_toArray, List.set_cons_zero, List.set_cons_succ, List.getElem_toArray, List.getElem_cons_zero, List.getElem_cons_succ]
  refine wpAnyH_take (i := 6) (v := .pointer (some ⟨g, 3, none⟩)) rfl (by kernel_rfl) (by kernel_rfl) (by kernel_rfl) (fun _ _ _ h => h) (Or.inl ⟨by rfl, fun w0 s1 => ?_⟩) hHeld ?_
  · go_simp
  try simp only [Act.put, List.setIfInBounds_toArray, List.set_cons_zero, List.set_cons_succ, List.getElem_toArray, List.getElem_cons_zero, List.getElem_cons_succ]
  refine wpAnyH_take (i := 7) (v := .int .i64 d.size) rfl (by kernel_rfl) (by kernel_rfl) (by kernel_rfl) (fun _ _ _ h => h) (Or.inl ⟨by rfl, fun w0 s1 => ?_⟩) hHeld ?_
  · (have q := Blk.cell (j := 3) s1 rfl; go_simp)
  try simp only [Act.put, List.setIfInBounds_toArray, List.set_cons_zero, List.set_cons_succ, List.getElem_toArray, List.getElem_cons_zero, List.getElem_cons_succ]
  refine wpAnyH_take (i := 8) (v := .int .i64 f) rfl (by kernel_rfl) (by kernel_rfl) (by kernel_rfl) (fun _ _ _ h => h) (Or.inl ⟨by rfl, fun w0 s1 => ?_⟩) hHeld ?_
  · go_simp
  try simp only [Act.put, List.setIfInBounds_toArray, List.set_cons_zero, List.set_cons_succ, List.getElem_toArray, List.getElem_cons_zero, List.getElem_cons_succ]
  refine wpAnyH_take (i := 9) (v := .int .i64 m) rfl (by kernel_rfl) (by kernel_rfl) (by kernel_rfl) (fun _ _ _ h => h) (Or.inl ⟨by rfl, fun w0 s1 => ?_⟩) hHeld ?_
  · go_simp
  try simp only [Act.put, List.setIfInBounds_toArray, List.set_cons_zero, List.set_cons_succ, List.getElem_toArray, List.getElem_cons_zero, List.getElem_cons_succ]
  refine wpAnyH_ready (rs := [10]) (by kernel_rfl) (by simp) ?_
  refine AllReadyH.cons rfl (fun K hK => ?_) AllReadyH.nil
  go_simp
  refine cR.out.mono ?_
  rintro e w2 ⟨rfl, hb2⟩
  have hN2 := hN1.out w2 (Own.bundrew hb2)
  refine hK.out _ _ hN2 (fun hHeld1 => ?_)
  clear hK K
  try simp only [Act.put, List.setIfInBounds_toArray, List.set_cons_zero, List.set_cons_succ, List.getElem_toArray, List.getElem_cons_zero, List.getElem_cons_succ]
  refine wpAnyH_take (i := 11) (v := .string (strOf (rdV d.l d.size f m))) rfl (by kernel_rfl) (by kernel_rfl) (by kernel_rfl) (fun _ _ _ h => h) (Or.inl ⟨by rfl, fun w0 s1 => ?_⟩) hHeld1 ?_
  · go_simp
  try simp only [Act.put, List.setIfInBounds_toArray, List.set_cons_zero, List.set_cons_succ, List.getElem_toArray, List.getElem_cons_zero, List.getElem_cons_succ]
  refine wpAnyH_take (i := 12) (v := .int .i64 (rdE d.l d.size f m)) rfl (by kernel_rfl) (by kernel_rfl) (by kernel_rfl) (fun _ _ _ h => h) (Or.inl ⟨by rfl, fun w0 s1 => ?_⟩) hHeld1 ?_
  · go_simp
  try simp only [Act.put, List.setIfInBounds_toArray, List.set_cons_zero, List.set_cons_succ, List.getElem_toArray, List.getElem_cons_zero, List.getElem_cons_succ]
  refine wpAnyH_take (i := 13) (v := .string (strOf (rdV d.l d.size f m))) rfl (by kernel_rfl) (by kernel_rfl) (by kernel_rfl) (fun _ _ _ h => h) (Or.inl ⟨by rfl, fun w0 s1 => ?_⟩) hHeld1 ?_
  · go_simp
  try simp only [Act.put, List.setIfInBounds_toArray, List.set_cons_zero, List.set_cons_succ, List.getElem_toArray, List.getElem_cons_zero, List.getElem_cons_succ]
  refine wpAnyH_take (i := 14) (v := .int .i64 (rdE d.l d.size f m)) rfl (by kernel_rfl) (by kernel_rfl) (by kernel_rfl) (fun _ _ _ h => h) (Or.inl ⟨by rfl, fun w0 s1 => ?_⟩) hHeld1 ?_
  · go_simp
  try simp only [Act.put, List.setIfInBounds_toArray, List.set_cons_zero, List.set_cons_succ, List.getElem_toArray, List.getElem_cons_zero, List.getElem_cons_succ]
  refine wpAnyH_done (by kernel_rfl) ?_ _
  go_wp2_with fail
  go_ret2
  exact ⟨rfl, hb1.out.trans ((Own.bundrew hb2).mono hb1.out.size)⟩
end
end IN
end Go.Proofs.Ytieneehpijilpaa

/- Contracts of package inode's Write, Trunc, of stores that are there. -/
namespace Go.Proofs.Ytieneehpijilpaa
open Go.ChangeShapes Go.WideShapes Go.ChangeAt Go.RowKit Go.Maps
set_option linter.unusedVariables false
set_option linter.unusedSimpArgs false
namespace IN

def wNd (d : Nd) (f : Int) (s : ByteArray) : Nd := { d with l := EM.wr d.l f s, size := if s.size = 0 then d.size else max d.size (f + s.size) }
def wrErr (I B : Nat) (S : Int → Option Nd) (n f : Int) (s : ByteArray) : Int := askR S n fun d => if d.kind = 1 then (if wrE d.l f s = 0 then (if tot S I + EM.cnt (EM.wr d.l f s) ≤ B + EM.cnt d.l then 0 else 21) else wrE d.l f s) else 14
def wrS (I B : Nat) (S : Int → Option Nd) (n f : Int) (s : ByteArray) : Int → Option Nd := match S n with
  | none => S
  | some d => if d.kind = 1 ∧ wrE d.l f s = 0 ∧ tot S I + EM.cnt (EM.wr d.l f s) ≤ B + EM.cnt d.l then upd S n (some (wNd d f s)) else S
def tNd (d : Nd) (s : Int) : Nd := { d with l := EM.part 0 s d.l, size := s }
def tErr (S : Int → Option Nd) (n s : Int) : Int := askR S n fun d => if d.kind = 1 then (if s < 0 then 2 else if 1048576 < s then 28 else 0) else 14
def tS (S : Int → Option Nd) (n s : Int) : Int → Option Nd := match S n with
  | none => S
  | some d => if d.kind = 1 ∧ 0 ≤ s ∧ s ≤ 1048576 then upd S n (some (tNd d s)) else S

section
variable {base sg mb I L B k : Nat} {M : Int → Option Nat} {S : Int → Option Nd}
/-- An inode turned, its bytes counted anew. -/
theorem turn_left {n : Int} {d d' : Nd} (hf : Fine I L B k S) (hS : S n = some d) (hg : Good L k d') (ht : (EM.cnt d'.l : Int) - (EM.cnt d.l : Int) ≤ (B : Int) - (tot S I : Int)) :
    Fine I L B k (upd S n (some d')) ∧ (B : Int) - (tot S I : Int) - ((EM.cnt d'.l : Int) - (EM.cnt d.l : Int)) = (B : Int) - (tot (upd S n (some d')) I : Int) := by
  have hb := hf.num n (by rw [hS]; simp)
  obtain ⟨m, rfl⟩ : ∃ m : Nat, n = m := ⟨n.toNat, by omega⟩
  have h := tot_upd S m I (some d') (by omega) (by omega)
  rw [hS] at h
  simp only [cntOf] at h
  have h2 := tot_ge S m I (by omega) (by omega)
  rw [hS] at h2
  simp only [cntOf] at h2
  exact ⟨hf.turn (by omega) (by omega) (fun x hx => by cases hx; exact hg) (by rw [hS]; simp only [cntOf]; omega), by omega⟩
theorem wr_good {d : Nd} {f : Int} {s : ByteArray} (hg : Good L k d) (hk : d.kind = 1) (he : wrE d.l f s = 0) : Good L k (wNd d f s) ∧ wrL d.l f s = EM.wr d.l f s ∧ EM.ok 0 (EM.wr d.l f s) = true ∧ 0 ≤ f ∧ f + s.size ≤ 1048576 := by
  have h0 : 0 ≤ f ∧ f + s.size ≤ 1048576 := by
    unfold wrE at he
    split at he
    · rename_i h
      split at he
      · exact ⟨h.2, by assumption⟩
      · cases he
    · cases he
  obtain ⟨h1, h2⟩ := ends_wr hg.ok (d := s) h0.1 h0.2 hg.fin hg.size.1
  refine ⟨⟨hg.kind, hg.links, hg.opens, hg.some, ?_, h1, h2, fun h => ?_⟩, by unfold wrL; rw [if_pos he], h1, h0⟩
  · have := hg.size
    show 0 ≤ (if s.size = 0 then d.size else max d.size (f + s.size)) ∧ (if s.size = 0 then d.size else max d.size (f + s.size)) ≤ 1048576
    split <;> omega
  · have e : d.kind = 2 := h
    rw [hk] at e; cases e
theorem t_good {d : Nd} {s : Int} (hg : Good L k d) (hk : d.kind = 1) (h0 : 0 ≤ s) (h1 : s ≤ 1048576) : Good L k (tNd d s) ∧ ctL d.l s = EM.part 0 s d.l ∧ EM.ok 0 (EM.part 0 s d.l) = true := by
  obtain ⟨h2, h3⟩ := ends_part hg.ok h0
  exact ⟨⟨hg.kind, hg.links, hg.opens, hg.some, ⟨h0, h1⟩, h2, h3, fun h => by
    have e : d.kind = 2 := h
    rw [hk] at e; cases e⟩, by unfold ctL; rw [if_pos ⟨hg.ok, h0⟩], h2⟩

set_option maxRecDepth 100000 in
set_option maxHeartbeats 8000000 in
theorem Write_any (n f : Int) (s : ByteArray) (w : World) (h : PS base w sg mb M I L B k S) (hn : IS.I64 n) (hf : I64 f) (hs : s.size ≤ maxLen) :
    Calls Try.prog 22 #[.pointer (some ⟨sg, 0, none⟩), .int .i64 n, .int .i64 f, .string s] w (Out base sg mb I L B k w (wrErr I B S n f s) (wrS I B S n f s)) := by
  have hmf : ∀ (fn : Fn) (first cap : Array Value) (w : World), (Instr.makeFunc fn first cap).run Try.prog w = .ok (.func fn first cap) w := fun _ _ _ _ => rfl
  have cA := ask_file n h.pm hn
  by_cases hno : ∃ d, S n = some d ∧ d.kind = 1
  · obtain ⟨d, hS, hk⟩ := hno
    have hr : (askR S n fun d => if d.kind = 1 then (0 : Int) else 14) = 0 := by simp [askR, hS, hk]
    rw [hr] at cA
    have cA := W_hid cA
    have H := W_hid h
    have hg := h.fn.good n d hS
    have hlow := W_hid h.low
    obtain ⟨E, hE⟩ : ∃ E, wrE d.l f s = E := ⟨_, rfl⟩
    have hSS : ∀ x, wrErr I B S n f s = x ↔ (if E = 0 then (if tot S I + EM.cnt (EM.wr d.l f s) ≤ B + EM.cnt d.l then (0 : Int) else 21) else E) = x := fun x => by unfold wrErr askR; rw [hS]; simp [hk, hE]
    have hSt : wrS I B S n f s = if E = 0 ∧ tot S I + EM.cnt (EM.wr d.l f s) ≤ B + EM.cnt d.l then upd S n (some (wNd d f s)) else S := by unfold wrS; rw [hS]; simp [hk, hE]
    replace hS := W_hid hS
    replace hSS := W_hid hSS
    replace hSt := W_hid hSt
    have hG := W_hid hg
    have hwg := W_hid (fun he => wr_good (s := s) (f := f) hg hk he)
    replace hE := W_hid hE
    clear h hr hg
    go_enter Try.func22, Try.ntmps22
    go_wp2_with fail
    refine cA.out.mono ?_
    rintro e w1 ⟨rfl, b1⟩
    have h1 := H.out.keep b1
    have c0 := h1.pm.box.cell (j := 0) rfl
    have hlk := h1.pm.mp.look n hn
    obtain ⟨g, v, hM, hN, hge, hgs, hgm⟩ := h1.pm.has hS.out
    rw [hM] at hlk
    simp only [IS.ptr] at hlk
    obtain ⟨ao, nn, cc, rfl, hx1, -⟩ := hN.2
    have d4 := hN.1.cell (j := 4) rfl
    have cW := Go.Proofs.Ytieneehpijilpaa.Write_any ao nn cc d.l f s w1 hx1 (ok_fit (Int.le_refl _) hG.out.ok) hf hs
    rw [hE.out] at cW
    have hb1 := W_hid b1
    have cW := W_hid cW
    have hM := W_hid hM
    have hN := W_hid hN
    have h1 := W_hid h1
    clear b1 hx1
    go_wp2_with fail
    refine cW.out.mono ?_
    rintro e w2 ⟨v2, rfl, ho2, b2⟩
    have b2' := W_hid (hb1.out.trans (b2.mono hb1.out.size))
    by_cases he : E = 0
    · obtain ⟨hGw, hL2, hok2, hf0, hf1⟩ := hwg.out (hE.out.trans he)
      subst he
      rw [hL2] at ho2
      have hX2 := XE.own ho2
      have h2 := h1.out.keep b2
      have hN2 : NB w2 g d (.slice ao nn cc) := ⟨hN.out.1.keep b2, hN.out.2.keep b2⟩
      have htot := h2.fn.tot
      have hlim := h2.lim
      have cR := W_hid (replace_any n g d _ v2 (EM.wr d.l f s) w2 h2.pm hM.out hS.out hN2 hX2 hG.out.ok hok2 ⟨by omega, by omega⟩)
      obtain ⟨ao2, nn2, cc2, rfl, -, -⟩ := hX2
      have h2 := W_hid h2
      have hGw := W_hid hGw
      clear ho2 b2 hN2 hL2 hok2 htot hlim cW cA
      go_wp2_with fail
      refine cR.out.mono ?_
      rintro e w3 (⟨q1, rfl, b3⟩ | ⟨q1, rfl, q2, q3, q4⟩)
      · have hbad : ¬ (tot S I + EM.cnt (EM.wr d.l f s) ≤ B + EM.cnt d.l) := by omega
        have e1 : wrErr I B S n f s = 21 := (hSS.out _).2 (by simp [hbad])
        have e2 : wrS I B S n f s = S := by rw [hSt.out]; simp [hbad]
        have e1 := W_hid e1
        have e2 := W_hid e2
        have b3 := W_hid (b2'.out.trans (b3.mono b2'.out.size))
        clear q1 hbad cR
        go_wp2_with fail
        go_ret
        rw [e1.out, e2.out]
        exact Out.same H.out (Nat.le_refl _) b3.out 21
      · have hgood : tot S I + EM.cnt (EM.wr d.l f s) ≤ B + EM.cnt d.l := by omega
        have e1 : wrErr I B S n f s = 0 := (hSS.out _).2 (by simp [hgood])
        have e2 : wrS I B S n f s = upd S n (some (wNd d f s)) := by rw [hSt.out]; simp [hgood]
        have e1 := W_hid e1
        have e2 := W_hid e2
        obtain ⟨t1, t2⟩ := turn_left (d' := wNd d f s) h2.out.fn hS.out hGw.out q1
        have K0 := W_hid ((Keeps.new (T := PT) b2'.out hlow.out).trans q4)
        have t1 := W_hid t1
        have hlim := W_hid h2.out.lim
        have t2' : (B : Int) - (tot S I : Int) - ((EM.cnt (EM.wr d.l f s) : Int) - (EM.cnt d.l : Int)) = (B : Int) - (tot (upd S n (some (wNd d f s))) I : Int) := t2
        rw [t2'] at q2
        clear q1 hgood cR t2 t2' q4 h2 h1
        by_cases hz : s.size = 0
        · obtain ⟨z1, z2⟩ := xempty hz
          have ew : wNd d f s = { d with l := EM.wr d.l f s } := by unfold wNd; rw [if_pos hz]
          have ez : s = ⟨#[]⟩ := EM.ba_inj (List.eq_nil_of_length_eq_zero (by rw [EM.list_size]; exact hz))
          rw [ew] at t1 q2 e2
          replace q2 := W_hid q2
          replace q3 := W_hid q3
          replace ez := W_hid ez
          clear ew
          go_wp2_with fail
          go_ret
          rw [e1.out, e2.out]
          exact ⟨rfl, ⟨M, q2.out, t1.out, hlim.out⟩, K0.out⟩
        · obtain ⟨z1, z2⟩ := xfull hz
          obtain ⟨mx, hmx⟩ : ∃ mx, (if d.size < f + (s.size : Int) then f + (s.size : Int) else d.size) = mx := ⟨_, rfl⟩
          have hmax : max d.size (f + (s.size : Int)) = mx := by rw [← hmx]; split <;> omega
          have ew : wNd d f s = { d with l := EM.wr d.l f s, size := mx } := by unfold wNd; rw [if_neg hz, hmax]
          have hw : IntKind.i64.wrap (f + (s.size : Int)) = f + (s.size : Int) := by rw [IntKind.wrap_i64]; omega
          have f3 := q3.1.fz
          have d3 := q3.1.cell (j := 3) rfl
          obtain ⟨r1, r2, r3⟩ := q2.setNode (n := n) (d' := { d with l := EM.wr d.l f s, size := mx }) (v' := .slice ao2 nn2 cc2) hM.out (upd_at _ _ _) q3.1 q3.2 3 (.int .i64 mx) rfl
          rw [upd_upd] at r1
          rw [ew] at t1 r1 e2
          replace r1 := W_hid r1
          have K1 := W_hid (K0.out.trans r3)
          clear q2 q3 r2 r3 ew hmax
          go_wp2_with fail
          go_ret
          rw [e1.out, e2.out]
          exact ⟨rfl, ⟨M, r1.out, t1.out, hlim.out⟩, K1.out⟩
    · have e1 : wrErr I B S n f s = E := (hSS.out _).2 (by rw [if_neg he])
      have e2 : wrS I B S n f s = S := by rw [hSt.out, if_neg (fun h => he h.1)]
      have e1 := W_hid e1
      have e2 := W_hid e2
      clear cW cA b2
      obtain ⟨ao2, c2, rfl⟩ := Own.form ho2
      clear ho2
      go_wp2_with fail
      go_ret
      rw [e1.out, e2.out]
      exact Out.same H.out (Nat.le_refl _) b2'.out E
  · have hr : ∃ r, r ≠ 0 ∧ (askR S n fun d => if d.kind = 1 then (0 : Int) else 14) = r ∧ wrErr I B S n f s = r ∧ wrS I B S n f s = S := by
      cases hS : S n with
      | none => exact ⟨11, by decide, by simp [askR, hS], by simp [wrErr, askR, hS], by simp [wrS, hS]⟩
      | some d =>
        have hk : ¬ d.kind = 1 := fun e => hno ⟨d, hS, e⟩
        exact ⟨14, by decide, by simp [askR, hS, hk], by simp [wrErr, askR, hS, hk], by simp [wrS, hS, hk]⟩
    obtain ⟨r, hr0, hr1, hr2, hr3⟩ := hr
    rw [hr2, hr3]
    rw [hr1] at cA
    have cA := W_hid cA
    have H := W_hid h
    clear h hr1 hr2 hr3 hno
    go_enter Try.func22, Try.ntmps22
    go_wp2_with fail
    refine cA.out.mono ?_
    rintro e w1 ⟨rfl, b1⟩
    go_wp2_with fail
    go_ret
    exact Out.same H.out (Nat.le_refl _) b1 r

set_option maxRecDepth 100000 in
set_option maxHeartbeats 8000000 in
theorem Trunc_any (n s : Int) (w : World) (h : PS base w sg mb M I L B k S) (hn : IS.I64 n) (hs : I64 s) :
    Calls Try.prog 23 #[.pointer (some ⟨sg, 0, none⟩), .int .i64 n, .int .i64 s] w (Out base sg mb I L B k w (tErr S n s) (tS S n s)) := by
  have hmf : ∀ (fn : Fn) (first cap : Array Value) (w : World), (Instr.makeFunc fn first cap).run Try.prog w = .ok (.func fn first cap) w := fun _ _ _ _ => rfl
  have cA := ask_file n h.pm hn
  by_cases hno : ∃ d, S n = some d ∧ d.kind = 1
  · obtain ⟨d, hS, hk⟩ := hno
    have hr : (askR S n fun d => if d.kind = 1 then (0 : Int) else 14) = 0 := by simp [askR, hS, hk]
    rw [hr] at cA
    have cA := W_hid cA
    have H := W_hid h
    have hg := h.fn.good n d hS
    have hlow := W_hid h.low
    have hSS : tErr S n s = if s < 0 then 2 else if 1048576 < s then 28 else 0 := by unfold tErr askR; rw [hS]; simp [hk]
    have hSt : tS S n s = if 0 ≤ s ∧ s ≤ 1048576 then upd S n (some (tNd d s)) else S := by unfold tS; rw [hS]; simp [hk]
    replace hS := W_hid hS
    replace hSS := W_hid hSS
    replace hSt := W_hid hSt
    have hG := W_hid hg
    have hwg := W_hid (fun h0 h1 => t_good (s := s) hg hk h0 h1)
    clear h hr hg
    by_cases hs0 : s < 0
    · have e1 : Hid (tErr S n s = 2) := W_hid (by rw [hSS.out, if_pos hs0])
      have e2 : Hid (tS S n s = S) := W_hid (by rw [hSt.out, if_neg (by omega)])
      go_enter Try.func23, Try.ntmps23
      go_wp2_with fail
      refine cA.out.mono ?_
      rintro e w1 ⟨rfl, b1⟩
      go_wp2_with fail
      go_ret
      rw [e1.out, e2.out]
      exact Out.same H.out (Nat.le_refl _) b1 2
    · by_cases hs1 : 1048576 < s
      · have e1 : Hid (tErr S n s = 28) := W_hid (by rw [hSS.out, if_neg hs0, if_pos hs1])
        have e2 : Hid (tS S n s = S) := W_hid (by rw [hSt.out, if_neg (by omega)])
        go_enter Try.func23, Try.ntmps23
        go_wp2_with fail
        refine cA.out.mono ?_
        rintro e w1 ⟨rfl, b1⟩
        go_wp2_with fail
        go_ret
        rw [e1.out, e2.out]
        exact Out.same H.out (Nat.le_refl _) b1 28
      · have e1 : Hid (tErr S n s = 0) := W_hid (by rw [hSS.out, if_neg hs0, if_neg hs1])
        have e2 : Hid (tS S n s = upd S n (some (tNd d s))) := W_hid (by rw [hSt.out, if_pos (by omega)])
        obtain ⟨hGw, hL2, hok2⟩ := hwg.out (by omega) (by omega)
        go_enter Try.func23, Try.ntmps23
        go_wp2_with fail
        refine cA.out.mono ?_
        rintro e w1 ⟨rfl, b1⟩
        have h1 := H.out.keep b1
        have c0 := h1.pm.box.cell (j := 0) rfl
        have hlk := h1.pm.mp.look n hn
        obtain ⟨g, v, hM, hN, hge, hgs, hgm⟩ := h1.pm.has hS.out
        rw [hM] at hlk
        simp only [IS.ptr] at hlk
        obtain ⟨ao, nn, cc, rfl, hx1, -⟩ := hN.2
        have d4 := hN.1.cell (j := 4) rfl
        have cW := Cut_any ao nn cc d.l s w1 hx1 (ok_fit (Int.le_refl _) hG.out.ok) hs
        rw [hL2] at cW
        have hb1 := W_hid b1
        have cW := W_hid cW
        have hM := W_hid hM
        have hN := W_hid hN
        have h1 := W_hid h1
        clear b1 hx1 hL2
        go_wp2_with fail
        refine cW.out.mono ?_
        rintro e w2 ⟨v2, rfl, ho2, b2⟩
        have b2' := W_hid (hb1.out.trans (b2.mono hb1.out.size))
        have hX2 := XE.own ho2
        have h2 := h1.out.keep b2
        have hN2 : NB w2 g d (.slice ao nn cc) := ⟨hN.out.1.keep b2, hN.out.2.keep b2⟩
        have htot := h2.fn.tot
        have hlim := h2.lim
        have hcp := cnt_part 0 s d.l
        have hle : Hid ((EM.cnt (EM.part 0 s d.l) : Int) - (EM.cnt d.l : Int) ≤ (B : Int) - (tot S I : Int)) := W_hid (by omega)
        have cR := W_hid (replace_any n g d _ v2 (EM.part 0 s d.l) w2 h2.pm hM.out hS.out hN2 hX2 hG.out.ok hok2 ⟨by omega, by omega⟩)
        obtain ⟨ao2, nn2, cc2, rfl, -, -⟩ := hX2
        have h2 := W_hid h2
        have hGw := W_hid hGw
        clear ho2 b2 hN2 hok2 htot hlim cW cA hcp
        go_wp2_with fail
        refine cR.out.mono ?_
        rintro e w3 (⟨q1, rfl, b3⟩ | ⟨q1, rfl, q2, q3, q4⟩)
        · have := hle.out; omega
        · obtain ⟨t1, t2⟩ := turn_left (d' := tNd d s) h2.out.fn hS.out hGw.out hle.out
          have K0 := W_hid ((Keeps.new (T := PT) b2'.out hlow.out).trans q4)
          have t1 := W_hid t1
          have hlim := W_hid h2.out.lim
          have t2' : (B : Int) - (tot S I : Int) - ((EM.cnt (EM.part 0 s d.l) : Int) - (EM.cnt d.l : Int)) = (B : Int) - (tot (upd S n (some (tNd d s))) I : Int) := t2
          rw [t2'] at q2
          have f3 := q3.1.fz
          have d3 := q3.1.cell (j := 3) rfl
          obtain ⟨r1, r2, r3⟩ := q2.setNode (n := n) (d' := tNd d s) (v' := .slice ao2 nn2 cc2) hM.out (upd_at _ _ _) q3.1 q3.2 3 (.int .i64 s) rfl
          rw [upd_upd] at r1
          replace r1 := W_hid r1
          have K1 := W_hid (K0.out.trans r3)
          clear q1 cR t2 t2' q4 h2 h1 q2 q3 r2 r3
          go_wp2_with fail
          go_ret
          rw [e1.out, e2.out]
          exact ⟨rfl, ⟨M, r1.out, t1.out, hlim.out⟩, K1.out⟩
  · have hr : ∃ r, r ≠ 0 ∧ (askR S n fun d => if d.kind = 1 then (0 : Int) else 14) = r ∧ tErr S n s = r ∧ tS S n s = S := by
      cases hS : S n with
      | none => exact ⟨11, by decide, by simp [askR, hS], by simp [tErr, askR, hS], by simp [tS, hS]⟩
      | some d =>
        have hk : ¬ d.kind = 1 := fun e => hno ⟨d, hS, e⟩
        exact ⟨14, by decide, by simp [askR, hS, hk], by simp [tErr, askR, hS, hk], by simp [tS, hS, hk]⟩
    obtain ⟨r, hr0, hr1, hr2, hr3⟩ := hr
    rw [hr2, hr3]
    rw [hr1] at cA
    have cA := W_hid cA
    have H := W_hid h
    clear h hr1 hr2 hr3 hno
    go_enter Try.func23, Try.ntmps23
    go_wp2_with fail
    refine cA.out.mono ?_
    rintro e w1 ⟨rfl, b1⟩
    go_wp2_with fail
    go_ret
    exact Out.same H.out (Nat.le_refl _) b1 r
end
end IN
end Go.Proofs.Ytieneehpijilpaa

/- Rows that are owned, continued: rows of rows, cut in two; a row cut in two reads so. Free of any program's numbers. -/
namespace Go.Proofs.Ytieneehpijilpaa
open Go.ChangeShapes Go.WideShapes Go.ChangeAt Go.RowKit
set_option linter.unusedVariables false
set_option linter.unusedSimpArgs false
namespace Own

section
variable {α β : Type}
theorem rows_len {c : Nat} : ∀ {r : List (List β)}, (∀ x ∈ r, x.length = c) → r.flatten.length = r.length * c
  | [], _ => by simp
  | x :: r, h => by
    rw [List.flatten_cons, List.length_append, h x (by simp), rows_len (r := r) (fun y hy => h y (List.mem_cons_of_mem _ hy)), List.length_cons, Nat.add_mul]; omega
theorem rows_get {c : Nat} : ∀ {r : List (List β)}, (∀ x ∈ r, x.length = c) → ∀ (i : Nat) (hi : i < r.length) (m : Nat), m < c → r.flatten[i * c + m]? = r[i][m]?
  | [], _, i, hi, _, _ => by simp at hi
  | x :: r, h, 0, _, m, hm => by
    rw [List.flatten_cons, Nat.zero_mul, Nat.zero_add, List.getElem?_append_left (by rw [h x (by simp)]; exact hm)]; rfl
  | x :: r, h, i + 1, hi, m, hm => by
    have hx := h x (by simp)
    have ih := rows_get (r := r) (fun y hy => h y (List.mem_cons_of_mem _ hy)) i (by simpa using hi) m hm
    rw [List.flatten_cons, List.getElem?_append_right (by rw [hx, Nat.add_mul]; omega), hx]
    rw [show (i + 1) * c + m - c = i * c + m by rw [Nat.add_mul]; omega, ih]
    rfl
theorem rows_set {c : Nat} : ∀ {r : List (List β)}, (∀ x ∈ r, x.length = c) → ∀ (i : Nat) (hi : i < r.length) (m : Nat) (u : β), m < c → r.flatten.set (i * c + m) u = (r.set i (r[i].set m u)).flatten
  | [], _, i, hi, _, _, _ => by simp at hi
  | x :: r, h, 0, _, m, u, hm => by
    have hx := h x (by simp)
    rw [List.flatten_cons, Nat.zero_mul, Nat.zero_add, List.set_append_left _ _ (by rw [hx]; exact hm)]
    rfl
  | x :: r, h, i + 1, hi, m, u, hm => by
    have hx := h x (by simp)
    have ih := rows_set (r := r) (fun y hy => h y (List.mem_cons_of_mem _ hy)) i (by simpa using hi) m u hm
    rw [List.flatten_cons, List.set_append_right _ _ (by rw [hx, Nat.add_mul]; omega), hx]
    rw [show (i + 1) * c + m - c = i * c + m by rw [Nat.add_mul]; omega, ih]
    rfl
theorem rows_take {c : Nat} : ∀ {r : List (List β)}, (∀ x ∈ r, x.length = c) → ∀ k : Nat, r.flatten.take (k * c) = (r.take k).flatten
  | [], _, k => by simp
  | x :: r, h, 0 => by simp
  | x :: r, h, k + 1 => by
    have hx := h x (by simp)
    have ih := rows_take (r := r) (fun y hy => h y (List.mem_cons_of_mem _ hy)) k
    rw [List.flatten_cons, List.take_succ_cons, List.flatten_cons, ← ih]
    rw [List.take_append, List.take_of_length_le (by rw [hx, Nat.add_mul]; omega), hx]
    rw [show (k + 1) * c - c = k * c by rw [Nat.add_mul]; omega]
theorem rows_drop {c : Nat} : ∀ {r : List (List β)}, (∀ x ∈ r, x.length = c) → ∀ k : Nat, r.flatten.drop (k * c) = (r.drop k).flatten
  | [], _, k => by simp
  | x :: r, h, 0 => by simp
  | x :: r, h, k + 1 => by
    have hx := h x (by simp)
    have ih := rows_drop (r := r) (fun y hy => h y (List.mem_cons_of_mem _ hy)) k
    rw [List.flatten_cons, List.drop_succ_cons, ← ih]
    rw [List.drop_append, List.drop_of_length_le (by rw [hx, Nat.add_mul]; omega), hx, List.nil_append]
    rw [show (k + 1) * c - c = k * c by rw [Nat.add_mul]; omega]
end

/-- A cut at the beginning. -/
theorem cut_lo {P : Program} {t e : TypeId} {z : Value} {size bytes : Nat} (ht : P.underlying t = some (.slice e)) (hel : P.elem t = e) (hinf : Own.Info P e z size bytes) (b o n cap k : Nat) (kk : Int) (hkk : kk = k) (hk : k ≤ n) (hn : n ≤ cap) :
    ∃ ad : Addr, (∀ W : World, (Instr.slice t (.slice (some ⟨b, o, none⟩) n cap) (some (.int .i64 kk)) none none).run P W = .ok (.slice (some ad) (n - k) (cap - k)) W) ∧ ad.block = b ∧ (0 < n - k → ad = ⟨b, o + k * size, none⟩) := by
  subst hkk
  obtain ⟨i, hi, hz, hsize, hby, hzs, hsz⟩ := hinf
  have hs : ∀ W : World, (sizeOf (P.elem t)).run P W = .ok size W := fun W => by rw [hel]; simp [sizeOf, typeInfo, hi, hsize]
  by_cases hc : cap = k
  · refine ⟨⟨b, o, none⟩, fun W => ?_, rfl, fun h => by omega⟩
    have hr := run_slice_l (P := P) W t (some ⟨b, o, none⟩) n cap (by rw [hel]; exact ht) .i64 (k : Int) (by omega) (by omega)
    rw [hs] at hr
    simp only [Result.andThen, sliced, Int.toNat_natCast, if_pos hc] at hr
    exact hr
  · refine ⟨⟨b, o + k * size, none⟩, fun W => ?_, rfl, fun _ => rfl⟩
    have hr := run_slice_l (P := P) W t (some ⟨b, o, none⟩) n cap (by rw [hel]; exact ht) .i64 (k : Int) (by omega) (by omega)
    rw [hs] at hr
    simp only [Result.andThen, sliced, Int.toNat_natCast, if_neg hc, Option.map_some, Addr.add_lit] at hr
    exact hr
/-- A cut at the end. -/
theorem cut_hi {P : Program} {t e : TypeId} {z : Value} {size bytes : Nat} (ht : P.underlying t = some (.slice e)) (hel : P.elem t = e) (hinf : Own.Info P e z size bytes) (a : Option Addr) (n cap k : Nat) (hk : k ≤ n) (hn : n ≤ cap) (ha : a = none ∨ ∃ b o, a = some ⟨b, o, none⟩) :
    ∀ W : World, (Instr.slice t (.slice a n cap) none (some (.int .i64 (k : Int))) none).run P W = .ok (.slice a k cap) W := by
  obtain ⟨i, hi, hz, hsize, hby, hzs, hsz⟩ := hinf
  intro W
  have hs : (sizeOf (P.elem t)).run P W = .ok size W := by rw [hel]; simp [sizeOf, typeInfo, hi, hsize]
  have hr := run_slice_h (P := P) W t a n cap (by rw [hel]; exact ht) .i64 (k : Int) (by omega) (by omega)
  rw [hs] at hr
  simp only [Result.andThen, sliced, Int.toNat_natCast, Nat.zero_mul, Nat.sub_zero] at hr
  rw [hr]
  rcases ha with rfl | ⟨b, o, rfl⟩
  · simp
  · simp [Addr.add_lit]
/-- A cut at the beginning of nothing. -/
theorem cut_none {P : Program} {t e : TypeId} {z : Value} {size bytes : Nat} (ht : P.underlying t = some (.slice e)) (hel : P.elem t = e) (hinf : Own.Info P e z size bytes) :
    ∀ W : World, (Instr.slice t (.slice none 0 0) (some (.int .i64 0)) none none).run P W = .ok (.slice none 0 0) W := by
  obtain ⟨i, hi, hz, hsize, hby, hzs, hsz⟩ := hinf
  intro W
  have hs : (sizeOf (P.elem t)).run P W = .ok size W := by rw [hel]; simp [sizeOf, typeInfo, hi, hsize]
  have hr := run_slice_l (P := P) W t none 0 0 (by rw [hel]; exact ht) .i64 0 (by omega) (by omega)
  rw [hs] at hr
  simp only [Result.andThen, sliced, Int.toNat_zero] at hr
  rw [hr]
  simp

/-- A row cut in two reads so. -/
theorem src_take {w : World} {base e size n : Nat} {v : Value} {xs : List Value} (h : w.ownsRow base e size v n xs) {a : Option Addr} {cap : Nat} (hv : v = .slice a n cap) (k : Nat) (hk : k ≤ n) : Own.Src w size (.slice a k cap) k (xs.take (k * size)) := by
  rcases h.2 with ⟨h1, h0⟩ | ⟨g, cap', cur, h1, hb, hg, hnc, hcm, hcs, htake⟩
  · subst h0
    obtain rfl : k = 0 := by omega
    rw [hv] at h1
    simp only [Value.slice.injEq] at h1
    obtain ⟨rfl, -, rfl⟩ := h1
    exact .inl ⟨rfl, rfl, by simp⟩
  · rw [hv] at h1
    simp only [Value.slice.injEq, true_and] at h1
    obtain ⟨rfl, rfl⟩ := h1
    refine .inr ⟨_, _, rfl, by rw [List.length_take, h.1]; exact Nat.min_eq_left (Nat.mul_le_mul_right _ hk), fun j u hu => ?_⟩
    rw [Addr.add_lit, Nat.zero_add, cell_of_row w g j cur e (0, 0) hg]
    rw [List.getElem?_take] at hu
    split at hu
    · rw [← htake, List.getElem?_take] at hu
      split at hu
      · simpa using hu
      · cases hu
    · cases hu
theorem src_drop {w : World} {base e size n : Nat} {b o cap : Nat} {xs : List Value} (h : w.ownsRow base e size (.slice (some ⟨b, o, none⟩) n cap) n xs) (k : Nat) (hk : k ≤ n) (ad : Addr) (c : Nat) (had : 0 < n - k → ad = ⟨b, o + k * size, none⟩) : Own.Src w size (.slice (some ad) (n - k) c) (n - k) (xs.drop (k * size)) := by
  have hlen : (xs.drop (k * size)).length = (n - k) * size := by rw [List.length_drop, h.1, Nat.sub_mul]
  refine .inr ⟨_, _, rfl, hlen, fun j u hu => ?_⟩
  rcases Nat.eq_zero_or_pos (n - k) with h0 | h0
  · rw [h0, Nat.zero_mul] at hlen
    rw [List.eq_nil_of_length_eq_zero hlen] at hu; cases hu
  · rw [had h0]
    rcases h.2 with ⟨h1, _⟩ | ⟨g, cap', cur, h1, hb, hg, hnc, hcm, hcs, htake⟩
    · simp at h1
    · simp only [Value.slice.injEq, Option.some.injEq, Addr.mk.injEq, and_true, true_and] at h1
      obtain ⟨⟨rfl, rfl⟩, rfl⟩ := h1
      rw [Addr.add_lit, Nat.zero_add, cell_of_row w b _ cur e (0, 0) hg]
      rw [List.getElem?_drop, ← htake, List.getElem?_take] at hu
      split at hu
      · simpa using hu
      · cases hu
end Own
end Go.Proofs.Ytieneehpijilpaa

/- The document's store of inodes in memory: a row of inodes, and what it stands for. -/
namespace Go.Proofs.Ytieneehpijilpaa
open Go.ChangeShapes Go.WideShapes Go.ChangeAt Go.RowKit
set_option linter.unusedVariables false
set_option linter.unusedSimpArgs false
namespace IN

/-- What the document's calls write into. -/
def DT (o : Obj) : Prop := (∃ c s, o = .cells c 61 s) ∨ ∃ c s, o = .cells c 72 s

/-- An inode of the document's, as it lies in memory. -/
structure RE where
  n : Int
  kd : Int
  lk : Int
  op : Int
  sz : Int
  st : Int
  v : Value
def rrow (x : RE) : List Value := [.int .i64 x.n, .int .i64 x.kd, .int .i64 x.lk, .int .i64 x.op, .int .i64 x.sz, .int .i64 x.st, x.v]
def rcl (q : List RE) : List Value := (q.map rrow).flatten
theorem rrows (q : List RE) : ∀ x ∈ q.map rrow, x.length = 7 := by
  intro x hx
  obtain ⟨y, -, rfl⟩ := List.mem_map.1 hx
  rfl
theorem rcl_len (q : List RE) : (rcl q).length = q.length * 7 := by unfold rcl; rw [Own.rows_len (rrows q), List.length_map]
theorem rcl_app (a b : List RE) : rcl (a ++ b) = rcl a ++ rcl b := by simp [rcl]
theorem rcl_one (x : RE) : rcl [x] = rrow x := by simp [rcl]
theorem rcl_take (q : List RE) (k : Nat) : (rcl q).take (k * 7) = rcl (q.take k) := by unfold rcl; rw [Own.rows_take (rrows q), List.map_take]
theorem rcl_drop (q : List RE) (k : Nat) : (rcl q).drop (k * 7) = rcl (q.drop k) := by unfold rcl; rw [Own.rows_drop (rrows q), List.map_drop]
theorem rcl_get (q : List RE) (i : Nat) (hi : i < q.length) (m : Nat) (hm : m < 7) : (rcl q)[i * 7 + m]? = (rrow q[i])[m]? := by
  unfold rcl; rw [Own.rows_get (rrows q) i (by simpa using hi) m hm]; simp
theorem rcl_set (q : List RE) (i : Nat) (hi : i < q.length) (m : Nat) (u : Value) (hm : m < 7) (x : RE) (hx : (rrow q[i]).set m u = rrow x) : (rcl q).set (i * 7 + m) u = rcl (q.set i x) := by
  unfold rcl
  rw [Own.rows_set (rrows q) i (by simpa using hi) m u hm, List.getElem_map, hx, List.map_set]

/-- An inode stands for what it is. -/
structure EF (w : World) (x : RE) (y : Nat × Nd) : Prop where
  n : x.n = (y.1 : Int)
  kd : x.kd = y.2.kind
  lk : x.lk = y.2.links
  op : x.op = y.2.opens
  sz : x.sz = y.2.size
  st : x.st = (EM.cnt y.2.l : Int)
  v : XE w x.v y.2.l
def Fits (w : World) : List RE → List (Nat × Nd) → Prop
  | [], [] => True
  | x :: q, y :: l => EF w x y ∧ Fits w q l
  | _, _ => False
section
variable {w w' : World}
theorem Fits.len : ∀ {q : List RE} {l : List (Nat × Nd)}, Fits w q l → q.length = l.length
  | [], [], _ => rfl
  | x :: q, y :: l, h => by rw [List.length_cons, List.length_cons, Fits.len h.2]
  | [], y :: l, h => h.elim
  | x :: q, [], h => h.elim
theorem Fits.app : ∀ {q : List RE} {l : List (Nat × Nd)} {q' : List RE} {l' : List (Nat × Nd)}, Fits w q l → Fits w q' l' → Fits w (q ++ q') (l ++ l')
  | [], [], _, _, _, h' => h'
  | x :: q, y :: l, _, _, h, h' => ⟨h.1, Fits.app h.2 h'⟩
  | [], y :: l, _, _, h, _ => h.elim
  | x :: q, [], _, _, h, _ => h.elim
theorem Fits.take : ∀ {q : List RE} {l : List (Nat × Nd)} (k : Nat), Fits w q l → Fits w (q.take k) (l.take k)
  | _, _, 0, _ => by rw [List.take_zero, List.take_zero]; trivial
  | [], [], k + 1, _ => trivial
  | x :: q, y :: l, k + 1, h => ⟨h.1, Fits.take k h.2⟩
  | [], y :: l, k + 1, h => h.elim
  | x :: q, [], k + 1, h => h.elim
theorem Fits.drop : ∀ {q : List RE} {l : List (Nat × Nd)} (k : Nat), Fits w q l → Fits w (q.drop k) (l.drop k)
  | _, _, 0, h => h
  | [], [], k + 1, _ => trivial
  | x :: q, y :: l, k + 1, h => Fits.drop k h.2
  | [], y :: l, k + 1, h => h.elim
  | x :: q, [], k + 1, h => h.elim
theorem Fits.set : ∀ {q : List RE} {l : List (Nat × Nd)} (i : Nat) {x : RE} {y : Nat × Nd}, Fits w q l → EF w x y → Fits w (q.set i x) (l.set i y)
  | [], [], _, _, _, _, _ => trivial
  | a :: q, b :: l, 0, _, _, h, hx => ⟨hx, h.2⟩
  | a :: q, b :: l, i + 1, _, _, h, hx => ⟨h.1, Fits.set i h.2 hx⟩
  | [], y :: l, _, _, _, h, _ => h.elim
  | x :: q, [], _, _, _, h, _ => h.elim
theorem Fits.at_ : ∀ {q : List RE} {l : List (Nat × Nd)} (i : Nat) (hi : i < q.length) (hl : i < l.length), Fits w q l → EF w q[i] l[i]
  | x :: q, y :: l, 0, _, _, h => h.1
  | x :: q, y :: l, i + 1, hi, hl, h => Fits.at_ i (by simpa using hi) (by simpa using hl) h.2
theorem EF.move {x : RE} {y : Nat × Nd} (h : EF w x y) (hk : ∀ (b : Nat) cur, w.heap[b]? = some (.cells cur 94 (0, 0)) → w'.heap[b]? = w.heap[b]?) : EF w' x y := ⟨h.n, h.kd, h.lk, h.op, h.sz, h.st, h.v.move hk⟩
theorem Fits.move : ∀ {q : List RE} {l : List (Nat × Nd)}, Fits w q l → (∀ (b : Nat) cur, w.heap[b]? = some (.cells cur 94 (0, 0)) → w'.heap[b]? = w.heap[b]?) → Fits w' q l
  | [], [], _, _ => trivial
  | x :: q, y :: l, h, hk => ⟨h.1.move hk, Fits.move h.2 hk⟩
  | [], y :: l, h, _ => h.elim
  | x :: q, [], h, _ => h.elim
theorem Fits.keep {q : List RE} {l : List (Nat × Nd)} (h : Fits w q l) (hb : Below w.heap.size w w') : Fits w' q l := h.move fun b cur hc => hb.block b (lt_of_some hc)
theorem Fits.keeps {q : List RE} {l : List (Nat × Nd)} (h : Fits w q l) {B : Nat} {T : Obj → Prop} (hK : Keeps B T w w') (hT : ∀ c, ¬ T (.cells c 94 (0, 0))) : Fits w' q l := h.move fun b cur hb => (hK.block b _ hb (hT cur)).trans hb.symm
/-- All cells are one cell. -/
theorem rrow_one {x : RE} (hv : x.v.oneCell' = true) : ∀ u ∈ rrow x, u.oneCell' = true := by
  intro u hu
  simp only [rrow, List.mem_cons, List.not_mem_nil, or_false] at hu
  rcases hu with rfl | rfl | rfl | rfl | rfl | rfl | rfl <;> first | rfl | exact hv
theorem XE.one {v : Value} {l : List (Int × ByteArray)} (h : XE w v l) : v.oneCell' = true := by
  obtain ⟨ao, n, c, rfl, -⟩ := h
  rfl
theorem Fits.one {q : List RE} {l : List (Nat × Nd)} (h : Fits w q l) : ∀ u ∈ rcl q, u.oneCell' = true := by
  induction q generalizing l with
  | nil => intro u hu; simp [rcl] at hu
  | cons x q ih =>
    cases l with
    | nil => exact h.elim
    | cons y l =>
      intro u hu
      have e : rcl (x :: q) = rrow x ++ rcl q := by simp [rcl]
      rw [e, List.mem_append] at hu
      rcases hu with hu | hu
      · exact rrow_one h.1.v.one u hu
      · exact ih h.2 u hu
end

theorem info_ino : Own.Info Try.prog 72 (.agg #[.int .i64 0, .int .i64 0, .int .i64 0, .int .i64 0, .int .i64 0, .int .i64 0, .slice none 0 0]) 7 72 := Own.info_of (by kernel_rfl) rfl (by decide)
theorem elem_ino : Try.prog.elem 59 = 72 := by kernel_rfl

/-- The document's store in memory: raw. -/
structure RM (base : Nat) (w : World) (rg : Nat) (I B L z3 z4 z5 z6 : Int) (v : Value) (q : List RE) : Prop where
  box : Blk w rg 61 [.int .i64 I, .int .i64 B, .int .i64 L, .int .i64 z3, .int .i64 z4, .int .i64 z5, .int .i64 z6, v]
  row : w.ownsRow base 72 7 v q.length (rcl q)
  ge : base ≤ rg
section
variable {base : Nat} {w w' : World} {rg : Nat} {I B L z3 z4 z5 z6 : Int} {v : Value} {q : List RE}
theorem RM.low (h : RM base w rg I B L z3 z4 z5 z6 v q) : base ≤ w.heap.size := Nat.le_trans h.ge (Nat.le_of_lt h.box.lt)
theorem RM.keep (h : RM base w rg I B L z3 z4 z5 z6 v q) (hb : Below w.heap.size w w') : RM base w' rg I B L z3 z4 z5 z6 v q := ⟨h.box.keep hb, Own.below h.row hb, h.ge⟩
theorem RM.keeps (h : RM base w rg I B L z3 z4 z5 z6 v q) {C : Nat} {T : Obj → Prop} (hK : Keeps C T w w') (h1 : ∀ c s, ¬ T (.cells c 61 s)) (h2 : ∀ c s, ¬ T (.cells c 72 s)) : RM base w' rg I B L z3 z4 z5 z6 v q := by
  refine ⟨hK.block _ _ h.box (h1 _ _), ?_, h.ge⟩
  rcases h.row.2 with h0 | ⟨g, cap, cur, e1, e2, e3, e4⟩
  · exact ⟨h.row.1, .inl h0⟩
  · exact ⟨h.row.1, .inr ⟨g, cap, cur, e1, e2, hK.block _ _ e3 (h2 _ _), e4⟩⟩
/-- An element in memory. -/
theorem RM.el (h : RM base w rg I B L z3 z4 z5 z6 v q) {i : Nat} (hi : i < q.length) : ∃ g cap, v = .slice (some ⟨g, 0, none⟩) q.length cap ∧ base ≤ g ∧ g < w.heap.size ∧ g ≠ rg ∧ q.length ≤ cap ∧ cap ≤ maxLen ∧ (∀ j, w.frozen? ⟨g, j, none⟩ = false) ∧ ∀ m u, (rrow q[i])[m]? = some u → w.cell? ⟨g, i * 7 + m, none⟩ = some u := by
  have hr := h.row
  rcases hr.2 with ⟨rfl, h0⟩ | ⟨g, cap, cur, rfl, hb, hg, h1, h2, h3, h4⟩
  · omega
  · refine ⟨g, cap, rfl, hb, lt_of_some hg, ?_, h1, h2, fun j => hr.frozenAt j, fun m u hu => ?_⟩
    · rintro rfl
      have hx := h.box
      unfold Blk at hx
      rw [hx] at hg
      simp only [Option.some.injEq, Obj.cells.injEq] at hg
      exact absurd hg.2.1 (by decide)
    · have hm : m < 7 := by
        rcases Nat.lt_or_ge m 7 with hlt | hge
        · exact hlt
        · rw [List.getElem?_eq_none (by simp [rrow]; omega)] at hu; cases hu
      have := hr.cells (g := g) rfl (i * 7 + m) u (by rw [rcl_get q i hi m hm]; exact hu)
      rw [Addr.add_lit, Nat.zero_add] at this
      exact this
/-- A store into an element. -/
theorem RM.set {g cap N : Nat} (h : RM base w rg I B L z3 z4 z5 z6 (.slice (some ⟨g, 0, none⟩) N cap) q) (hN : q.length = N) {i : Nat} (hi : i < q.length) (m : Nat) (u : Value) (hm : m < 7) (x : RE) (hx : (rrow q[i]).set m u = rrow x) :
    RM base (w.setCell ⟨g, i * 7 + m, none⟩ u) rg I B L z3 z4 z5 z6 (.slice (some ⟨g, 0, none⟩) N cap) (q.set i x) ∧ Keeps base DT w (w.setCell ⟨g, i * 7 + m, none⟩ u) := by
  subst hN
  obtain ⟨g', cap', e, hb, hlt, hne, -⟩ := h.el hi
  simp only [Value.slice.injEq, Option.some.injEq, Addr.mk.injEq, and_true, true_and] at e
  obtain ⟨rfl, rfl⟩ := e
  have hs := (h.row.stored (i * 7 + m) u).1
  rw [rcl_set q i hi m u hm x hx] at hs
  refine ⟨⟨h.box.far (p := ⟨g, i * 7 + m, none⟩) (fun e => hne e.symm) u, by rw [List.length_set]; exact hs, h.ge⟩, ?_⟩
  rcases h.row.2 with ⟨e, _⟩ | ⟨g', cap', cur, e, _, hg, _⟩
  · simp at e
  · simp only [Value.slice.injEq, Option.some.injEq, Addr.mk.injEq, and_true, true_and] at e
    obtain ⟨rfl, rfl⟩ := e
    exact (Keeps.refl base DT w).setCell (p := ⟨g, i * 7 + m, none⟩) hg (.inr ⟨_, _, rfl⟩) hb u
/-- Another row. -/
theorem RM.newRow {w1 : World} (h : RM base w rg I B L z3 z4 z5 z6 v q) (hb : Below w.heap.size w w1) {v' : Value} {q' : List RE} (ho : w1.ownsRow w.heap.size 72 7 v' q'.length (rcl q')) :
    RM base (w1.setCell ⟨rg, 7, none⟩ v') rg I B L z3 z4 z5 z6 v' q' ∧ Keeps base DT w (w1.setCell ⟨rg, 7, none⟩ v') := by
  have h1 := h.keep hb
  have hlt := h.box.lt
  refine ⟨⟨h1.box.set 7 v', Own.low h.low (Own.set ho (p := ⟨rg, 7, none⟩) hlt v'), h.ge⟩, ?_⟩
  exact (Keeps.new hb h.low).trans ((Keeps.refl base DT w1).setCell (p := ⟨rg, 7, none⟩) h1.box (.inl ⟨_, _, rfl⟩) h.ge v')
end

/-- The document's store, and what it stands for. -/
def RS (base : Nat) (w : World) (rg : Nat) (I B L : Int) (l : List (Nat × Nd)) : Prop := ∃ z3 z4 z5 z6 v q, RM base w rg I B L z3 z4 z5 z6 v q ∧ Fits w q l
section
variable {base : Nat} {w w' : World} {rg : Nat} {I B L : Int} {l : List (Nat × Nd)}
theorem RS.keep (h : RS base w rg I B L l) (hb : Below w.heap.size w w') : RS base w' rg I B L l := by
  obtain ⟨z3, z4, z5, z6, v, q, h1, h2⟩ := h
  exact ⟨z3, z4, z5, z6, v, q, h1.keep hb, h2.keep hb⟩
theorem RS.keeps (h : RS base w rg I B L l) {C : Nat} {T : Obj → Prop} (hK : Keeps C T w w') (h1 : ∀ c s, ¬ T (.cells c 61 s)) (h2 : ∀ c s, ¬ T (.cells c 72 s)) (h3 : ∀ c, ¬ T (.cells c 94 (0, 0))) : RS base w' rg I B L l := by
  obtain ⟨z3, z4, z5, z6, v, q, k1, k2⟩ := h
  exact ⟨z3, z4, z5, z6, v, q, k1.keeps hK h1 h2, k2.keeps hK h3⟩
theorem RS.low (h : RS base w rg I B L l) : base ≤ w.heap.size := by obtain ⟨_, _, _, _, _, _, h1, _⟩ := h; exact h1.low
end
/-- The program's work leaves the document's store; and the other way round. -/
theorem RS.other {base : Nat} {w w' : World} {rg C : Nat} {I B L : Int} {l : List (Nat × Nd)} (h : RS base w rg I B L l) (hK : Keeps C PT w w') : RS base w' rg I B L l :=
  h.keeps hK (by simp [PT]) (by simp [PT]) (by simp [PT])
theorem PS.other {base : Nat} {w w' : World} {sg mb I L B k C : Nat} {M : Int → Option Nat} {S : Int → Option Nd} (h : PS base w sg mb M I L B k S) (hK : Keeps C DT w w') : PS base w' sg mb M I L B k S :=
  h.keeps hK (by simp [DT]) (by simp [DT]) (by simp [DT]) (by simp [DT])
/-- What a call of the document's leaves. -/
def ROut (base rg : Nat) (I B L : Int) (w : World) (r : Int) (l : List (Nat × Nd)) (e : Ending) (w' : World) : Prop := e = .returned (.int .i64 r) ∧ RS base w' rg I B L l ∧ Keeps base DT w w'

/-! Lists of inodes, and places. -/
section
variable {I L B k : Nat} {S : Int → Option Nd}
theorem pl_none {n : Int} (hf : Fine I L B k S) (hS : S n = none) : ∀ j (hj : j < (lst S I).length), ((lst S I)[j].1 : Int) ≠ n := by
  intro j hj e
  have := (mem_lst.1 (List.getElem_mem hj)).2.2
  rw [e, hS] at this; cases this
theorem pl_some {n : Int} {d : Nd} (hf : Fine I L B k S) (hS : S n = some d) : ∃ (p m : Nat), n = (m : Int) ∧ 1 ≤ m ∧ m ≤ I ∧ p < (lst S I).length ∧ (∀ hp : p < (lst S I).length, (lst S I)[p] = (m, d)) ∧ (∀ j (hj : j < (lst S I).length), j < p → ((lst S I)[j].1 : Int) ≠ n) ∧
    (∀ d', lst (upd S n (some d')) I = (lst S I).set p (m, d')) ∧ lst (upd S n none) I = (lst S I).take p ++ (lst S I).drop (p + 1) := by
  have hb := hf.num n (by rw [hS]; simp)
  obtain ⟨m, rfl⟩ : ∃ m : Nat, n = m := ⟨n.toNat, by omega⟩
  have h1 : 1 ≤ m := by omega
  have h2 : m ≤ I := by omega
  have hsp := split S m I h1 h2
  rw [hS] at hsp
  simp only [Option.map_some, Option.toList_some] at hsp
  have hlen : (lo S m).length < (lst S I).length := by rw [hsp]; simp
  have hat : ∀ hp : (lo S m).length < (lst S I).length, (lst S I)[(lo S m).length] = (m, d) := fun hp => by
    simp only [hsp]
    rw [List.getElem_append_left (by simp), List.getElem_append_right (Nat.le_refl _)]
    simp
  refine ⟨(lo S m).length, m, rfl, h1, h2, hlen, hat, fun j hj hjp => ?_, fun d' => ?_, ?_⟩
  · have := List.pairwise_iff_getElem.1 (lst_rise S I) j _ hj hlen hjp
    rw [hat hlen] at this
    simp only at this
    omega
  · rw [lst_upd S m I _ h1 h2, hsp]
    simp only [Option.map_some, Option.toList_some]
    rw [List.set_append_left _ _ (by simp), List.set_append_right _ _ (Nat.le_refl _)]
    simp
  · rw [lst_upd S m I _ h1 h2, hsp]
    simp only [Option.map_none, Option.toList_none, List.append_nil]
    rw [List.append_assoc (lo S m), List.take_left', List.drop_append]
    · simp
    · rfl
theorem pl_new {m : Nat} {d : Nd} (h1 : 1 ≤ m) (h2 : m ≤ I) (hS : S (m : Int) = none) : lst (upd S (m : Int) (some d)) I = (lst S I).take (lo S m).length ++ (m, d) :: (lst S I).drop (lo S m).length := by
  have hsp := split S m I h1 h2
  rw [hS] at hsp
  simp only [Option.map_none, Option.toList_none, List.append_nil] at hsp
  rw [lst_upd S m I _ h1 h2, hsp]
  simp
end
end IN
end Go.Proofs.Ytieneehpijilpaa

/- Contracts of the document's at, gone, file. -/
namespace Go.Proofs.Ytieneehpijilpaa
open Go.ChangeShapes Go.WideShapes Go.ChangeAt Go.RowKit
set_option linter.unusedVariables false
set_option linter.unusedSimpArgs false
namespace IN
section
variable {base : Nat} {w w' : World} {rg : Nat} {I B L z3 z4 z5 z6 : Int} {v : Value} {q : List RE}
/-- An element, as the walk wants it. -/
theorem RM.opened (h : RM base w rg I B L z3 z4 z5 z6 v q) {p : Nat} (hp : p < q.length) : ∃ g N cap, v = .slice (some ⟨g, 0, none⟩) N cap ∧ q.length = N ∧ (p : Int) < (N : Int) ∧ N ≤ cap ∧ cap ≤ 9223372036854775807 ∧ base ≤ g ∧ g ≠ rg ∧ g < w.heap.size ∧ rg < w.heap.size ∧ (∀ j, w.frozen? ⟨g, j, none⟩ = false) ∧ (∀ j, w.frozen? ⟨rg, j, none⟩ = false) ∧
    w.cell? ⟨rg, 0, none⟩ = some (.int .i64 I) ∧ w.cell? ⟨rg, 1, none⟩ = some (.int .i64 B) ∧ w.cell? ⟨rg, 2, none⟩ = some (.int .i64 L) ∧ w.cell? ⟨rg, 7, none⟩ = some (.slice (some ⟨g, 0, none⟩) N cap) ∧
    w.cell? ⟨g, p * 7, none⟩ = some (.int .i64 q[p].n) ∧ w.cell? ⟨g, p * 7 + 1, none⟩ = some (.int .i64 q[p].kd) ∧ w.cell? ⟨g, p * 7 + 2, none⟩ = some (.int .i64 q[p].lk) ∧ w.cell? ⟨g, p * 7 + 3, none⟩ = some (.int .i64 q[p].op) ∧ w.cell? ⟨g, p * 7 + 4, none⟩ = some (.int .i64 q[p].sz) ∧ w.cell? ⟨g, p * 7 + 5, none⟩ = some (.int .i64 q[p].st) ∧ w.cell? ⟨g, p * 7 + 6, none⟩ = some q[p].v := by
  obtain ⟨g, cap, rfl, h1, h2, h3, h4, h5, h6, h7⟩ := h.el hp
  exact ⟨g, _, cap, rfl, rfl, by omega, h4, h5, h1, h3, h2, h.box.lt, h6, h.box.fz, h.box.cell rfl, h.box.cell rfl, h.box.cell rfl, h.box.cell rfl, by have := h7 0 _ rfl; rwa [Nat.add_zero] at this, h7 1 _ rfl, h7 2 _ rfl, h7 3 _ rfl, h7 4 _ rfl, h7 5 _ rfl, h7 6 _ rfl⟩
theorem RM.drewN (h : RM base w rg I B L z3 z4 z5 z6 v q) (n : Nat) : RM base (w.drewN n) rg I B L z3 z4 z5 z6 v q := h.keep ⟨rfl, rfl, rfl, Nat.le_refl _, fun _ _ => rfl⟩
theorem Fits.drewN {l : List (Nat × Nd)} (h : Fits w q l) (n : Nat) : Fits (w.drewN n) q l := h.keep ⟨rfl, rfl, rfl, Nat.le_refl _, fun _ _ => rfl⟩
theorem XE.keeps' {l : List (Int × ByteArray)} (h : XE w v l) {C : Nat} (hK : Keeps C DT w w') : XE w' v l := h.keeps hK (by simp [DT])

set_option maxRecDepth 100000 in
set_option maxHeartbeats 4000000 in
/-- at: the first place from which on it holds. -/
theorem rat_any (n : Int) (h : RM base w rg I B L z3 z4 z5 z6 v q) (K : Nat) (hK : K ≤ q.length) (hne : ∀ j (hj : j < q.length), j < K → q[j].n ≠ n) (heq : ∀ hj : K < q.length, q[K].n = n) (hlen : q.length ≤ 100000) :
    Calls Try.prog 52 #[.pointer (some ⟨rg, 0, none⟩), .int .i64 n] w fun e w' => e = .returned (.int .i64 (if K < q.length then (K : Int) else -1)) ∧ w = w' := by
  have c7 := h.box.cell (j := 7) rfl
  obtain ⟨ao, cap, hv⟩ := Own.form h.row
  have hE := W_hid (fun i (hi : i < q.length) => h.opened hi)
  rw [hv] at hE
  subst hv
  obtain ⟨N, hN⟩ : ∃ N, q.length = N := ⟨_, rfl⟩
  rw [hN] at c7 hK hlen ⊢
  replace hN := W_hid hN
  replace hne := W_hid hne
  replace heq := W_hid heq
  clear h
  go_enter Try.func52, Try.ntmps52
  go_wp2_with fail
  go_loopw [5] (fun i wr => ∃ k : Nat, k ≤ K ∧ i = .int .i64 (k : Int) ∧ w = wr) (fun i _ => N - (intOf i).toNat)
  case atStart => exact ⟨0, Nat.zero_le _, rfl, rfl⟩
  case round =>
    obtain ⟨k, hk, rfl, hwr⟩ := hrel
    subst hwr
    by_cases hlt : k < N
    · have hkq : k < q.length := by rw [hN.out]; exact hlt
      obtain ⟨g, N', cap', hv, hN', -, -, -, -, -, -, -, -, -, -, -, -, -, e0, -⟩ := hE.out k hkq
      simp only [Value.slice.injEq] at hv
      obtain ⟨rfl, -, -⟩ := hv
      clear hN' N'
      by_cases hkK : k < K
      · have hx := hne.out k hkq hkK
        obtain ⟨a, ha⟩ : ∃ a, q[k].n = a := ⟨_, rfl⟩
        rw [ha] at e0 hx
        clear ha hkq
        go_wp2_with fail
        go_roundw
        case rel => exact ⟨k + 1, by omega, by go_num, by first | trivial | rfl⟩
        case measure => simp [intOf]; omega
      · obtain rfl : k = K := by omega
        have hx := heq.out hkq
        rw [hx] at e0
        clear hx hkq
        go_wp2_with fail
        go_ret
        exact ⟨rfl, by first | trivial | rfl⟩
    · obtain rfl : k = K := by omega
      have hkN : k = N := by omega
      replace hkN := W_hid hkN
      have hge : (N : Int) ≤ (k : Int) := by omega
      go_wp2_with fail
      go_ret
      exact ⟨rfl, by first | trivial | rfl⟩

set_option maxRecDepth 100000 in
set_option maxHeartbeats 8000000 in
theorem rgone_no (p : Nat) (h : RM base w rg I B L z3 z4 z5 z6 v q) (hp : p < q.length) (hz : ¬ (q[p].lk = 0 ∧ q[p].op = 0)) :
    Calls Try.prog 53 #[.pointer (some ⟨rg, 0, none⟩), .int .i64 (p : Int)] w fun e w' => e = .returned (.tuple #[]) ∧ w = w' := by
  obtain ⟨g, N, cap, rfl, hN, hpN, hNc, hcm, -, -, -, -, -, -, -, -, -, c7, -, -, e2, e3, -⟩ := h.opened hp
  obtain ⟨a, ha⟩ : ∃ a, q[p].lk = a := ⟨_, rfl⟩
  obtain ⟨b, hb⟩ : ∃ b, q[p].op = b := ⟨_, rfl⟩
  rw [ha] at e2 hz
  rw [hb] at e3 hz
  clear ha hb hN hp h
  by_cases h0 : a = 0
  · have h1 : ¬ b = 0 := fun e => hz ⟨h0, e⟩
    subst h0
    clear hz
    go_enter Try.func53, Try.ntmps53
    go_wp2_with fail
    go_end0
    exact ⟨rfl, rfl⟩
  · clear hz
    go_enter Try.func53, Try.ntmps53
    go_wp2_with fail
    go_end0
    exact ⟨rfl, rfl⟩

set_option maxRecDepth 100000 in
set_option maxHeartbeats 8000000 in
theorem rgone_yes (p : Nat) {l : List (Nat × Nd)} (h : RM base w rg I B L z3 z4 z5 z6 v q) (hF : Fits w q l) (hp : p < q.length) (hz : q[p].lk = 0 ∧ q[p].op = 0) (hlen : q.length ≤ 100000) :
    Calls Try.prog 53 #[.pointer (some ⟨rg, 0, none⟩), .int .i64 (p : Int)] w fun e w' => e = .returned (.tuple #[]) ∧ RS base w' rg I B L (l.take p ++ l.drop (p + 1)) ∧ Keeps base DT w w' := by
  obtain ⟨g, N, cap, rfl, hN, hpN, hNc, hcm, hbg, hgr, hgl, hrl, hgf, hrf, c0, -, -, c7, -, -, e2, e3, -⟩ := h.opened hp
  rw [hz.1] at e2
  rw [hz.2] at e3
  obtain ⟨X, hmk, hmo⟩ := Own.make_room (t := 59) Try.underlying59 info_ino N (N : Int) rfl (by omega) (by omega)
  obtain ⟨ad, hlo, had1, had2⟩ := Own.cut_lo (t := 59) Try.underlying59 elem_ino info_ino g 0 N cap (p + 1) ((p : Int) + 1) (by omega) (by omega) hNc
  have hhi := Own.cut_hi (t := 59) Try.underlying59 elem_ino info_ino (some ⟨g, 0, none⟩) N cap p (by omega) hNc (.inr ⟨_, _, rfl⟩)
  have hwr : IntKind.i64.wrap ((p : Int) + 1) = (p : Int) + 1 := IntWalk.i64_in _ (by omega)
  have hi3 : (p : Int) + 1 ≤ (N : Int) := by omega
  have H := W_hid h
  have HF := W_hid hF
  have hrow : Hid (w.ownsRow base 72 7 (.slice (some ⟨g, 0, none⟩) N cap) N (rcl q)) := W_hid (by have := h.row; rw [hN] at this; exact this)
  have A1 : Hid ((w.alloc X).drew.ownsRow w.heap.size 72 7 (.slice (some ⟨w.heap.size, 0, none⟩) 0 N) 0 []) := W_hid (hmo w w.heap.size (Nat.le_refl _))
  have S1 := W_hid ((Own.src_take hrow.out rfl p (by omega)).keep (((Below.refl _ _).alloc (Nat.le_refl _) X).drew))
  have S2 := W_hid ((Own.src_drop hrow.out (p + 1) (by omega) ad (cap - (p + 1)) (by simpa using had2)).keep (((Below.refl _ _).alloc (Nat.le_refl _) X).drew))
  have hone1 : Hid (∀ u ∈ (rcl q).take (p * 7), u.oneCell' = true) := W_hid (fun u hu => hF.one u (List.mem_of_mem_take hu))
  have hone2 : Hid (∀ u ∈ (rcl q).drop ((p + 1) * 7), u.oneCell' = true) := W_hid (fun u hu => hF.one u (List.mem_of_mem_drop hu))
  have hcut : Hid ([] ++ (rcl q).take (p * 7) ++ (rcl q).drop ((p + 1) * 7) = rcl (q.take p ++ q.drop (p + 1)) ∧ 0 + p + (N - (p + 1)) = (q.take p ++ q.drop (p + 1)).length) := W_hid ⟨by rw [rcl_take, rcl_drop, rcl_app]; rfl, by rw [List.length_append, List.length_take, List.length_drop, hN]; omega⟩
  have hend := W_hid (fun (w3 : World) (v3 : Value) (hb : Below w.heap.size w w3) (ho : w3.ownsRow w.heap.size 72 7 v3 (q.take p ++ q.drop (p + 1)).length (rcl (q.take p ++ q.drop (p + 1)))) => h.newRow hb ho)
  obtain ⟨adb, ado, ads⟩ := ad
  simp only at had1
  obtain rfl := had1.symm
  rw [hN] at hlen
  have xa : ∀ ob, (w.alloc ob).cell? ⟨rg, 7, none⟩ = some (.slice (some ⟨g, 0, none⟩) N cap) := fun ob => (h.box.alloc ob).cell rfl
  replace hN := W_hid hN
  replace hrow := W_hid hrow.out
  have hbl1 : Hid (g < w.heap.size) := W_hid hgl
  have hgl1 : Hid (rg < w.heap.size) := W_hid hrl
  clear h hF hz had2 hmo hp c0
  go_enter Try.func53, Try.ntmps53
  go_wp2_with fail
  go_region_law (first
    | (refine Own.step_app rfl (.tmp 32) (.tmp 38) 59 rfl Try.underlying59 info_ino (.slice (some ⟨w.heap.size, 0, none⟩) 0 N) (.slice (some ⟨g, 0, none⟩) p cap) rfl rfl A1.out (by simp) S1.out hone1.out (by unfold maxLen; omega) (by omega) ?_
       intro v2 w2 ho2 hg2 hob2
       have A2 := W_hid ho2
       have S3 := W_hid (Own.Src.grown S2.out hg2 (fun ad n c e _ => by simp only [Value.slice.injEq, Option.some.injEq] at e; have := hbl1.out; obtain ⟨rfl, -, -⟩ := e; simp [Value.ownBlock]; omega))
       have x2b : w2.cell? ⟨rg, 7, none⟩ = some (.slice (some ⟨g, 0, none⟩) N cap) := Own.cellg hg2 (xa X) (by have := hgl1.out; simp [Value.ownBlock]; omega)
       have B2 := W_hid ((((Below.refl w.heap.size w).alloc (Nat.le_refl _) X).drew).grown hg2 (by simp) (fun j hj => Own.ge A1.out j hj))
       clear ho2 hg2 hob2)
    | (refine Own.step_app rfl (.tmp 39) (.tmp 46) 59 rfl Try.underlying59 info_ino v2 (.slice (some ⟨g, ado, ads⟩) (N - (p + 1)) (cap - (p + 1))) rfl rfl A2.out B2.out.size S3.out hone2.out (by unfold maxLen; omega) (by omega) ?_
       intro v3 w3 ho3 hg3 hob3
       obtain ⟨a3, c3, rfl⟩ := Own.form ho3
       have B3 := W_hid (B2.out.grown hg3 B2.out.size (fun k h => Own.ge A2.out k h))
       have A3 := W_hid ho3
       have bx3 := H.out.box.below B3.out hgl1.out
       have x3b := bx3.cell (j := 7) rfl
       have f3b := bx3.fz
       clear ho3 hg3 hob3 bx3))
  all_goals
    go_end0
    have ho3 := A3.out
    have e2 := hcut.out.2
    rw [hcut.out.1] at ho3
    simp only [Nat.zero_add] at ho3 e2
    rw [e2] at ho3
    rw [e2]
    obtain ⟨q1, q2⟩ := hend.out w3 _ B3.out ho3
    exact ⟨rfl, ⟨_, _, _, _, _, _, q1, ((HF.out.take p).app (HF.out.drop (p + 1))).keeps q2 (by simp [DT])⟩, q2⟩
end
end IN
end Go.Proofs.Ytieneehpijilpaa

namespace Go.Proofs.Ytieneehpijilpaa
open Go.ChangeShapes Go.WideShapes Go.ChangeAt Go.RowKit
set_option linter.unusedVariables false
set_option linter.unusedSimpArgs false
namespace IN
section
variable {base : Nat} {rg : Nat} {I B L k : Nat} {S : Int → Option Nd} {z3 z4 z5 z6 : Int} {v : Value} {q : List RE}
theorem rat_none {w : World} {n : Int} (hf : Fine I L B k S) (hI : I ≤ 4096) (hS : S n = none) (h : RM base w rg I B L z3 z4 z5 z6 v q) (hF : Fits w q (lst S I)) :
    Calls Try.prog 52 #[.pointer (some ⟨rg, 0, none⟩), .int .i64 n] w fun e w' => e = .returned (.int .i64 (-1)) ∧ w = w' := by
  have hl := hF.len
  have h1 := lst_len S I
  have := rat_any n h q.length (Nat.le_refl _) (fun j hj _ => by
    have e := hF.at_ j hj (by omega)
    rw [e.n]
    exact pl_none hf hS j (by omega)) (fun hj => absurd hj (Nat.lt_irrefl _)) (by omega)
  rw [if_neg (Nat.lt_irrefl _)] at this
  exact this
theorem rat_some {w : World} {n : Int} {p : Nat} (hI : I ≤ 4096) (hp : p < (lst S I).length) (hat : ((lst S I)[p].1 : Int) = n) (hbef : ∀ j (hj : j < (lst S I).length), j < p → ((lst S I)[j].1 : Int) ≠ n) (h : RM base w rg I B L z3 z4 z5 z6 v q) (hF : Fits w q (lst S I)) :
    Calls Try.prog 52 #[.pointer (some ⟨rg, 0, none⟩), .int .i64 n] w fun e w' => e = .returned (.int .i64 (p : Int)) ∧ w = w' := by
  have hl := hF.len
  have h1 := lst_len S I
  have := rat_any n h p (by omega) (fun j hj hjp => by
    have e := hF.at_ j hj (by omega)
    rw [e.n]
    exact hbef j (by omega) hjp) (fun hj => by
    have e := hF.at_ p hj hp
    rw [e.n]
    exact hat) (by omega)
  rw [if_pos (by omega)] at this
  exact this
theorem RM.fin {w : World} {l : List (Nat × Nd)} {g N cap : Nat} (h : RM base w rg I B L z3 z4 z5 z6 (.slice (some ⟨g, 0, none⟩) N cap) q) (hN : q.length = N) (hF : Fits w q l) {i : Nat} (hi : i < q.length) (m : Nat) (u : Value) (hm : m < 7) (x : RE) (hx : (rrow q[i]).set m u = rrow x) (y : Nat × Nd) (hE : EF w x y) :
    RS base (w.setCell ⟨g, i * 7 + m, none⟩ u) rg I B L (l.set i y) ∧ Keeps base DT w (w.setCell ⟨g, i * 7 + m, none⟩ u) := by
  obtain ⟨h1, h2⟩ := h.set hN hi m u hm x hx
  exact ⟨⟨_, _, _, _, _, _, h1, (hF.set i hE).keeps h2 (by simp [DT])⟩, h2⟩
theorem EF.drewN {w : World} {x : RE} {y : Nat × Nd} (h : EF w x y) (n : Nat) : EF (w.drewN n) x y := h.move fun _ _ _ => rfl
theorem range_six {w : World} {g o : Nat} {a b c d e f : Int} (h0 : w.cell? ⟨g, o, none⟩ = some (.int .i64 a)) (h1 : w.cell? ⟨g, o + 1, none⟩ = some (.int .i64 b)) (h2 : w.cell? ⟨g, o + 2, none⟩ = some (.int .i64 c)) (h3 : w.cell? ⟨g, o + 3, none⟩ = some (.int .i64 d)) (h4 : w.cell? ⟨g, o + 4, none⟩ = some (.int .i64 e)) (h5 : w.cell? ⟨g, o + 5, none⟩ = some (.int .i64 f)) : w.rangeAt g o [.int .i64 a, .int .i64 b, .int .i64 c, .int .i64 d, .int .i64 e, .int .i64 f] := by
  intro j v hj
  match j, hj with
  | 0, hj => cases hj; exact h0
  | 1, hj => cases hj; exact h1
  | 2, hj => cases hj; exact h2
  | 3, hj => cases hj; exact h3
  | 4, hj => cases hj; exact h4
  | 5, hj => cases hj; exact h5
/-- A count turned, then gone. -/
theorem rgone_set {w : World} {n : Int} {d d' : Nd} {p m : Nat} (hI : I ≤ 4096) (hS : S n = some d) (hp : p < (lst S I).length) (hset : ∀ d', lst (upd S n (some d')) I = (lst S I).set p (m, d')) (hdel : lst (upd S n none) I = (lst S I).take p ++ (lst S I).drop (p + 1))
    {g N cap : Nat} (h : RM base w rg I B L z3 z4 z5 z6 (.slice (some ⟨g, 0, none⟩) N cap) q) (hN : q.length = N) (hF : Fits w q (lst S I)) (mm : Nat) (u : Value) (hm : mm < 7) (x : RE) (hpq : p < q.length) (hx : (rrow q[p]).set mm u = rrow x) (hE : EF w x (m, d')) :
    Calls Try.prog 53 #[.pointer (some ⟨rg, 0, none⟩), .int .i64 (p : Int)] (w.setCell ⟨g, p * 7 + mm, none⟩ u) fun e w' => e = .returned (.tuple #[]) ∧ RS base w' rg I B L (lst (gone (upd S n (some d')) n) I) ∧ Keeps base DT w w' := by
  have hl := hF.len
  have h1 := lst_len S I
  obtain ⟨k1, k2⟩ := h.set hN hpq mm u hm x hx
  have f1 := (hF.set p hE).keeps k2 (by simp [DT])
  have hp' : p < (q.set p x).length := by rw [List.length_set]; exact hpq
  have ex : (q.set p x)[p] = x := by simp
  by_cases hz : d'.links = 0 ∧ d'.opens = 0
  · have e : gone (upd S n (some d')) n = upd S n none := by
      unfold gone; rw [upd_at]; simp only; rw [if_pos hz, upd_upd]
    rw [e, hdel]
    refine (rgone_yes p k1 f1 hp' (by rw [ex]; exact ⟨hE.lk.trans hz.1, hE.op.trans hz.2⟩) (by rw [List.length_set]; omega)).mono ?_
    rintro e w' ⟨rfl, r1, r2⟩
    rw [List.take_set_of_le (Nat.le_refl p), List.drop_set_of_lt (Nat.lt_succ_self p)] at r1
    exact ⟨rfl, r1, k2.trans r2⟩
  · have e : gone (upd S n (some d')) n = upd S n (some d') := by
      unfold gone; rw [upd_at]; simp only; rw [if_neg hz]
    rw [e, hset]
    refine (rgone_no p k1 hp' (by rw [ex]; exact fun hh => hz ⟨hE.lk.symm.trans hh.1, hE.op.symm.trans hh.2⟩)).mono ?_
    rintro e w' ⟨rfl, rfl⟩
    exact ⟨rfl, ⟨_, _, _, _, _, _, k1, f1⟩, k2⟩

set_option maxRecDepth 100000 in
set_option maxHeartbeats 8000000 in
theorem rLink_any (n : Int) (w : World) (hf : Fine I L B k S) (hI : I ≤ 4096) (hL : L ≤ 32768) (h : RS base w rg I B L (lst S I)) :
    Calls Try.prog 27 #[.pointer (some ⟨rg, 0, none⟩), .int .i64 n] w (ROut base rg I B L w (lkR L S n) (lst (lkS L S n) I)) := by
  obtain ⟨z3, z4, z5, z6, v, q, hM, hF⟩ := h
  cases hS : S n with
  | none =>
    have e1 : lkR L S n = 11 := by simp [lkR, askR, hS]
    have e2 : lkS L S n = S := by simp [lkS, hS]
    rw [e1, e2]
    have cA := W_hid (rat_none hf hI hS hM hF)
    have H := W_hid hM
    have HF := W_hid hF
    clear hM hF e1 e2 hS
    go_enter Try.func27, Try.ntmps27
    go_wp2_with fail
    refine cA.out.mono ?_
    rintro e w1 ⟨rfl, rfl⟩
    go_wp2_with fail
    go_ret
    exact ⟨rfl, ⟨_, _, _, _, _, _, H.out, HF.out⟩, Keeps.refl _ _ _⟩
  | some d =>
    obtain ⟨p, m, hnm, hm1, hmI, hp, hat, hbef, hset, hdel⟩ := pl_some hf hS
    have hg := hf.good _ d hS
    have hpq : p < q.length := by rw [hF.len]; exact hp
    have hE := hF.at_ p hpq hp
    rw [hat hp] at hE
    have cA := W_hid (rat_some (n := n) hI hp (by rw [hat hp]; exact hnm.symm) hbef hM hF)
    obtain ⟨g, N, cap, rfl, hN, hpN, hNc, hcm, hbg, hgr, hgl, hrl, hgf, hrf, c0, c1, c2, c7, x0, x1, x2, x3, x4, x5, x6⟩ := hM.opened hpq
    rw [hE.kd] at x1
    rw [hE.lk] at x2
    rw [hE.op] at x3
    simp only at x1 x2 x3
    have H := W_hid hM
    have HF := W_hid hF
    have HE := W_hid hE
    have HN := W_hid hN
    have HG := W_hid hg
    have HS := W_hid hS
    replace hpq := W_hid hpq
    replace hset := W_hid hset
    replace hdel := W_hid hdel
    replace hp := W_hid hp
    replace hnm := W_hid hnm
    have hk0 := hg.opens
    have hk1 := hg.links
    clear hM hF hE hN hg hat hbef
    by_cases hl : d.links < (L : Int)
    · have e1 : lkR L S n = 0 := by simp [lkR, askR, HS.out, hl]
      have e2 : lkS L S n = upd S n (some { d with links := d.links + 1 }) := by simp [lkS, HS.out, hl]
      rw [e1, e2, hset.out]
      have hw : IntKind.i64.wrap (d.links + 1) = d.links + 1 := IntWalk.i64_in _ (by omega)
      clear e1 e2
      go_enter Try.func27, Try.ntmps27
      go_wp2_with fail
      refine cA.out.mono ?_
      rintro e w1 ⟨rfl, rfl⟩
      go_wp2_with fail
      go_quiet (fail)
      go_wp2_with fail
      go_ret
      have E : EF w { q[p]'hpq.out with lk := d.links + 1 } (m, { d with links := d.links + 1 }) := ⟨HE.out.n, HE.out.kd, rfl, HE.out.op, HE.out.sz, HE.out.st, HE.out.v⟩
      have P := RM.fin (H.out.drewN nq) HN.out (HF.out.drewN nq) hpq.out 2 (.int .i64 (d.links + 1)) (by decide) { q[p]'hpq.out with lk := d.links + 1 } rfl _ (E.drewN nq)
      exact ⟨rfl, P.1, ((Keeps.refl _ _ _).drew nq).trans P.2⟩
    · have e1 : lkR L S n = 18 := by simp [lkR, askR, HS.out, hl]
      have e2 : lkS L S n = S := by simp [lkS, HS.out, hl]
      rw [e1, e2]
      clear e1 e2
      go_enter Try.func27, Try.ntmps27
      go_wp2_with fail
      refine cA.out.mono ?_
      rintro e w1 ⟨rfl, rfl⟩
      go_wp2_with fail
      go_quiet (fail)
      go_wp2_with fail
      go_ret
      exact ⟨rfl, ⟨_, _, _, _, _, _, H.out.drewN nq, HF.out.drewN nq⟩, (Keeps.refl _ _ _).drew nq⟩

set_option maxRecDepth 100000 in
set_option maxHeartbeats 8000000 in
theorem rOpen_any (n : Int) (w : World) (hf : Fine I L B k S) (hI : I ≤ 4096) (hk : k < 1000000) (h : RS base w rg I B L (lst S I)) :
    Calls Try.prog 29 #[.pointer (some ⟨rg, 0, none⟩), .int .i64 n] w (ROut base rg I B L w (opR S n) (lst (opS S n) I)) := by
  obtain ⟨z3, z4, z5, z6, v, q, hM, hF⟩ := h
  cases hS : S n with
  | none =>
    have e1 : opR S n = 11 := by simp [opR, askR, hS]
    have e2 : opS S n = S := by simp [opS, hS]
    rw [e1, e2]
    have cA := W_hid (rat_none hf hI hS hM hF)
    have H := W_hid hM
    have HF := W_hid hF
    clear hM hF e1 e2 hS
    go_enter Try.func29, Try.ntmps29
    go_wp2_with fail
    refine cA.out.mono ?_
    rintro e w1 ⟨rfl, rfl⟩
    go_wp2_with fail
    go_ret
    exact ⟨rfl, ⟨_, _, _, _, _, _, H.out, HF.out⟩, Keeps.refl _ _ _⟩
  | some d =>
    obtain ⟨p, m, hnm, hm1, hmI, hp, hat, hbef, hset, hdel⟩ := pl_some hf hS
    have hg := hf.good _ d hS
    have hpq : p < q.length := by rw [hF.len]; exact hp
    have hE := hF.at_ p hpq hp
    rw [hat hp] at hE
    have cA := W_hid (rat_some (n := n) hI hp (by rw [hat hp]; exact hnm.symm) hbef hM hF)
    obtain ⟨g, N, cap, rfl, hN, hpN, hNc, hcm, hbg, hgr, hgl, hrl, hgf, hrf, c0, c1, c2, c7, x0, x1, x2, x3, x4, x5, x6⟩ := hM.opened hpq
    rw [hE.kd] at x1
    rw [hE.lk] at x2
    rw [hE.op] at x3
    simp only at x1 x2 x3
    have H := W_hid hM
    have HF := W_hid hF
    have HE := W_hid hE
    have HN := W_hid hN
    have HG := W_hid hg
    have HS := W_hid hS
    replace hpq := W_hid hpq
    replace hset := W_hid hset
    replace hdel := W_hid hdel
    replace hp := W_hid hp
    replace hnm := W_hid hnm
    have hk0 := hg.opens
    have hk1 := hg.links
    clear hM hF hE hN hg hat hbef
    have e1 : opR S n = 0 := by simp [opR, askR, HS.out]
    have e2 : opS S n = upd S n (some { d with opens := d.opens + 1 }) := by simp [opS, HS.out]
    rw [e1, e2, hset.out]
    have hw : IntKind.i64.wrap (d.opens + 1) = d.opens + 1 := IntWalk.i64_in _ (by omega)
    clear e1 e2
    go_enter Try.func29, Try.ntmps29
    go_wp2_with fail
    refine cA.out.mono ?_
    rintro e w1 ⟨rfl, rfl⟩
    go_wp2_with fail
    go_ret
    have E : EF w { q[p]'hpq.out with op := d.opens + 1 } (m, { d with opens := d.opens + 1 }) := ⟨HE.out.n, HE.out.kd, HE.out.lk, rfl, HE.out.sz, HE.out.st, HE.out.v⟩
    have P := RM.fin H.out HN.out HF.out hpq.out 3 (.int .i64 (d.opens + 1)) (by decide) { q[p]'hpq.out with op := d.opens + 1 } rfl _ E
    exact ⟨rfl, P.1, P.2⟩

set_option maxRecDepth 100000 in
set_option maxHeartbeats 8000000 in
theorem rUnlink_any (n : Int) (w : World) (hf : Fine I L B k S) (hI : I ≤ 4096) (hL : L ≤ 32768) (hk : k < 1000000) (h : RS base w rg I B L (lst S I)) :
    Calls Try.prog 28 #[.pointer (some ⟨rg, 0, none⟩), .int .i64 n] w (ROut base rg I B L w (ulR S n) (lst (ulS S n) I)) := by
  obtain ⟨z3, z4, z5, z6, v, q, hM, hF⟩ := h
  cases hS : S n with
  | none =>
    have e1 : ulR S n = 11 := by simp [ulR, askR, hS]
    have e2 : ulS S n = S := by simp [ulS, hS]
    rw [e1, e2]
    have cA := W_hid (rat_none hf hI hS hM hF)
    have H := W_hid hM
    have HF := W_hid hF
    clear hM hF e1 e2 hS
    go_enter Try.func28, Try.ntmps28
    go_wp2_with fail
    refine cA.out.mono ?_
    rintro e w1 ⟨rfl, rfl⟩
    go_wp2_with fail
    go_ret
    exact ⟨rfl, ⟨_, _, _, _, _, _, H.out, HF.out⟩, Keeps.refl _ _ _⟩
  | some d =>
    obtain ⟨p, m, hnm, hm1, hmI, hp, hat, hbef, hset, hdel⟩ := pl_some hf hS
    have hg := hf.good _ d hS
    have hpq : p < q.length := by rw [hF.len]; exact hp
    have hE := hF.at_ p hpq hp
    rw [hat hp] at hE
    have cA := W_hid (rat_some (n := n) hI hp (by rw [hat hp]; exact hnm.symm) hbef hM hF)
    obtain ⟨g, N, cap, rfl, hN, hpN, hNc, hcm, hbg, hgr, hgl, hrl, hgf, hrf, c0, c1, c2, c7, x0, x1, x2, x3, x4, x5, x6⟩ := hM.opened hpq
    rw [hE.kd] at x1
    rw [hE.lk] at x2
    rw [hE.op] at x3
    simp only at x1 x2 x3
    have H := W_hid hM
    have HF := W_hid hF
    have HE := W_hid hE
    have HN := W_hid hN
    have HG := W_hid hg
    have HS := W_hid hS
    replace hpq := W_hid hpq
    replace hset := W_hid hset
    replace hdel := W_hid hdel
    replace hp := W_hid hp
    replace hnm := W_hid hnm
    have hk0 := hg.opens
    have hk1 := hg.links
    clear hM hF hE hN hg hat hbef
    by_cases hl : 0 < d.links
    · have e1 : ulR S n = 0 := by simp [ulR, askR, HS.out, hl]
      have e2 : ulS S n = gone (upd S n (some { d with links := d.links - 1 })) n := by simp [ulS, HS.out, hl]
      rw [e1, e2]
      have hw : IntKind.i64.wrap (d.links - 1) = d.links - 1 := IntWalk.i64_in _ (by omega)
      have E : EF w { q[p]'hpq.out with lk := d.links - 1 } (m, { d with links := d.links - 1 }) := ⟨HE.out.n, HE.out.kd, rfl, HE.out.op, HE.out.sz, HE.out.st, HE.out.v⟩
      have cG := W_hid (rgone_set hI HS.out hp.out hset.out hdel.out H.out HN.out HF.out 2 (.int .i64 (d.links - 1)) (by decide) { q[p]'hpq.out with lk := d.links - 1 } hpq.out rfl E)
      clear E
      have hne : ¬ d.links = 0 := by omega
      clear e1 e2
      go_enter Try.func28, Try.ntmps28
      go_wp2_with fail
      refine cA.out.mono ?_
      rintro e w1 ⟨rfl, rfl⟩
      go_wp2_with fail
      refine cG.out.mono ?_
      rintro e w2 ⟨rfl, r1, r2⟩
      replace r1 := W_hid r1
      replace r2 := W_hid r2
      go_wp2_with fail
      go_ret
      exact ⟨rfl, r1.out, r2.out⟩
    · have e1 : ulR S n = 2 := by simp [ulR, askR, HS.out, hl]
      have e2 : ulS S n = S := by simp [ulS, HS.out, hl]
      rw [e1, e2]
      have hne : d.links = 0 := by omega
      rw [hne] at x2
      replace hne := W_hid hne
      clear e1 e2
      go_enter Try.func28, Try.ntmps28
      go_wp2_with fail
      refine cA.out.mono ?_
      rintro e w1 ⟨rfl, rfl⟩
      go_wp2_with fail
      go_ret
      exact ⟨rfl, ⟨_, _, _, _, _, _, H.out, HF.out⟩, Keeps.refl _ _ _⟩

set_option maxRecDepth 100000 in
set_option maxHeartbeats 8000000 in
theorem rClose_any (n : Int) (w : World) (hf : Fine I L B k S) (hI : I ≤ 4096) (hL : L ≤ 32768) (hk : k < 1000000) (h : RS base w rg I B L (lst S I)) :
    Calls Try.prog 30 #[.pointer (some ⟨rg, 0, none⟩), .int .i64 n] w (ROut base rg I B L w (clR S n) (lst (clS S n) I)) := by
  obtain ⟨z3, z4, z5, z6, v, q, hM, hF⟩ := h
  cases hS : S n with
  | none =>
    have e1 : clR S n = 11 := by simp [clR, askR, hS]
    have e2 : clS S n = S := by simp [clS, hS]
    rw [e1, e2]
    have cA := W_hid (rat_none hf hI hS hM hF)
    have H := W_hid hM
    have HF := W_hid hF
    clear hM hF e1 e2 hS
    go_enter Try.func30, Try.ntmps30
    go_wp2_with fail
    refine cA.out.mono ?_
    rintro e w1 ⟨rfl, rfl⟩
    go_wp2_with fail
    go_ret
    exact ⟨rfl, ⟨_, _, _, _, _, _, H.out, HF.out⟩, Keeps.refl _ _ _⟩
  | some d =>
    obtain ⟨p, m, hnm, hm1, hmI, hp, hat, hbef, hset, hdel⟩ := pl_some hf hS
    have hg := hf.good _ d hS
    have hpq : p < q.length := by rw [hF.len]; exact hp
    have hE := hF.at_ p hpq hp
    rw [hat hp] at hE
    have cA := W_hid (rat_some (n := n) hI hp (by rw [hat hp]; exact hnm.symm) hbef hM hF)
    obtain ⟨g, N, cap, rfl, hN, hpN, hNc, hcm, hbg, hgr, hgl, hrl, hgf, hrf, c0, c1, c2, c7, x0, x1, x2, x3, x4, x5, x6⟩ := hM.opened hpq
    rw [hE.kd] at x1
    rw [hE.lk] at x2
    rw [hE.op] at x3
    simp only at x1 x2 x3
    have H := W_hid hM
    have HF := W_hid hF
    have HE := W_hid hE
    have HN := W_hid hN
    have HG := W_hid hg
    have HS := W_hid hS
    replace hpq := W_hid hpq
    replace hset := W_hid hset
    replace hdel := W_hid hdel
    replace hp := W_hid hp
    replace hnm := W_hid hnm
    have hk0 := hg.opens
    have hk1 := hg.links
    clear hM hF hE hN hg hat hbef
    by_cases hl : 0 < d.opens
    · have e1 : clR S n = 0 := by simp [clR, askR, HS.out, hl]
      have e2 : clS S n = gone (upd S n (some { d with opens := d.opens - 1 })) n := by simp [clS, HS.out, hl]
      rw [e1, e2]
      have hw : IntKind.i64.wrap (d.opens - 1) = d.opens - 1 := IntWalk.i64_in _ (by omega)
      have E : EF w { q[p]'hpq.out with op := d.opens - 1 } (m, { d with opens := d.opens - 1 }) := ⟨HE.out.n, HE.out.kd, HE.out.lk, rfl, HE.out.sz, HE.out.st, HE.out.v⟩
      have cG := W_hid (rgone_set hI HS.out hp.out hset.out hdel.out H.out HN.out HF.out 3 (.int .i64 (d.opens - 1)) (by decide) { q[p]'hpq.out with op := d.opens - 1 } hpq.out rfl E)
      clear E
      have hne : ¬ d.opens = 0 := by omega
      clear e1 e2
      go_enter Try.func30, Try.ntmps30
      go_wp2_with fail
      refine cA.out.mono ?_
      rintro e w1 ⟨rfl, rfl⟩
      go_wp2_with fail
      refine cG.out.mono ?_
      rintro e w2 ⟨rfl, r1, r2⟩
      replace r1 := W_hid r1
      replace r2 := W_hid r2
      go_wp2_with fail
      go_ret
      exact ⟨rfl, r1.out, r2.out⟩
    · have e1 : clR S n = 2 := by simp [clR, askR, HS.out, hl]
      have e2 : clS S n = S := by simp [clS, HS.out, hl]
      rw [e1, e2]
      have hne : d.opens = 0 := by omega
      rw [hne] at x3
      replace hne := W_hid hne
      clear e1 e2
      go_enter Try.func30, Try.ntmps30
      go_wp2_with fail
      refine cA.out.mono ?_
      rintro e w1 ⟨rfl, rfl⟩
      go_wp2_with fail
      go_ret
      exact ⟨rfl, ⟨_, _, _, _, _, _, H.out, HF.out⟩, Keeps.refl _ _ _⟩

set_option maxRecDepth 100000 in
set_option maxHeartbeats 8000000 in
theorem rfile_no (n : Int) (w : World) (hf : Fine I L B k S) (hI : I ≤ 4096) (hM : RM base w rg I B L z3 z4 z5 z6 v q) (hF : Fits w q (lst S I)) (r : Int) (hr : (askR S n fun d => if d.kind = 1 then (0 : Int) else 14) = r) (hr0 : r ≠ 0) :
    Calls Try.prog 54 #[.pointer (some ⟨rg, 0, none⟩), .int .i64 n] w fun e w' => e = .returned (.tuple #[.int .i64 0, .int .i64 r]) ∧ w = w' := by
  cases hS : S n with
  | none =>
    have e1 : r = 11 := by rw [← hr]; simp [askR, hS]
    subst e1
    have cA := W_hid (rat_none hf hI hS hM hF)
    clear hM hF hS hr hr0
    go_enter Try.func54, Try.ntmps54
    go_wp2_with fail
    refine cA.out.mono ?_
    rintro e w1 ⟨rfl, rfl⟩
    go_wp2_with fail
    go_ret2
    exact ⟨rfl, rfl⟩
  | some d =>
    obtain ⟨p, m, hnm, hm1, hmI, hp, hat, hbef, hset, hdel⟩ := pl_some hf hS
    have hg := hf.good _ d hS
    have hpq : p < q.length := by rw [hF.len]; exact hp
    have hE := hF.at_ p hpq hp
    rw [hat hp] at hE
    have cA := W_hid (rat_some (n := n) hI hp (by rw [hat hp]; exact hnm.symm) hbef hM hF)
    obtain ⟨g, N, cap, rfl, hN, hpN, hNc, hcm, hbg, hgr, hgl, hrl, hgf, hrf, c0, c1, c2, c7, x0, x1, x2, x3, x4, x5, x6⟩ := hM.opened hpq
    rw [hE.kd] at x1
    rw [hE.lk] at x2
    rw [hE.op] at x3
    simp only at x1 x2 x3
    have H := W_hid hM
    have HF := W_hid hF
    have HE := W_hid hE
    have HN := W_hid hN
    have HG := W_hid hg
    have HS := W_hid hS
    replace hpq := W_hid hpq
    replace hset := W_hid hset
    replace hdel := W_hid hdel
    replace hp := W_hid hp
    replace hnm := W_hid hnm
    have hk0 := hg.opens
    have hk1 := hg.links
    clear hM hF hE hN hg hat hbef
    have hk2 : d.kind = 2 := by
      rcases HG.out.kind with e | e
      · exfalso; apply hr0; rw [← hr]; simp [askR, HS.out, e]
      · exact e
    have e1 : r = 14 := by rw [← hr]; simp [askR, HS.out, hk2]
    subst e1
    rw [hk2] at x1
    replace hk2 := W_hid hk2
    clear hr hr0
    go_enter Try.func54, Try.ntmps54
    go_wp2_with fail
    refine cA.out.mono ?_
    rintro e w1 ⟨rfl, rfl⟩
    go_wp2_with fail
    go_ret2
    exact ⟨rfl, rfl⟩
set_option maxRecDepth 100000 in
set_option maxHeartbeats 8000000 in
theorem rfile_yes (n : Int) (w : World) {d : Nd} {p m : Nat} (hI : I ≤ 4096) (hM : RM base w rg I B L z3 z4 z5 z6 v q) (hF : Fits w q (lst S I)) (hp : p < (lst S I).length) (hat : (lst S I)[p] = (m, d)) (hnm : n = (m : Int)) (hbef : ∀ j (hj : j < (lst S I).length), j < p → ((lst S I)[j].1 : Int) ≠ n) (hk : d.kind = 1) :
    Calls Try.prog 54 #[.pointer (some ⟨rg, 0, none⟩), .int .i64 n] w fun e w' => e = .returned (.tuple #[.int .i64 (p : Int), .int .i64 0]) ∧ w = w' := by
  have hpq : p < q.length := by rw [hF.len]; exact hp
  have hE := hF.at_ p hpq hp
  rw [hat] at hE
  have cA := W_hid (rat_some (n := n) hI hp (by rw [hat]; exact hnm.symm) hbef hM hF)
  obtain ⟨g, N, cap, rfl, hN, hpN, hNc, hcm, hbg, hgr, hgl, hrl, hgf, hrf, c0, c1, c2, c7, x0, x1, x2, x3, x4, x5, x6⟩ := hM.opened hpq
  rw [hE.kd] at x1
  simp only [hk] at x1
  clear hM hF hE hN hat hbef hp hpq x0 x2 x3 x4 x5 x6 hk hnm
  go_enter Try.func54, Try.ntmps54
  go_wp2_with fail
  refine cA.out.mono ?_
  rintro e w1 ⟨rfl, rfl⟩
  go_wp2_with fail
  go_ret2
  exact ⟨rfl, rfl⟩

set_option maxRecDepth 100000 in
set_option maxHeartbeats 8000000 in
theorem rStat_any (n : Int) (w : World) (hf : Fine I L B k S) (hI : I ≤ 4096) (h : RS base w rg I B L (lst S I)) :
    Calls Try.prog 34 #[.pointer (some ⟨rg, 0, none⟩), .int .i64 n] w fun e w' => e = .returned (.tuple #[.agg (stV S n).toArray, .int .i64 (opR S n)]) ∧ Below w.heap.size w w' := by
  obtain ⟨W0, hW0⟩ : ∃ W0, w.alloc (.cells #[.int .i64 0, .int .i64 0, .int .i64 0, .int .i64 0, .int .i64 0, .int .i64 0] 41) = W0 := ⟨_, rfl⟩
  have hb0 : Below w.heap.size w W0 := by rw [← hW0]; exact (Below.refl _ _).alloc (Nat.le_refl _) _
  have hr0 : Blk W0 w.heap.size 41 zl := by rw [← hW0]; exact Blk.new w _ zl rfl
  obtain ⟨z3, z4, z5, z6, v, q, hM, hF⟩ := h.keep hb0
  have f1 := hr0.fz
  have r0 := hr0.cell (j := 0) rfl
  have r1 := hr0.cell (j := 1) rfl
  have r2 := hr0.cell (j := 2) rfl
  have r3 := hr0.cell (j := 3) rfl
  have r4 := hr0.cell (j := 4) rfl
  have r5 := hr0.cell (j := 5) rfl
  cases hS : S n with
  | none =>
    have e2 : opR S n = 11 := by simp [opR, askR, hS]
    have e3 : stV S n = zl := by simp [stV, hS]
    rw [e2, e3]
    have cA := W_hid (rat_none hf hI hS hM hF)
    clear hM hF e2 e3 hS h
    replace hr0 := W_hid hr0
    replace hb0 := W_hid hb0
    go_enter Try.func34, Try.ntmps34
    go_wp2_with fail
    refine cA.out.mono ?_
    rintro e w1 ⟨rfl, rfl⟩
    replace hW0 := W_hid hW0
    go_wp2_with fail
    exact bodyPost_ret (res_two rfl _ _ rfl (six_blk hr0.out 0 0 0 0 0 0)) rfl ⟨rfl, six_below hb0.out (Nat.le_refl _) 0 0 0 0 0 0⟩
  | some d =>
    have e2 : opR S n = 0 := by simp [opR, askR, hS]
    have e3 : stV S n = stl n d := by simp [stV, hS]
    rw [e2, e3]
    obtain ⟨p, m, hnm, hm1, hmI, hp, hat, hbef, hset, hdel⟩ := pl_some hf hS
    have hpq : p < q.length := by rw [hF.len]; exact hp
    have hE := hF.at_ p hpq hp
    rw [hat hp] at hE
    have cA := W_hid (rat_some (n := n) hI hp (by rw [hat hp]; exact hnm.symm) hbef hM hF)
    obtain ⟨g, N, cap, rfl, hN, hpN, hNc, hcm, hbg, hgr, hgl, hrl, hgf, hrf, c0, c1, c2, c7, x0, x1, x2, x3, x4, x5, x6⟩ := hM.opened hpq
    rw [hE.n] at x0
    rw [hE.kd] at x1
    rw [hE.lk] at x2
    rw [hE.op] at x3
    rw [hE.sz] at x4
    rw [hE.st] at x5
    simp only at x0 x1 x2 x3 x4 x5
    rw [← hnm] at x0
    unfold stl
    have hR := W_hid (range_six x0 x1 x2 x3 x4 x5)
    replace hr0 := W_hid hr0
    replace hb0 := W_hid hb0
    clear hM hF e2 e3 hS h hE hN hat hbef hset hdel x0 x1 x2 x3 x4 x5 x6 hnm hp hpq
    go_enter Try.func34, Try.ntmps34
    go_wp2_with fail
    refine cA.out.mono ?_
    rintro e w1 ⟨rfl, rfl⟩
    replace hW0 := W_hid hW0
    go_wp2_with (first | (refine wpList_load_mid rfl 41 (.tmp 19) rfl g (p * 7) rfl [.int .i64 n, .int .i64 d.kind, .int .i64 d.links, .int .i64 d.opens, .int .i64 d.size, .int .i64 (EM.cnt d.l : Int)] _ hR.out Try.underlying41 rfl (by kernel_rfl) ?_))
    exact bodyPost_ret (res_two rfl _ _ rfl (six_blk hr0.out n d.kind d.links d.opens d.size (EM.cnt d.l : Int))) rfl ⟨rfl, six_below hb0.out (Nat.le_refl _) n d.kind d.links d.opens d.size (EM.cnt d.l : Int)⟩

set_option maxRecDepth 100000 in
set_option maxHeartbeats 8000000 in
theorem rRight_yes (a b c d e f g : Int) (w : World) (hr : Right a b c) :
    Calls Try.prog 25 #[cap7 a b c d e f g] w fun r w' => r = .returned (.bool true) ∧ Below w.heap.size w w' := by
  unfold cap7
  obtain ⟨h1, h2, h3, h4, h5, h6⟩ := hr
  go_enter Try.func25, Try.ntmps25
  go_wp2_with fail
  go_ret
  exact ⟨rfl, (Below.refl _ w).alloc (Nat.le_refl _) _⟩
set_option maxRecDepth 100000 in
set_option maxHeartbeats 8000000 in
theorem rRight_no (a b c d e f g : Int) (w : World) (hr : ¬ Right a b c) :
    Calls Try.prog 25 #[cap7 a b c d e f g] w fun r w' => r = .returned (.bool false) ∧ Below w.heap.size w w' := by
  unfold cap7
  have hr : a < 1 ∨ 1 ≤ a ∧ (4096 < a ∨ a ≤ 4096 ∧ (b < 0 ∨ 0 ≤ b ∧ (16777216 < b ∨ b ≤ 16777216 ∧ (c < 1 ∨ 1 ≤ c ∧ 32768 < c)))) := by unfold Right at hr; omega
  go_enter Try.func25, Try.ntmps25
  rcases hr with hr | ⟨q1, hr | ⟨q2, hr | ⟨q3, hr | ⟨q4, hr | ⟨q5, hr⟩⟩⟩⟩⟩ <;>
  · go_wp2_with fail
    go_ret
    refine ⟨?_, (Below.refl _ w).alloc (Nat.le_refl _) _⟩
    first
      | rfl
      | (simp; omega)
set_option maxRecDepth 100000 in
set_option maxHeartbeats 8000000 in
theorem rNew_yes (a b c d e f g : Int) (w : World) (hr : Right a b c) :
    Calls Try.prog 11 #[cap7 a b c d e f g] w fun r w' => ∃ rg, r = .returned (.tuple #[.pointer (some ⟨rg, 0, none⟩), .int .i64 0]) ∧ RS w.heap.size w' rg a b c [] ∧ Below w.heap.size w w' := by
  have cR := W_hid (fun w => rRight_yes a b c d e f g w hr)
  clear hr
  unfold cap7 at cR ⊢
  go_enter Try.func11, Try.ntmps11
  go_wp2_with fail
  refine (cR.out _).mono ?_
  rintro r w1 ⟨rfl, b1⟩
  have hx := (Blk.new w 23 [.int .i64 a, .int .i64 b, .int .i64 c, .int .i64 d, .int .i64 e, .int .i64 f, .int .i64 g] rfl).keep b1
  have qf := hx.fz
  have q0 := hx.cell (j := 0) rfl
  have q1 := hx.cell (j := 1) rfl
  have q2 := hx.cell (j := 2) rfl
  have q3 := hx.cell (j := 3) rfl
  have q4 := hx.cell (j := 4) rfl
  have q5 := hx.cell (j := 5) rfl
  have q6 := hx.cell (j := 6) rfl
  have b2 := ((Below.refl w.heap.size w).alloc (Nat.le_refl _) (.cells #[.int .i64 a, .int .i64 b, .int .i64 c, .int .i64 d, .int .i64 e, .int .i64 f, .int .i64 g] 23)).trans (b1.mono (by simp))
  have hs := b2.size
  have b2 := W_hid b2
  clear hx b1
  go_wp2_with fail
  go_ret2
  refine ⟨w1.heap.size, rfl, ⟨d, e, f, g, .slice none 0 0, [], ⟨Blk.new w1 61 [.int .i64 a, .int .i64 b, .int .i64 c, .int .i64 d, .int .i64 e, .int .i64 f, .int .i64 g, .slice none 0 0] rfl, World.ownsRow_nil _ _ _ _, hs⟩, trivial⟩, b2.out.alloc hs _⟩
set_option maxRecDepth 100000 in
set_option maxHeartbeats 8000000 in
theorem rNew_no (a b c d e f g : Int) (w : World) (hr : ¬ Right a b c) :
    Calls Try.prog 11 #[cap7 a b c d e f g] w fun r w' => r = .returned (.tuple #[.pointer none, .int .i64 2]) ∧ Below w.heap.size w w' := by
  have cR := W_hid (fun w => rRight_no a b c d e f g w hr)
  clear hr
  unfold cap7 at cR ⊢
  go_enter Try.func11, Try.ntmps11
  go_wp2_with fail
  refine (cR.out _).mono ?_
  rintro r w1 ⟨rfl, b1⟩
  have b2 := W_hid (((Below.refl w.heap.size w).alloc (Nat.le_refl _) (.cells #[.int .i64 a, .int .i64 b, .int .i64 c, .int .i64 d, .int .i64 e, .int .i64 f, .int .i64 g] 23)).trans (b1.mono (by simp)))
  clear b1
  go_wp2_with fail
  go_ret2
  exact ⟨rfl, b2.out⟩
end
end IN
end Go.Proofs.Ytieneehpijilpaa

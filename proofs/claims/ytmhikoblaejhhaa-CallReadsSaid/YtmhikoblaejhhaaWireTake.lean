/- Contracts of the functions of package wire that read: gather, taker, TakeNumber, TakeText. -/
import Derived.Test.YtmhikoblaejhhaaWire
namespace Go.Proofs.Ytmhikoblaejhhaa
open Go.ChangeShapes Go.WideShapes Go.ChangeAt Go.RowKit
set_option linter.unusedVariables false


theorem num_take_succ (l : List UInt8) (k : Nat) (hk : k < l.length) : num (l.take (k + 1)) = num (l.take k) + 256 ^ k * (l.getD k 0).toNat := by
  rw [List.take_add_one, num_append]
  simp [List.getElem?_eq_getElem hk, num, List.length_take, Nat.min_eq_left (Nat.le_of_lt hk), List.getD]

theorem gathered {b : List UInt8} (hb : b.length = 8) (k : Nat) (hk : k < 8) :
    bits BinOp.or IntKind.u64 ((num (b.take k) : Nat) : Int) (IntKind.u64.wrap (IntKind.u64.wrap ((b[k]?.getD 0).toNat : Int) * 2 ^ (8 * k))) = ((num (b.take (k + 1)) : Nat) : Int) := by
  have h1 : num (b.take k) < 256 ^ k := by
    have := num_lt (b.take k)
    rwa [List.length_take, hb, Nat.min_eq_left (by omega)] at this
  have hs := num_take_succ b k (by omega)
  rw [List.getD] at hs
  generalize (b[k]?.getD 0) = d at *
  have hd := d.toNat_lt
  have e256 : (256 : Nat) ^ k = 2 ^ (8 * k) := by rw [Nat.pow_mul]
  have hle : 2 ^ (8 * k) ≤ 2 ^ 56 := Nat.pow_le_pow_right (by omega) (by omega)
  have h2 : d.toNat * 2 ^ (8 * k) < 18446744073709551616 := by
    have : d.toNat * 2 ^ (8 * k) ≤ 255 * 2 ^ 56 := Nat.mul_le_mul (by omega) hle
    omega
  have e1 : IntKind.u64.wrap (d.toNat : Int) = (d.toNat : Int) := by rw [IntKind.wrap_u64]; omega
  have e2 : IntKind.u64.wrap ((d.toNat : Int) * 2 ^ (8 * k)) = ((d.toNat * 2 ^ (8 * k) : Nat) : Int) := by
    have : ((d.toNat : Int) * 2 ^ (8 * k)) = ((d.toNat * 2 ^ (8 * k) : Nat) : Int) := by simp
    rw [this, IntKind.wrap_u64]; omega
  rw [e1, e2, u64_or_nat _ _ (by omega) h2]
  rw [hs, e256, Nat.mul_comm d.toNat, Nat.or_comm, ← Nat.two_pow_add_eq_or_of_lt (by omega), Nat.add_comm]

set_option maxRecDepth 100000 in
set_option maxHeartbeats 400000 in
theorem gather_any (ao : Option Addr) (m c : Nat) (l : List UInt8) (w : World) (hb : BS w ao m c l) (hm : m ≤ 8) :
    Calls Try.prog 39 #[.slice ao m c] w fun e w' => e = .returned (.int .u64 ((num l : Nat) : Int)) ∧ Below w.heap.size w w' := by
  have hl := hb.1
  have hz : splice (List.replicate 8 (Value.int .u8 0)) 0 (cel l) = cel (l ++ List.replicate (8 - m) 0) := by
    have e : (List.replicate 8 (Value.int .u8 0)).drop m = List.replicate (8 - m) (Value.int .u8 0) := List.drop_replicate
    simp only [splice, cel_append, cel_length, hl, Nat.zero_add, List.take_zero, List.nil_append, e]
    simp [cel]
  have hlen8 : (l ++ List.replicate (8 - m) 0).length = 8 := by simp; omega
  have hnum : num l = num (l ++ List.replicate (8 - m) 0) := by rw [num_append, num_zeros]; simp
  rw [hnum]
  have hmin : (cel l).length = Nat.min m 8 := by rw [cel_length, hl]; exact (Nat.min_eq_left hm).symm
  generalize hL : l ++ List.replicate (8 - m) 0 = L at *
  clear hL hnum
  have hpos : 0 < (cel l).length → some (⟨w.heap.size, 0, none⟩ : Addr) = some ⟨w.heap.size, 0, none⟩ ∧ ∃ ad, ao = some ad ∧ ∀ j v, (cel l)[j]? = some v → (w.alloc (.cells #[.int .u8 0, .int .u8 0, .int .u8 0, .int .u8 0, .int .u8 0, .int .u8 0, .int .u8 0, .int .u8 0] 65)).cell? (ad.add j) = some v := by
    intro h0
    refine ⟨rfl, ?_⟩
    cases hao : ao with
    | none => rw [cel_length, hl] at h0; have := hb.none hao; omega
    | some ad => exact ⟨ad, rfl, (hb.below ((Below.refl _ _).alloc (Nat.le_refl _) _) (Nat.le_refl _)).2.2.2.2 ad hao⟩
  have Hz : Hid (splice [Value.int .u8 0, Value.int .u8 0, Value.int .u8 0, Value.int .u8 0, Value.int .u8 0, Value.int .u8 0, Value.int .u8 0, Value.int .u8 0] 0 (cel l) = cel L) := hz
  clear hz
  have Hmin : Hid _ := hmin
  have Hl : Hid _ := hl
  clear hmin hl
  have Hlen8 : Hid _ := hlen8
  clear hlen8
  go_enter Try.func39, Try.ntmps39
  go_wp2_with (with_reducible show wpList _ _ _ _ _ _; refine wpList_copy_splice rfl (.tmp 7) (.tmp 8) 50 50 rfl 5 Try.underlying50 (by kernel_rfl) (some ⟨w.heap.size, 0, none⟩) ao 8 8 m c rfl rfl w.heap.size 0 (List.replicate 8 (.int .u8 0)) 65 (heap_alloc_new _ _) (cel l) Hmin.out hpos (by rw [cel_length, Hl.out]; simp; omega) (cel_one _) w.heap.size w ((Below.refl _ _).alloc (Nat.le_refl _) _) (Nat.le_refl _) ?_)
  intro w2 hw2 bel2
  have hw3 := hw2.out
  rw [Hz.out] at hw3
  clear hw2 Hz hpos
  obtain ⟨b0, b1, b2, b3, b4, b5, b6, b7, h8⟩ := list8 L Hlen8.out
  have H8 : Hid _ := h8
  rw [h8] at hw3
  clear h8
  simp only [cel, List.map_cons, List.map_nil] at hw3
  go_wp2_with (refine wpList_load_row rfl 65 (.tmp 3) rfl w.heap.size rfl 65 _ (0, 0) _ hw3 Try.underlying65 rfl (by kernel_rfl) ?_)
  have hidx : ∀ (k : Nat) (hk : k < 8) (wx : World), (Instr.index 65 (.agg #[.int .u8 b0.toNat, .int .u8 b1.toNat, .int .u8 b2.toNat, .int .u8 b3.toNat, .int .u8 b4.toNat, .int .u8 b5.toNat, .int .u8 b6.toNat, .int .u8 b7.toNat]) (.int .i64 k)).run Try.prog wx = .ok (.int .u8 ((L.getD k 0).toNat : Int)) wx := by
    intro k hk wx
    rw [H8.out]
    rcases (by omega : k = 0 ∨ k = 1 ∨ k = 2 ∨ k = 3 ∨ k = 4 ∨ k = 5 ∨ k = 6 ∨ k = 7) with rfl | rfl | rfl | rfl | rfl | rfl | rfl | rfl <;> kernel_rfl
  go_loop [4, 5, 6, 11] (fun v x y i => ∃ k : Nat, k ≤ 8 ∧ i = .int .i64 k ∧ v = .int .u64 ((num (L.take k) : Nat) : Int)) (fun _ _ _ i => (8 - intOf i).toNat)
  case atStart => exact ⟨0, by omega, rfl, by simp [num]⟩
  case round =>
    obtain ⟨k, hk, rfl, rfl⟩ := hrel
    by_cases hlt : k < 8
    · have hix := hidx k hlt
      have hg : Hid _ := gathered Hlen8.out k hlt
      go_wp2
      go_round
      case rel => exact ⟨k + 1, by omega, by go_num, by rw [hg.out]⟩
      case measure => simp [intOf]; omega
    · have h8 : Hid (k = 8) := (by omega : k = 8)
      go_wp2
      go_ret
      exact ⟨ret_u64 (by rw [h8.out, List.take_of_length_le (by rw [Hlen8.out]; exact Nat.le_refl _)]), bel2⟩

/-- What is left of n bytes at an index. -/
def has (n : Nat) (at_ : Int) (m : Nat) : Bool := decide (0 ≤ at_) && decide (at_ + (m : Int) ≤ (n : Int))

set_option maxRecDepth 100000 in
set_option maxHeartbeats 400000 in
theorem taken_yes (g : Nat) (ao : Option Addr) (n cap : Nat) (l : List UInt8) (x z : Nat) (zi : Int) (hzi : zi = z) (w0 w : World) (hb : BS w0 ao n cap l) (hg : w0.heap.size ≤ g) (hbel : Below w0.heap.size w0 w) (hx : x + z ≤ n)
    (hat : w.cell? ⟨g, 0, none⟩ = some (.int .i64 x)) (hfz : w.frozen? ⟨g, 0, none⟩ = false) (q : Nat) (hbx : w.cell? ⟨q, 0, none⟩ = some (.slice ao n cap)) (hne : q ≠ g) :
    Calls Try.prog 40 #[.int .i64 zi, .pointer (some ⟨g, 0, none⟩), .pointer (some ⟨q, 0, none⟩)] w fun e w' =>
      ∃ ao', e = .returned (.tuple #[.slice ao' z (cap - x), .int .i64 ((x : Int) + (z : Int)), .bool true]) ∧ BS w0 ao' z (cap - x) ((l.drop x).take z) ∧ Below w0.heap.size w0 w' ∧
        w'.cell? ⟨g, 0, none⟩ = some (.int .i64 ((x + z : Nat) : Int)) ∧ w'.frozen? ⟨g, 0, none⟩ = false ∧ w'.cell? ⟨q, 0, none⟩ = some (.slice ao n cap) := by
  subst hzi
  have hm := hb.2.2.1
  have hcap := hb.2.1
  unfold maxLen at hm
  have hq' : (w.setCell ⟨g, 0, none⟩ (.int .i64 ((x : Int) + (z : Int)))).cell? ⟨q, 0, none⟩ = some (.slice ao n cap) := by
    rw [World.cell?_setCell_other _ _ _ _ (by intro h; exact hne (by simpa using congrArg Addr.block h.symm))]; exact hbx
  have hg' : (w.setCell ⟨g, 0, none⟩ (.int .i64 ((x : Int) + (z : Int)))).cell? ⟨g, 0, none⟩ = some (.int .i64 ((x : Int) + (z : Int))) := World.cell?_setCell_same _ _ _ hat
  have hb' : Hid (BS w0 (if cap = x then ao else ao.map (fun a => a.add x)) z (cap - x) ((l.drop x).take z)) := by
    have := hb.cut (lo := x) (hi := x + z) (by omega) hx
    rw [Nat.mul_one, Nat.add_sub_cancel_left, List.drop_take, Nat.add_sub_cancel_left] at this
    exact this
  have hfin : ∀ k : Nat, Hid (Below w0.heap.size w0 ((w.setCell ⟨g, 0, none⟩ (.int .i64 ((x : Int) + (z : Int)))).drewN k) ∧ ((w.setCell ⟨g, 0, none⟩ (.int .i64 ((x : Int) + (z : Int)))).drewN k).cell? ⟨g, 0, none⟩ = some (.int .i64 ((x + z : Nat) : Int)) ∧
      ((w.setCell ⟨g, 0, none⟩ (.int .i64 ((x : Int) + (z : Int)))).drewN k).frozen? ⟨g, 0, none⟩ = false ∧ ((w.setCell ⟨g, 0, none⟩ (.int .i64 ((x : Int) + (z : Int)))).drewN k).cell? ⟨q, 0, none⟩ = some (.slice ao n cap)) :=
    fun k => ⟨below_drewN (hbel.setCell hg _) k, by rw [World.cell?_drewN, hg']; simp, by rw [World.frozen?_drewN, World.frozen?_setCell]; exact hfz, by rw [World.cell?_drewN]; exact hq'⟩
  go_enter Try.func40, Try.ntmps40
  go_wp2
  go_quiet (fail)
  go_wp2
  · have hc : cap = x := by assumption
    have F := (hfin nq).out
    have B := hb'.out
    subst hc
    rw [if_pos rfl] at B
    simp only [Nat.sub_self] at B
    go_ret3
    exact ⟨_, rfl, B, F⟩
  · have hc : ¬ cap = x := by assumption
    have F := (hfin nq).out
    have B := hb'.out
    rw [if_neg hc] at B
    go_ret3
    exact ⟨_, rfl, B, F⟩

theorem taken_no (g : Nat) (ao : Option Addr) (n cap : Nat) (l : List UInt8) (x zi : Int) (w0 w : World) (hb : BS w0 ao n cap l) (hx0 : -9223372036854775808 ≤ x) (hx1 : x ≤ 9223372036854775807)
    (hno : x < 0 ∨ (n : Int) < x ∨ (n : Int) - x < zi) (hat : w.cell? ⟨g, 0, none⟩ = some (.int .i64 x)) (q : Nat) (hbx : w.cell? ⟨q, 0, none⟩ = some (.slice ao n cap)) :
    Calls Try.prog 40 #[.int .i64 zi, .pointer (some ⟨g, 0, none⟩), .pointer (some ⟨q, 0, none⟩)] w fun e w' => e = .returned (.tuple #[.slice none 0 0, .int .i64 0, .bool false]) ∧ w = w' := by
  have hm := hb.2.2.1
  have hcap := hb.2.1
  unfold maxLen at hm
  rcases (by omega : x < 0 ∨ (0 ≤ x ∧ (n : Int) < x) ∨ (0 ≤ x ∧ x ≤ (n : Int) ∧ (n : Int) - x < zi)) with h | h | h
  · go_enter Try.func40, Try.ntmps40
    go_wp2
    go_ret3
    exact ⟨rfl, rfl⟩
  · go_enter Try.func40, Try.ntmps40
    go_wp2
    go_ret3
    exact ⟨rfl, rfl⟩
  · go_enter Try.func40, Try.ntmps40
    go_wp2
    go_ret3
    exact ⟨rfl, rfl⟩

end Go.Proofs.Ytmhikoblaejhhaa

/- What the law NamesCount needs besides: plain facts of paths; that a slice of what came in is laid out. -/
import Derived.Test.YtmnmheocmcmpmaaGreatZB08
import Derived.Test.YtmnmheocmcmpmaaGreatZB01
import Derived.Deep.OwnRows
import Derived.Laws.OwnMore
import Derived.OpenShut
import Derived.WalkSmall
namespace Go.Proofs.YtmnmheocmcmpmaaGreat
set_option linter.unusedVariables false
set_option linter.unusedSimpArgs false
namespace PM
/-! Totals. -/
theorem tot_sub {a b : List ByteArray} (h : List.Sublist a b) : tot a ≤ tot b := by
  induction h with
  | slnil => simp
  | cons x _ ih => rw [tot_cons]; omega
  | cons_cons x _ ih => rw [tot_cons, tot_cons]; omega
/-! Components. -/
/-! The parts of a text. -/
theorem split_run : ∀ (x cur : List UInt8) (acc : List ByteArray) (r : List UInt8), (∀ c ∈ x, c.toNat ≠ 47) → split cur acc (x ++ r) = split (cur ++ x) acc r
  | [], cur, acc, r, _ => by simp
  | c :: x, cur, acc, r, h => by
    rw [List.cons_append, split, if_neg (h c (by simp)), split_run x _ acc r fun y hy => h y (by simp [hy])]
    simp
theorem split_slash (r : List UInt8) (acc : List ByteArray) : split [] acc (47 :: r) = split [] acc r := by
  rw [split, if_pos (by rfl), if_neg (by simp), emit_nil]
theorem split_name (x : ByteArray) (hx : comp x = true) (acc : List ByteArray) (r : List UInt8) : split [] acc (x.data.toList ++ 47 :: r) = split [] (acc ++ [x]) r := by
  obtain ⟨⟨h1, h2⟩, h3, -⟩ := (comp_iff x).1 hx
  have hl := list_size x
  rw [split_run _ _ _ _ h3, List.nil_append, split, if_pos (by rfl), if_neg (by omega), emit, if_neg (fun h => by rw [h] at hl; simp at hl; omega), str_of]
theorem split_name_end (x : ByteArray) (hx : comp x = true) (acc : List ByteArray) : split [] acc x.data.toList = some (acc ++ [x]) := by
  obtain ⟨⟨h1, h2⟩, h3, -⟩ := (comp_iff x).1 hx
  have hl := list_size x
  have := split_run x.data.toList [] acc [] h3
  rw [List.append_nil] at this
  rw [this, List.nil_append, split, if_neg (by omega), emit, if_neg (fun h => by rw [h] at hl; simp at hl; omega), str_of]
/-! A path's text. -/
theorem behind_length : ∀ l : List ByteArray, (behind l).length = tot l
  | [] => rfl
  | x :: r => by simp only [behind, List.length_cons, List.length_append, list_size, behind_length r, tot_cons]; omega
theorem behind_append : ∀ a b : List ByteArray, behind (a ++ b) = behind a ++ behind b
  | [], b => rfl
  | x :: a, b => by simp only [List.cons_append, behind, behind_append a b, List.append_assoc]
theorem behind_last : ∀ (l : List ByteArray) (h : l ≠ []), (∀ x ∈ l, comp x = true) → ∃ c, (behind l).getLast? = some c ∧ c.toNat ≠ 47
  | [x], _, hc => by
    obtain ⟨⟨h1, -⟩, h3, -⟩ := (comp_iff x).1 (hc x (by simp))
    have hl := list_size x
    have hne : x.data.toList ≠ [] := fun h => by rw [h] at hl; simp at hl; omega
    refine ⟨x.data.toList.getLast hne, ?_, h3 _ (List.getLast_mem hne)⟩
    simp only [behind, List.append_nil]
    rw [List.getLast?_cons, List.getLast?_eq_some_getLast hne]; rfl
  | x :: y :: r, _, hc => by
    obtain ⟨c, h1, h2⟩ := behind_last (y :: r) (by simp) fun z hz => hc z (by simp [List.mem_cons.1 hz])
    refine ⟨c, ?_, h2⟩
    rw [behind, List.getLast?_cons, List.getLast?_append, h1]; rfl
/-! The normal form. -/
end PM
end Go.Proofs.YtmnmheocmcmpmaaGreat
namespace Go.Proofs.YtmnmheocmcmpmaaGreat
open Go.ChangeShapes Go.WideShapes Go.ChangeAt Go.RowKit
set_option linter.unusedVariables false
set_option linter.unusedSimpArgs false
theorem laidOut : laidOutB Tryz.prog = true := by kernel_rfl
section
variable {w w' : World} {g : Nat} {e : TypeId} {l : List Value}
end
section
variable {w w' w2 : World} {g b : Nat}
end
end Go.Proofs.YtmnmheocmcmpmaaGreat

/- Frames of calls and replies, plain: bytes by shapes, and what is read from bytes. -/
import Derived.Test.YtmhikoblaejhhaaCalShape
import Derived.Test.YtmhikoblaejhhaaBytes
namespace Go.Proofs.Ytmhikoblaejhhaa
open Go.ChangeShapes Go.WideShapes Go.ChangeAt Go.RowKit Go.Maps
set_option linter.unusedVariables false
set_option linter.unusedSimpArgs false
namespace CA
/-- A number's 64 bits. -/
def un (z : Int) : Nat := (z % 18446744073709551616).toNat
theorem un_lt (z : Int) : un z < 18446744073709551616 := by unfold un; omega
theorem un_wrap (z : Int) : IntKind.u64.wrap z = (un z : Int) := by
  unfold un
  simp [IntKind.wrap, IntKind.signed, IntKind.bits]; omega
/-- The number that 64 bits are. -/
def si (k : Nat) : Int := if k < 9223372036854775808 then k else (k : Int) - 18446744073709551616
theorem si_wrap {k : Nat} (h : k < 18446744073709551616) : IntKind.i64.wrap (k : Int) = si k := by
  unfold si
  simp [IntKind.wrap, IntKind.signed, IntKind.bits]
  split <;> omega
theorem si_un {z : Int} (h0 : -9223372036854775808 ≤ z) (h1 : z ≤ 9223372036854775807) : si (un z) = z := by
  unfold si un
  split <;> omega
theorem un_si {k : Nat} (h : k < 18446744073709551616) : un (si k) = k := by
  unfold si un
  split <;> omega
theorem si_lo {k : Nat} (h : k < 18446744073709551616) : -9223372036854775808 ≤ si k ∧ si k ≤ 9223372036854775807 := by
  unfold si
  split <;> omega

/-- The bytes of what a shape uses. -/
def body : List UInt8 → List Int → List ByteArray → List UInt8
  | [], _, _ => []
  | c :: r, ns, ss => if c = 110 then (match ns with | n :: ns => le 8 (un n) ++ body r ns ss | [] => []) else (match ss with | s :: ss => le 4 s.size ++ s.data.toList ++ body r ns ss | [] => [])
/-- What it leaves alone is nothing. -/
def blk : List UInt8 → List Int → List ByteArray → Bool
  | [], ns, ss => ns.all (· == 0) && ss.all (fun s => s.size == 0)
  | c :: r, ns, ss => if c = 110 then blk r ns.tail ss else blk r ns ss.tail
/-- A call's frame, or why it has none. -/
def fits (l : List UInt8) (ns : List Int) (ss : List ByteArray) : Bool := decide (8 + (body l ns ss).length ≤ 8192) && blk l ns ss
def encS (no : Int) (ns : List Int) (ss : List ByteArray) : ByteArray := match shI no with
  | none => ByteArray.empty
  | some l => if fits l.data.toList ns ss = true then strOf (le 8 (un no) ++ body l.data.toList ns ss) else ByteArray.empty
def encE (no : Int) (ns : List Int) (ss : List ByteArray) : Int := match shI no with
  | none => 10
  | some l => if fits l.data.toList ns ss = true then 0 else 2
theorem enc_some {no : Int} {l : ByteArray} (h : shI no = some l) (ns : List Int) (ss : List ByteArray) :
    encS no ns ss = (if fits l.data.toList ns ss = true then strOf (le 8 (un no) ++ body l.data.toList ns ss) else ByteArray.empty) ∧ encE no ns ss = (if fits l.data.toList ns ss = true then 0 else 2) := by
  unfold encS encE
  rw [h]
  exact ⟨rfl, rfl⟩
/-- There are eight shapes. -/
def LS : List (List UInt8) := [[116, 110], [110], [110, 110], [110, 116], [110, 110, 110], [116], [116, 116], []]
theorem shI_LS {z : Int} {l : ByteArray} (h : shI z = some l) : ∃ x ∈ LS, l = bs x := by
  by_cases hz : z < 1 ∨ 25 < z
  · rw [shI_out hz] at h; cases h
  · rcases (by omega : z = 1 ∨ z = 2 ∨ z = 3 ∨ z = 4 ∨ z = 5 ∨ z = 6 ∨ z = 7 ∨ z = 8 ∨ z = 9 ∨ z = 10 ∨ z = 11 ∨ z = 12 ∨ z = 13 ∨ z = 14 ∨ z = 15 ∨ z = 16 ∨ z = 17 ∨ z = 18 ∨ z = 19 ∨ z = 20 ∨ z = 21 ∨ z = 22 ∨ z = 23 ∨ z = 24 ∨ z = 25) with rfl | rfl | rfl | rfl | rfl | rfl | rfl | rfl | rfl | rfl | rfl | rfl | rfl | rfl | rfl | rfl | rfl | rfl | rfl | rfl | rfl | rfl | rfl | rfl | rfl
    all_goals (
      have e : l = _ := (Option.some.inj h).symm
      rw [e]
      first
        | exact ⟨[116, 110], by simp [LS], rfl⟩
        | exact ⟨[110], by simp [LS], rfl⟩
        | exact ⟨[110, 110], by simp [LS], rfl⟩
        | exact ⟨[110, 116], by simp [LS], rfl⟩
        | exact ⟨[110, 110, 110], by simp [LS], rfl⟩
        | exact ⟨[116], by simp [LS], rfl⟩
        | exact ⟨[116, 116], by simp [LS], rfl⟩
        | exact ⟨[], by simp [LS], rfl⟩)
end CA
end Go.Proofs.Ytmhikoblaejhhaa

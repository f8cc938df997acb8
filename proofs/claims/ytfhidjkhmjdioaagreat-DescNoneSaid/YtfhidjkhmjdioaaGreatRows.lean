/-
  No cell of these rows narrows 'for every input' (looked for: loops, veiled, ifaces, maps, wideKeys, modest, calm, conditions, laid).
  DERIVED. THE GIVEN ROWS OF THIS SEAT. 6 by the template 'for every input the law returns true; each argument reads behind the call as it read before'; 0 by the template 'total and deterministic' (their statements: YtfhidjkhmjdioaaGreatTotals.lean).
  GIVEN WITH THE SEED: the statements are not yours to turn. If you find one false, say at which input.
  Laid BY PROGRAM, IN A SANDBOX (cutbox-rows.mjs): the forced cells as the released guide's own fill.sh prints them over the translation 467947d94e266ac9… (all of the seat's roots in one cut). By AI agents, Wed Nov 11 2026. No macro, syntax, notation, axiom, sorry.
-/
import Derived.Test.YtfhidjkhmjdioaaGreatChecked
import GoSem.Claim
import GoSem.ClaimJoined
import GoSem.ClaimMapViews
import Derived.JoinedTies
import Derived.KernelRfl
namespace Go.Proofs.YtfhidjkhmjdioaaGreat
/- THE CELL 'sum', in the pinned program and in every row, IS THE sha256 OF THE DUMP (.gsa) THAT YtfhidjkhmjdioaaGreatProg.lean LOADS. Nothing in Lean hashes anything: it is a label: what it is worth is what the hold of that sum in a sandbox is worth. -/
noncomputable def Tryz.pinned : Pinned := { name := "ytfhidjkhmjdioaagreat", sum := "467947d94e266ac98f25ed9b39f47d3ed47e5cfe13782dceb5ec07cb040a7279", checked := Tryz.checked }
namespace Rows
def none {H : Type} : Left H := { results := [], args := [] }

/-- 'haywardlaw13.DescDoes': WHATEVER THE INPUT: true; the input reads as it did. -/
def descDoesSpec : ChangeSpec := { name := "descDoes", fn := fun _ => fun
  | [d1, d2, d3] => { results := [.lit (.bool true)], args := [d1, d2, d3] }
  | _ => none }
def descDoesRow : OpenClaim := { program := "ytfhidjkhmjdioaagreat", sum := "467947d94e266ac98f25ed9b39f47d3ed47e5cfe13782dceb5ec07cb040a7279", func := "hayward/haywardlaw13.DescDoes", spec := "descDoes", unfollowed := true, recurses := true, apart := false }
def DescDoesSaid : Prop := descDoesRow.holds Tryz.pinned (OpenSpec.ofChange descDoesSpec)

/-- ITS FALSE NEIGHBOUR: 'it returns false'. Refute it at one input. -/
def descDoesWrong : ChangeSpec := { name := "descDoes", fn := fun _ => fun
  | [d1, d2, d3] => { results := [.lit (.bool false)], args := [d1, d2, d3] }
  | _ => none }
def DescDoesWrongFalsely : Prop := descDoesRow.holds Tryz.pinned (OpenSpec.ofChange descDoesWrong)

/-- 'haywardlaw13.DescCounts': WHATEVER THE INPUT: true; the input reads as it did. -/
def descCountsSpec : ChangeSpec := { name := "descCounts", fn := fun _ => fun
  | [d] => { results := [.lit (.bool true)], args := [d] }
  | _ => none }
def descCountsRow : OpenClaim := { program := "ytfhidjkhmjdioaagreat", sum := "467947d94e266ac98f25ed9b39f47d3ed47e5cfe13782dceb5ec07cb040a7279", func := "hayward/haywardlaw13.DescCounts", spec := "descCounts", unfollowed := true, recurses := true, apart := false }
def DescCountsSaid : Prop := descCountsRow.holds Tryz.pinned (OpenSpec.ofChange descCountsSpec)

/-- ITS FALSE NEIGHBOUR: 'it returns false'. Refute it at one input. -/
def descCountsWrong : ChangeSpec := { name := "descCounts", fn := fun _ => fun
  | [d] => { results := [.lit (.bool false)], args := [d] }
  | _ => none }
def DescCountsWrongFalsely : Prop := descCountsRow.holds Tryz.pinned (OpenSpec.ofChange descCountsWrong)

/-- 'haywardlaw13.DescStays': WHATEVER THE INPUT: true; the input reads as it did. -/
def descStaysSpec : ChangeSpec := { name := "descStays", fn := fun _ => fun
  | [d1, d2] => { results := [.lit (.bool true)], args := [d1, d2] }
  | _ => none }
def descStaysRow : OpenClaim := { program := "ytfhidjkhmjdioaagreat", sum := "467947d94e266ac98f25ed9b39f47d3ed47e5cfe13782dceb5ec07cb040a7279", func := "hayward/haywardlaw13.DescStays", spec := "descStays", unfollowed := true, recurses := true, apart := false }
def DescStaysSaid : Prop := descStaysRow.holds Tryz.pinned (OpenSpec.ofChange descStaysSpec)

/-- ITS FALSE NEIGHBOUR: 'it returns false'. Refute it at one input. -/
def descStaysWrong : ChangeSpec := { name := "descStays", fn := fun _ => fun
  | [d1, d2] => { results := [.lit (.bool false)], args := [d1, d2] }
  | _ => none }
def DescStaysWrongFalsely : Prop := descStaysRow.holds Tryz.pinned (OpenSpec.ofChange descStaysWrong)

/-- 'haywardlaw13.DescIdle': WHATEVER THE INPUT: true; the input reads as it did. -/
def descIdleSpec : ChangeSpec := { name := "descIdle", fn := fun _ => fun
  | [d1, d2] => { results := [.lit (.bool true)], args := [d1, d2] }
  | _ => none }
def descIdleRow : OpenClaim := { program := "ytfhidjkhmjdioaagreat", sum := "467947d94e266ac98f25ed9b39f47d3ed47e5cfe13782dceb5ec07cb040a7279", func := "hayward/haywardlaw13.DescIdle", spec := "descIdle", unfollowed := true, recurses := true, apart := false }
def DescIdleSaid : Prop := descIdleRow.holds Tryz.pinned (OpenSpec.ofChange descIdleSpec)

/-- ITS FALSE NEIGHBOUR: 'it returns false'. Refute it at one input. -/
def descIdleWrong : ChangeSpec := { name := "descIdle", fn := fun _ => fun
  | [d1, d2] => { results := [.lit (.bool false)], args := [d1, d2] }
  | _ => none }
def DescIdleWrongFalsely : Prop := descIdleRow.holds Tryz.pinned (OpenSpec.ofChange descIdleWrong)

/-- 'haywardlaw13.DescNone': WHATEVER THE INPUT: true; the input reads as it did. -/
def descNoneSpec : ChangeSpec := { name := "descNone", fn := fun _ => fun
  | [d1, d2, d3, d4] => { results := [.lit (.bool true)], args := [d1, d2, d3, d4] }
  | _ => none }
def descNoneRow : OpenClaim := { program := "ytfhidjkhmjdioaagreat", sum := "467947d94e266ac98f25ed9b39f47d3ed47e5cfe13782dceb5ec07cb040a7279", func := "hayward/haywardlaw13.DescNone", spec := "descNone", unfollowed := true, recurses := true, apart := false }
def DescNoneSaid : Prop := descNoneRow.holds Tryz.pinned (OpenSpec.ofChange descNoneSpec)

/-- ITS FALSE NEIGHBOUR: 'it returns false'. Refute it at one input. -/
def descNoneWrong : ChangeSpec := { name := "descNone", fn := fun _ => fun
  | [d1, d2, d3, d4] => { results := [.lit (.bool false)], args := [d1, d2, d3, d4] }
  | _ => none }
def DescNoneWrongFalsely : Prop := descNoneRow.holds Tryz.pinned (OpenSpec.ofChange descNoneWrong)

/-- 'haywardlaw13.DescShares': WHATEVER THE INPUT: true; the input reads as it did. -/
def descSharesSpec : ChangeSpec := { name := "descShares", fn := fun _ => fun
  | [d1, d2, d3] => { results := [.lit (.bool true)], args := [d1, d2, d3] }
  | _ => none }
def descSharesRow : OpenClaim := { program := "ytfhidjkhmjdioaagreat", sum := "467947d94e266ac98f25ed9b39f47d3ed47e5cfe13782dceb5ec07cb040a7279", func := "hayward/haywardlaw13.DescShares", spec := "descShares", unfollowed := true, recurses := true, apart := false }
def DescSharesSaid : Prop := descSharesRow.holds Tryz.pinned (OpenSpec.ofChange descSharesSpec)

/-- ITS FALSE NEIGHBOUR: 'it returns false'. Refute it at one input. -/
def descSharesWrong : ChangeSpec := { name := "descShares", fn := fun _ => fun
  | [d1, d2, d3] => { results := [.lit (.bool false)], args := [d1, d2, d3] }
  | _ => none }
def DescSharesWrongFalsely : Prop := descSharesRow.holds Tryz.pinned (OpenSpec.ofChange descSharesWrong)

/- THE SECOND FORM. 'bulk': how many values and letters a reading holds, each counted each time it is reached (what is shared counts as often as it is met; a slice's spare places count too). A statement '..UptoSaid' is the law's where the arguments, and the package variables that the reading takes, are together of bulk at most 1048576: NARROWER than '..Said'. Prove '..Said' where nothing that the law and all that it calls make is longer than what came in: it says more and counts as full. Else prove '..UptoSaid'. A law counts once. -/
mutual
def uptoBulk {H : Type} : DataW H → Nat
  | .lit (.string bytes) => bytes.length + 1
  | .lit _ => 1
  | .nil => 1
  | .ptr d => uptoBulk d + 1
  | .slice elems spare => uptoBulkAll elems + uptoBulkAll spare + 1
  | .agg parts => uptoBulkAll parts + 1
  | .iface _ d => uptoBulk d + 1
  | .map entries => uptoBulkEntries entries + 1
  | .held _ => 1
def uptoBulkAll {H : Type} : List (DataW H) → Nat
  | [] => 0
  | d :: r => uptoBulk d + uptoBulkAll r
def uptoBulkEntries {H : Type} : List (Lit × DataW H) → Nat
  | [] => 0
  | x :: r => uptoBulkEntry x + uptoBulkEntries r
def uptoBulkEntry {H : Type} : Lit × DataW H → Nat
  | (.string bytes, d) => bytes.length + uptoBulk d + 1
  | (_, d) => uptoBulk d + 1
 end
def uptoSmall : (H : Type) → List (DataW H) → Bool := fun _ ds => decide (uptoBulkAll ds ≤ 1048576)
def OpenSpec.upto (s : _root_.Go.ChangeSpec) : _root_.Go.OpenSpec := { _root_.Go.OpenSpec.ofChange s with cond := some uptoSmall }

/-- 'haywardlaw13.DescDoes', WHERE WHAT IT READS IS OF BULK AT MOST 1048576: true; the input reads as it did. -/
def descDoesUptoRow : OpenClaim := { program := "ytfhidjkhmjdioaagreat", sum := "467947d94e266ac98f25ed9b39f47d3ed47e5cfe13782dceb5ec07cb040a7279", func := "hayward/haywardlaw13.DescDoes", spec := "descDoes", unfollowed := true, recurses := true, apart := false, narrowed := true }
def DescDoesUptoSaid : Prop := descDoesUptoRow.holds Tryz.pinned (OpenSpec.upto descDoesSpec)

/-- 'haywardlaw13.DescCounts', WHERE WHAT IT READS IS OF BULK AT MOST 1048576: true; the input reads as it did. -/
def descCountsUptoRow : OpenClaim := { program := "ytfhidjkhmjdioaagreat", sum := "467947d94e266ac98f25ed9b39f47d3ed47e5cfe13782dceb5ec07cb040a7279", func := "hayward/haywardlaw13.DescCounts", spec := "descCounts", unfollowed := true, recurses := true, apart := false, narrowed := true }
def DescCountsUptoSaid : Prop := descCountsUptoRow.holds Tryz.pinned (OpenSpec.upto descCountsSpec)

/-- 'haywardlaw13.DescStays', WHERE WHAT IT READS IS OF BULK AT MOST 1048576: true; the input reads as it did. -/
def descStaysUptoRow : OpenClaim := { program := "ytfhidjkhmjdioaagreat", sum := "467947d94e266ac98f25ed9b39f47d3ed47e5cfe13782dceb5ec07cb040a7279", func := "hayward/haywardlaw13.DescStays", spec := "descStays", unfollowed := true, recurses := true, apart := false, narrowed := true }
def DescStaysUptoSaid : Prop := descStaysUptoRow.holds Tryz.pinned (OpenSpec.upto descStaysSpec)

/-- 'haywardlaw13.DescIdle', WHERE WHAT IT READS IS OF BULK AT MOST 1048576: true; the input reads as it did. -/
def descIdleUptoRow : OpenClaim := { program := "ytfhidjkhmjdioaagreat", sum := "467947d94e266ac98f25ed9b39f47d3ed47e5cfe13782dceb5ec07cb040a7279", func := "hayward/haywardlaw13.DescIdle", spec := "descIdle", unfollowed := true, recurses := true, apart := false, narrowed := true }
def DescIdleUptoSaid : Prop := descIdleUptoRow.holds Tryz.pinned (OpenSpec.upto descIdleSpec)

/-- 'haywardlaw13.DescNone', WHERE WHAT IT READS IS OF BULK AT MOST 1048576: true; the input reads as it did. -/
def descNoneUptoRow : OpenClaim := { program := "ytfhidjkhmjdioaagreat", sum := "467947d94e266ac98f25ed9b39f47d3ed47e5cfe13782dceb5ec07cb040a7279", func := "hayward/haywardlaw13.DescNone", spec := "descNone", unfollowed := true, recurses := true, apart := false, narrowed := true }
def DescNoneUptoSaid : Prop := descNoneUptoRow.holds Tryz.pinned (OpenSpec.upto descNoneSpec)

/-- 'haywardlaw13.DescShares', WHERE WHAT IT READS IS OF BULK AT MOST 1048576: true; the input reads as it did. -/
def descSharesUptoRow : OpenClaim := { program := "ytfhidjkhmjdioaagreat", sum := "467947d94e266ac98f25ed9b39f47d3ed47e5cfe13782dceb5ec07cb040a7279", func := "hayward/haywardlaw13.DescShares", spec := "descShares", unfollowed := true, recurses := true, apart := false, narrowed := true }
def DescSharesUptoSaid : Prop := descSharesUptoRow.holds Tryz.pinned (OpenSpec.upto descSharesSpec)

end Rows
end Go.Proofs.YtfhidjkhmjdioaaGreat

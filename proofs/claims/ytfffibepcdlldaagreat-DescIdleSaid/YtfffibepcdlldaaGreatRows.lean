/-
  No cell of these rows narrows 'for every input' (looked for: loops, veiled, ifaces, maps, wideKeys, modest, calm, conditions, laid).
  DERIVED. THE GIVEN ROWS OF THIS SEAT. 3 by the template 'for every input the law returns true; each argument reads behind the call as it read before'; 0 by the template 'total and deterministic' (their statements: YtfffibepcdlldaaGreatTotals.lean).
  GIVEN WITH THE SEED: the statements are not yours to turn. If you find one false, say at which input.
  Laid BY PROGRAM, IN A SANDBOX (cutbox-rows.mjs): the forced cells as the released guide's own fill.sh prints them over the translation ba2e5d905d92d930… (all of the seat's roots in one cut). By AI agents, Wed Nov 11 2026. No macro, syntax, notation, axiom, sorry.
-/
import Derived.Test.YtfffibepcdlldaaGreatChecked
import GoSem.Claim
import GoSem.ClaimJoined
import GoSem.ClaimMapViews
import Derived.JoinedTies
import Derived.KernelRfl
namespace Go.Proofs.YtfffibepcdlldaaGreat
/- THE CELL 'sum', in the pinned program and in every row, IS THE sha256 OF THE DUMP (.gsa) THAT YtfffibepcdlldaaGreatProg.lean LOADS. Nothing in Lean hashes anything: it is a label: what it is worth is what the hold of that sum in a sandbox is worth. -/
noncomputable def Tryz.pinned : Pinned := { name := "ytfffibepcdlldaagreat", sum := "ba2e5d905d92d930c52a2ddaff006fcaadf95fa3bb86ad1fe4bbe534f0fa3718", checked := Tryz.checked }
namespace Rows
def none {H : Type} : Left H := { results := [], args := [] }

/-- 'haywardlaw13.DescDoes': WHATEVER THE INPUT: true; the input reads as it did. -/
def descDoesSpec : ChangeSpec := { name := "descDoes", fn := fun _ => fun
  | [d1, d2, d3] => { results := [.lit (.bool true)], args := [d1, d2, d3] }
  | _ => none }
def descDoesRow : OpenClaim := { program := "ytfffibepcdlldaagreat", sum := "ba2e5d905d92d930c52a2ddaff006fcaadf95fa3bb86ad1fe4bbe534f0fa3718", func := "hayward/haywardlaw13.DescDoes", spec := "descDoes", unfollowed := true, recurses := true, apart := false }
def DescDoesSaid : Prop := descDoesRow.holds Tryz.pinned (OpenSpec.ofChange descDoesSpec)

/-- ITS FALSE NEIGHBOUR: 'it returns false'. Refute it at one input. -/
def descDoesWrong : ChangeSpec := { name := "descDoes", fn := fun _ => fun
  | [d1, d2, d3] => { results := [.lit (.bool false)], args := [d1, d2, d3] }
  | _ => none }
def DescDoesWrongFalsely : Prop := descDoesRow.holds Tryz.pinned (OpenSpec.ofChange descDoesWrong)

/-- 'haywardlaw13.DescCounts': WHATEVER THE INPUT: true; the input reads as it did. -/
def descCountsSpec : ChangeSpec := { name := "descCounts", fn := fun _ => fun
  | [d] => { results := [.lit (.bool true)], args := [d] }
  | _ => none }
def descCountsRow : OpenClaim := { program := "ytfffibepcdlldaagreat", sum := "ba2e5d905d92d930c52a2ddaff006fcaadf95fa3bb86ad1fe4bbe534f0fa3718", func := "hayward/haywardlaw13.DescCounts", spec := "descCounts", unfollowed := true, recurses := true, apart := false }
def DescCountsSaid : Prop := descCountsRow.holds Tryz.pinned (OpenSpec.ofChange descCountsSpec)

/-- ITS FALSE NEIGHBOUR: 'it returns false'. Refute it at one input. -/
def descCountsWrong : ChangeSpec := { name := "descCounts", fn := fun _ => fun
  | [d] => { results := [.lit (.bool false)], args := [d] }
  | _ => none }
def DescCountsWrongFalsely : Prop := descCountsRow.holds Tryz.pinned (OpenSpec.ofChange descCountsWrong)

/-- 'haywardlaw13.DescIdle': WHATEVER THE INPUT: true; the input reads as it did. -/
def descIdleSpec : ChangeSpec := { name := "descIdle", fn := fun _ => fun
  | [d1, d2] => { results := [.lit (.bool true)], args := [d1, d2] }
  | _ => none }
def descIdleRow : OpenClaim := { program := "ytfffibepcdlldaagreat", sum := "ba2e5d905d92d930c52a2ddaff006fcaadf95fa3bb86ad1fe4bbe534f0fa3718", func := "hayward/haywardlaw13.DescIdle", spec := "descIdle", unfollowed := true, recurses := true, apart := false }
def DescIdleSaid : Prop := descIdleRow.holds Tryz.pinned (OpenSpec.ofChange descIdleSpec)

/-- ITS FALSE NEIGHBOUR: 'it returns false'. Refute it at one input. -/
def descIdleWrong : ChangeSpec := { name := "descIdle", fn := fun _ => fun
  | [d1, d2] => { results := [.lit (.bool false)], args := [d1, d2] }
  | _ => none }
def DescIdleWrongFalsely : Prop := descIdleRow.holds Tryz.pinned (OpenSpec.ofChange descIdleWrong)

/- THE SECOND FORM. 'bulk': how many values and letters a reading holds, each counted each time it is reached (what is shared counts as often as it is met; a slice's spare places count too). A statement '..UptoSaid' is the law's where the arguments, and the package variables that the reading takes, are together of bulk at most 1048576: NARROWER than '..Said'. Prove '..Said' where nothing that the law and all that it calls make is longer than what came in: it says more and counts as full. Else prove '..UptoSaid'. A law counts once. -/
mutual
def uptoBulk {H : Type} : DataW H → Nat
  | .lit (.string bytes) => bytes.length + 1
  | .lit _ => 1
  | .nil => 1
  | .ptr d => uptoBulk d + 1
  | .slice elems spare => uptoBulkAll elems + uptoBulkAll spare + 1
  | .agg parts => uptoBulkAll parts + 1
  | .iface _ d => uptoBulk d + 1
  | .map entries => uptoBulkEntries entries + 1
  | .held _ => 1
def uptoBulkAll {H : Type} : List (DataW H) → Nat
  | [] => 0
  | d :: r => uptoBulk d + uptoBulkAll r
def uptoBulkEntries {H : Type} : List (Lit × DataW H) → Nat
  | [] => 0
  | x :: r => uptoBulkEntry x + uptoBulkEntries r
def uptoBulkEntry {H : Type} : Lit × DataW H → Nat
  | (.string bytes, d) => bytes.length + uptoBulk d + 1
  | (_, d) => uptoBulk d + 1
 end
def uptoSmall : (H : Type) → List (DataW H) → Bool := fun _ ds => decide (uptoBulkAll ds ≤ 1048576)
def OpenSpec.upto (s : _root_.Go.ChangeSpec) : _root_.Go.OpenSpec := { _root_.Go.OpenSpec.ofChange s with cond := some uptoSmall }

/-- 'haywardlaw13.DescDoes', WHERE WHAT IT READS IS OF BULK AT MOST 1048576: true; the input reads as it did. -/
def descDoesUptoRow : OpenClaim := { program := "ytfffibepcdlldaagreat", sum := "ba2e5d905d92d930c52a2ddaff006fcaadf95fa3bb86ad1fe4bbe534f0fa3718", func := "hayward/haywardlaw13.DescDoes", spec := "descDoes", unfollowed := true, recurses := true, apart := false, narrowed := true }
def DescDoesUptoSaid : Prop := descDoesUptoRow.holds Tryz.pinned (OpenSpec.upto descDoesSpec)

/-- 'haywardlaw13.DescCounts', WHERE WHAT IT READS IS OF BULK AT MOST 1048576: true; the input reads as it did. -/
def descCountsUptoRow : OpenClaim := { program := "ytfffibepcdlldaagreat", sum := "ba2e5d905d92d930c52a2ddaff006fcaadf95fa3bb86ad1fe4bbe534f0fa3718", func := "hayward/haywardlaw13.DescCounts", spec := "descCounts", unfollowed := true, recurses := true, apart := false, narrowed := true }
def DescCountsUptoSaid : Prop := descCountsUptoRow.holds Tryz.pinned (OpenSpec.upto descCountsSpec)

/-- 'haywardlaw13.DescIdle', WHERE WHAT IT READS IS OF BULK AT MOST 1048576: true; the input reads as it did. -/
def descIdleUptoRow : OpenClaim := { program := "ytfffibepcdlldaagreat", sum := "ba2e5d905d92d930c52a2ddaff006fcaadf95fa3bb86ad1fe4bbe534f0fa3718", func := "hayward/haywardlaw13.DescIdle", spec := "descIdle", unfollowed := true, recurses := true, apart := false, narrowed := true }
def DescIdleUptoSaid : Prop := descIdleUptoRow.holds Tryz.pinned (OpenSpec.upto descIdleSpec)

end Rows
end Go.Proofs.YtfffibepcdlldaaGreat

/-
  No cell of these rows narrows 'for every input' (looked for: loops, veiled, ifaces, maps, wideKeys, modest, calm, conditions, laid).
  DERIVED. THE GIVEN ROWS OF THIS SEAT. 6 by the template 'for every input the law returns true; each argument reads behind the call as it read before'; 0 by the template 'total and deterministic' (their statements: YtondgjgfmngadaaTotals.lean).
  GIVEN WITH THE SEED: the statements are not yours to turn. If you find one false, say at which input.
  Laid BY PROGRAM, IN A SANDBOX (cutbox-rows.mjs): the forced cells as the released guide's own fill.sh prints them over the translation cc15cab9b8c6c36c… (all of the seat's roots in one cut). By AI agents, Wed Nov 11 2026. No macro, syntax, notation, axiom, sorry.
-/
import Derived.Test.YtondgjgfmngadaaChecked
import GoSem.Claim
import GoSem.ClaimJoined
import GoSem.ClaimMapViews
import Derived.JoinedTies
import Derived.KernelRfl
namespace Go.Proofs.Ytondgjgfmngadaa
/- THE CELL 'sum', in the pinned program and in every row, IS THE sha256 OF THE DUMP (.gsa) THAT YtondgjgfmngadaaProg.lean LOADS. Nothing in Lean hashes anything: it is a label: what it is worth is what the hold of that sum in a sandbox is worth. -/
noncomputable def Try.pinned : Pinned := { name := "ytondgjgfmngadaa", sum := "cc15cab9b8c6c36ceb2be2fc7e813cc65335e341baa837b5c2ed51ba6af59e75", checked := Try.checked }
namespace Rows
def none {H : Type} : Left H := { results := [], args := [] }

/-- 'haywardlaw15.SchedDoes': WHATEVER THE INPUT: true; the input reads as it did. -/
def schedDoesSpec : ChangeSpec := { name := "schedDoes", fn := fun _ => fun
  | [d] => { results := [.lit (.bool true)], args := [d] }
  | _ => none }
def schedDoesRow : OpenClaim := { program := "ytondgjgfmngadaa", sum := "cc15cab9b8c6c36ceb2be2fc7e813cc65335e341baa837b5c2ed51ba6af59e75", func := "hayward/haywardlaw15.SchedDoes", spec := "schedDoes", inPlace := ["slices.overlaps[hayward/sched.row[hayward/sched.process]]", "math.Float64frombits", "math.Float64bits"], unfollowed := true, recurses := true, apart := false }
def SchedDoesSaid : Prop := schedDoesRow.holds Try.pinned (OpenSpec.ofChange schedDoesSpec)

/-- ITS FALSE NEIGHBOUR: 'it returns false'. Refute it at one input. -/
def schedDoesWrong : ChangeSpec := { name := "schedDoes", fn := fun _ => fun
  | [d] => { results := [.lit (.bool false)], args := [d] }
  | _ => none }
def SchedDoesWrongFalsely : Prop := schedDoesRow.holds Try.pinned (OpenSpec.ofChange schedDoesWrong)

/-- 'haywardlaw15.SchedTurns': WHATEVER THE INPUT: true; the input reads as it did. -/
def schedTurnsSpec : ChangeSpec := { name := "schedTurns", fn := fun _ => fun
  | [d1, d2] => { results := [.lit (.bool true)], args := [d1, d2] }
  | _ => none }
def schedTurnsRow : OpenClaim := { program := "ytondgjgfmngadaa", sum := "cc15cab9b8c6c36ceb2be2fc7e813cc65335e341baa837b5c2ed51ba6af59e75", func := "hayward/haywardlaw15.SchedTurns", spec := "schedTurns", inPlace := ["slices.overlaps[hayward/sched.row[hayward/sched.process]]", "math.Float64frombits", "math.Float64bits"], unfollowed := true, recurses := true, apart := false }
def SchedTurnsSaid : Prop := schedTurnsRow.holds Try.pinned (OpenSpec.ofChange schedTurnsSpec)

/-- ITS FALSE NEIGHBOUR: 'it returns false'. Refute it at one input. -/
def schedTurnsWrong : ChangeSpec := { name := "schedTurns", fn := fun _ => fun
  | [d1, d2] => { results := [.lit (.bool false)], args := [d1, d2] }
  | _ => none }
def SchedTurnsWrongFalsely : Prop := schedTurnsRow.holds Try.pinned (OpenSpec.ofChange schedTurnsWrong)

/-- 'haywardlaw15.SchedLoads': WHATEVER THE INPUT: true; the input reads as it did. -/
def schedLoadsSpec : ChangeSpec := { name := "schedLoads", fn := fun _ => fun
  | [d] => { results := [.lit (.bool true)], args := [d] }
  | _ => none }
def schedLoadsRow : OpenClaim := { program := "ytondgjgfmngadaa", sum := "cc15cab9b8c6c36ceb2be2fc7e813cc65335e341baa837b5c2ed51ba6af59e75", func := "hayward/haywardlaw15.SchedLoads", spec := "schedLoads", inPlace := ["slices.overlaps[hayward/sched.row[hayward/sched.process]]", "math.Float64frombits", "math.Float64bits"], unfollowed := true, recurses := true, apart := false }
def SchedLoadsSaid : Prop := schedLoadsRow.holds Try.pinned (OpenSpec.ofChange schedLoadsSpec)

/-- ITS FALSE NEIGHBOUR: 'it returns false'. Refute it at one input. -/
def schedLoadsWrong : ChangeSpec := { name := "schedLoads", fn := fun _ => fun
  | [d] => { results := [.lit (.bool false)], args := [d] }
  | _ => none }
def SchedLoadsWrongFalsely : Prop := schedLoadsRow.holds Try.pinned (OpenSpec.ofChange schedLoadsWrong)

/-- 'haywardlaw15.SchedReady': WHATEVER THE INPUT: true; the input reads as it did. -/
def schedReadySpec : ChangeSpec := { name := "schedReady", fn := fun _ => fun
  | [d1, d2] => { results := [.lit (.bool true)], args := [d1, d2] }
  | _ => none }
def schedReadyRow : OpenClaim := { program := "ytondgjgfmngadaa", sum := "cc15cab9b8c6c36ceb2be2fc7e813cc65335e341baa837b5c2ed51ba6af59e75", func := "hayward/haywardlaw15.SchedReady", spec := "schedReady", inPlace := ["slices.overlaps[hayward/sched.row[hayward/sched.process]]", "math.Float64frombits", "math.Float64bits"], unfollowed := true, recurses := true, apart := false }
def SchedReadySaid : Prop := schedReadyRow.holds Try.pinned (OpenSpec.ofChange schedReadySpec)

/-- ITS FALSE NEIGHBOUR: 'it returns false'. Refute it at one input. -/
def schedReadyWrong : ChangeSpec := { name := "schedReady", fn := fun _ => fun
  | [d1, d2] => { results := [.lit (.bool false)], args := [d1, d2] }
  | _ => none }
def SchedReadyWrongFalsely : Prop := schedReadyRow.holds Try.pinned (OpenSpec.ofChange schedReadyWrong)

/-- 'haywardlaw15.SchedNone': WHATEVER THE INPUT: true; the input reads as it did. -/
def schedNoneSpec : ChangeSpec := { name := "schedNone", fn := fun _ => fun
  | [d1, d2, d3] => { results := [.lit (.bool true)], args := [d1, d2, d3] }
  | _ => none }
def schedNoneRow : OpenClaim := { program := "ytondgjgfmngadaa", sum := "cc15cab9b8c6c36ceb2be2fc7e813cc65335e341baa837b5c2ed51ba6af59e75", func := "hayward/haywardlaw15.SchedNone", spec := "schedNone", inPlace := ["slices.overlaps[hayward/sched.row[hayward/sched.process]]", "math.Float64frombits"], unfollowed := true, recurses := true, apart := false }
def SchedNoneSaid : Prop := schedNoneRow.holds Try.pinned (OpenSpec.ofChange schedNoneSpec)

/-- ITS FALSE NEIGHBOUR: 'it returns false'. Refute it at one input. -/
def schedNoneWrong : ChangeSpec := { name := "schedNone", fn := fun _ => fun
  | [d1, d2, d3] => { results := [.lit (.bool false)], args := [d1, d2, d3] }
  | _ => none }
def SchedNoneWrongFalsely : Prop := schedNoneRow.holds Try.pinned (OpenSpec.ofChange schedNoneWrong)

/-- 'haywardlaw15.SchedLots': WHATEVER THE INPUT: true; the input reads as it did. -/
def schedLotsSpec : ChangeSpec := { name := "schedLots", fn := fun _ => fun
  | [d1, d2] => { results := [.lit (.bool true)], args := [d1, d2] }
  | _ => none }
def schedLotsRow : OpenClaim := { program := "ytondgjgfmngadaa", sum := "cc15cab9b8c6c36ceb2be2fc7e813cc65335e341baa837b5c2ed51ba6af59e75", func := "hayward/haywardlaw15.SchedLots", spec := "schedLots", inPlace := ["slices.overlaps[hayward/sched.row[hayward/sched.process]]", "math.Float64frombits", "math.Float64bits"], unfollowed := true, recurses := true, apart := false }
def SchedLotsSaid : Prop := schedLotsRow.holds Try.pinned (OpenSpec.ofChange schedLotsSpec)

/-- ITS FALSE NEIGHBOUR: 'it returns false'. Refute it at one input. -/
def schedLotsWrong : ChangeSpec := { name := "schedLots", fn := fun _ => fun
  | [d1, d2] => { results := [.lit (.bool false)], args := [d1, d2] }
  | _ => none }
def SchedLotsWrongFalsely : Prop := schedLotsRow.holds Try.pinned (OpenSpec.ofChange schedLotsWrong)

/- THE SECOND FORM. 'bulk': how many values and letters a reading holds, each counted each time it is reached (what is shared counts as often as it is met; a slice's spare places count too). A statement '..UptoSaid' is the law's where the arguments, and the package variables that the reading takes, are together of bulk at most 1048576: NARROWER than '..Said'. Prove '..Said' where nothing that the law and all that it calls make is longer than what came in: it says more and counts as full. Else prove '..UptoSaid'. A law counts once. -/
mutual
def uptoBulk {H : Type} : DataW H → Nat
  | .lit (.string bytes) => bytes.length + 1
  | .lit _ => 1
  | .nil => 1
  | .ptr d => uptoBulk d + 1
  | .slice elems spare => uptoBulkAll elems + uptoBulkAll spare + 1
  | .agg parts => uptoBulkAll parts + 1
  | .iface _ d => uptoBulk d + 1
  | .map entries => uptoBulkEntries entries + 1
  | .held _ => 1
def uptoBulkAll {H : Type} : List (DataW H) → Nat
  | [] => 0
  | d :: r => uptoBulk d + uptoBulkAll r
def uptoBulkEntries {H : Type} : List (Lit × DataW H) → Nat
  | [] => 0
  | x :: r => uptoBulkEntry x + uptoBulkEntries r
def uptoBulkEntry {H : Type} : Lit × DataW H → Nat
  | (.string bytes, d) => bytes.length + uptoBulk d + 1
  | (_, d) => uptoBulk d + 1
 end
def uptoSmall : (H : Type) → List (DataW H) → Bool := fun _ ds => decide (uptoBulkAll ds ≤ 1048576)
def OpenSpec.upto (s : _root_.Go.ChangeSpec) : _root_.Go.OpenSpec := { _root_.Go.OpenSpec.ofChange s with cond := some uptoSmall }

/-- 'haywardlaw15.SchedDoes', WHERE WHAT IT READS IS OF BULK AT MOST 1048576: true; the input reads as it did. -/
def schedDoesUptoRow : OpenClaim := { program := "ytondgjgfmngadaa", sum := "cc15cab9b8c6c36ceb2be2fc7e813cc65335e341baa837b5c2ed51ba6af59e75", func := "hayward/haywardlaw15.SchedDoes", spec := "schedDoes", inPlace := ["slices.overlaps[hayward/sched.row[hayward/sched.process]]", "math.Float64frombits", "math.Float64bits"], unfollowed := true, recurses := true, apart := false, narrowed := true }
def SchedDoesUptoSaid : Prop := schedDoesUptoRow.holds Try.pinned (OpenSpec.upto schedDoesSpec)

/-- 'haywardlaw15.SchedTurns', WHERE WHAT IT READS IS OF BULK AT MOST 1048576: true; the input reads as it did. -/
def schedTurnsUptoRow : OpenClaim := { program := "ytondgjgfmngadaa", sum := "cc15cab9b8c6c36ceb2be2fc7e813cc65335e341baa837b5c2ed51ba6af59e75", func := "hayward/haywardlaw15.SchedTurns", spec := "schedTurns", inPlace := ["slices.overlaps[hayward/sched.row[hayward/sched.process]]", "math.Float64frombits", "math.Float64bits"], unfollowed := true, recurses := true, apart := false, narrowed := true }
def SchedTurnsUptoSaid : Prop := schedTurnsUptoRow.holds Try.pinned (OpenSpec.upto schedTurnsSpec)

/-- 'haywardlaw15.SchedLoads', WHERE WHAT IT READS IS OF BULK AT MOST 1048576: true; the input reads as it did. -/
def schedLoadsUptoRow : OpenClaim := { program := "ytondgjgfmngadaa", sum := "cc15cab9b8c6c36ceb2be2fc7e813cc65335e341baa837b5c2ed51ba6af59e75", func := "hayward/haywardlaw15.SchedLoads", spec := "schedLoads", inPlace := ["slices.overlaps[hayward/sched.row[hayward/sched.process]]", "math.Float64frombits", "math.Float64bits"], unfollowed := true, recurses := true, apart := false, narrowed := true }
def SchedLoadsUptoSaid : Prop := schedLoadsUptoRow.holds Try.pinned (OpenSpec.upto schedLoadsSpec)

/-- 'haywardlaw15.SchedReady', WHERE WHAT IT READS IS OF BULK AT MOST 1048576: true; the input reads as it did. -/
def schedReadyUptoRow : OpenClaim := { program := "ytondgjgfmngadaa", sum := "cc15cab9b8c6c36ceb2be2fc7e813cc65335e341baa837b5c2ed51ba6af59e75", func := "hayward/haywardlaw15.SchedReady", spec := "schedReady", inPlace := ["slices.overlaps[hayward/sched.row[hayward/sched.process]]", "math.Float64frombits", "math.Float64bits"], unfollowed := true, recurses := true, apart := false, narrowed := true }
def SchedReadyUptoSaid : Prop := schedReadyUptoRow.holds Try.pinned (OpenSpec.upto schedReadySpec)

/-- 'haywardlaw15.SchedNone', WHERE WHAT IT READS IS OF BULK AT MOST 1048576: true; the input reads as it did. -/
def schedNoneUptoRow : OpenClaim := { program := "ytondgjgfmngadaa", sum := "cc15cab9b8c6c36ceb2be2fc7e813cc65335e341baa837b5c2ed51ba6af59e75", func := "hayward/haywardlaw15.SchedNone", spec := "schedNone", inPlace := ["slices.overlaps[hayward/sched.row[hayward/sched.process]]", "math.Float64frombits"], unfollowed := true, recurses := true, apart := false, narrowed := true }
def SchedNoneUptoSaid : Prop := schedNoneUptoRow.holds Try.pinned (OpenSpec.upto schedNoneSpec)

/-- 'haywardlaw15.SchedLots', WHERE WHAT IT READS IS OF BULK AT MOST 1048576: true; the input reads as it did. -/
def schedLotsUptoRow : OpenClaim := { program := "ytondgjgfmngadaa", sum := "cc15cab9b8c6c36ceb2be2fc7e813cc65335e341baa837b5c2ed51ba6af59e75", func := "hayward/haywardlaw15.SchedLots", spec := "schedLots", inPlace := ["slices.overlaps[hayward/sched.row[hayward/sched.process]]", "math.Float64frombits", "math.Float64bits"], unfollowed := true, recurses := true, apart := false, narrowed := true }
def SchedLotsUptoSaid : Prop := schedLotsUptoRow.holds Try.pinned (OpenSpec.upto schedLotsSpec)

end Rows
end Go.Proofs.Ytondgjgfmngadaa

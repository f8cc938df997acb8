/-
  No cell of these rows narrows 'for every input' (looked for: loops, veiled, ifaces, maps, wideKeys, modest, calm, conditions, laid).
  DERIVED. THE GIVEN ROWS OF THIS SEAT. 7 by the template 'for every input the law returns true; each argument reads behind the call as it read before'; 0 by the template 'total and deterministic' (their statements: YtahcpimpmedbiaaTotals.lean).
  GIVEN WITH THE SEED: the statements are not yours to turn. If you find one false, say at which input.
  Laid BY PROGRAM, IN A SANDBOX (cutbox-rows.mjs): the forced cells as the released guide's own fill.sh prints them over the translation 80b80a7247e93074… (all of the seat's roots in one cut). By AI agents, Wed Nov 11 2026. No macro, syntax, notation, axiom, sorry.
-/
import Derived.Test.YtahcpimpmedbiaaChecked
import GoSem.Claim
import GoSem.ClaimJoined
import GoSem.ClaimMapViews
import Derived.JoinedTies
import Derived.KernelRfl
namespace Go.Proofs.Ytahcpimpmedbiaa
/- THE CELL 'sum', in the pinned program and in every row, IS THE sha256 OF THE DUMP (.gsa) THAT YtahcpimpmedbiaaProg.lean LOADS. Nothing in Lean hashes anything: it is a label: what it is worth is what the hold of that sum in a sandbox is worth. -/
noncomputable def Try.pinned : Pinned := { name := "ytahcpimpmedbiaa", sum := "80b80a7247e9307425b5cae7a8a52765a21d05f49f9bcca44c614ed1c92302f0", checked := Try.checked }
namespace Rows
def none {H : Type} : Left H := { results := [], args := [] }

/-- 'haywardlaw14.ProcDoes': WHATEVER THE INPUT: true; the input reads as it did. -/
def procDoesSpec : ChangeSpec := { name := "procDoes", fn := fun _ => fun
  | [d1, d2] => { results := [.lit (.bool true)], args := [d1, d2] }
  | _ => none }
def procDoesRow : OpenClaim := { program := "ytahcpimpmedbiaa", sum := "80b80a7247e9307425b5cae7a8a52765a21d05f49f9bcca44c614ed1c92302f0", func := "hayward/haywardlaw14.ProcDoes", spec := "procDoes", unfollowed := true, recurses := true, apart := false }
def ProcDoesSaid : Prop := procDoesRow.holds Try.pinned (OpenSpec.ofChange procDoesSpec)

/-- ITS FALSE NEIGHBOUR: 'it returns false'. Refute it at one input. -/
def procDoesWrong : ChangeSpec := { name := "procDoes", fn := fun _ => fun
  | [d1, d2] => { results := [.lit (.bool false)], args := [d1, d2] }
  | _ => none }
def ProcDoesWrongFalsely : Prop := procDoesRow.holds Try.pinned (OpenSpec.ofChange procDoesWrong)

/-- 'haywardlaw14.ProcParents': WHATEVER THE INPUT: true; the input reads as it did. -/
def procParentsSpec : ChangeSpec := { name := "procParents", fn := fun _ => fun
  | [d] => { results := [.lit (.bool true)], args := [d] }
  | _ => none }
def procParentsRow : OpenClaim := { program := "ytahcpimpmedbiaa", sum := "80b80a7247e9307425b5cae7a8a52765a21d05f49f9bcca44c614ed1c92302f0", func := "hayward/haywardlaw14.ProcParents", spec := "procParents", unfollowed := true, recurses := true, apart := false }
def ProcParentsSaid : Prop := procParentsRow.holds Try.pinned (OpenSpec.ofChange procParentsSpec)

/-- ITS FALSE NEIGHBOUR: 'it returns false'. Refute it at one input. -/
def procParentsWrong : ChangeSpec := { name := "procParents", fn := fun _ => fun
  | [d] => { results := [.lit (.bool false)], args := [d] }
  | _ => none }
def ProcParentsWrongFalsely : Prop := procParentsRow.holds Try.pinned (OpenSpec.ofChange procParentsWrong)

/-- 'haywardlaw14.ProcOnce': WHATEVER THE INPUT: true; the input reads as it did. -/
def procOnceSpec : ChangeSpec := { name := "procOnce", fn := fun _ => fun
  | [d1, d2, d3] => { results := [.lit (.bool true)], args := [d1, d2, d3] }
  | _ => none }
def procOnceRow : OpenClaim := { program := "ytahcpimpmedbiaa", sum := "80b80a7247e9307425b5cae7a8a52765a21d05f49f9bcca44c614ed1c92302f0", func := "hayward/haywardlaw14.ProcOnce", spec := "procOnce", unfollowed := true, recurses := true, apart := false }
def ProcOnceSaid : Prop := procOnceRow.holds Try.pinned (OpenSpec.ofChange procOnceSpec)

/-- ITS FALSE NEIGHBOUR: 'it returns false'. Refute it at one input. -/
def procOnceWrong : ChangeSpec := { name := "procOnce", fn := fun _ => fun
  | [d1, d2, d3] => { results := [.lit (.bool false)], args := [d1, d2, d3] }
  | _ => none }
def ProcOnceWrongFalsely : Prop := procOnceRow.holds Try.pinned (OpenSpec.ofChange procOnceWrong)

/-- 'haywardlaw14.ProcUndone': WHATEVER THE INPUT: true; the input reads as it did. -/
def procUndoneSpec : ChangeSpec := { name := "procUndone", fn := fun _ => fun
  | [d1, d2, d3] => { results := [.lit (.bool true)], args := [d1, d2, d3] }
  | _ => none }
def procUndoneRow : OpenClaim := { program := "ytahcpimpmedbiaa", sum := "80b80a7247e9307425b5cae7a8a52765a21d05f49f9bcca44c614ed1c92302f0", func := "hayward/haywardlaw14.ProcUndone", spec := "procUndone", unfollowed := true, recurses := true, apart := false }
def ProcUndoneSaid : Prop := procUndoneRow.holds Try.pinned (OpenSpec.ofChange procUndoneSpec)

/-- ITS FALSE NEIGHBOUR: 'it returns false'. Refute it at one input. -/
def procUndoneWrong : ChangeSpec := { name := "procUndone", fn := fun _ => fun
  | [d1, d2, d3] => { results := [.lit (.bool false)], args := [d1, d2, d3] }
  | _ => none }
def ProcUndoneWrongFalsely : Prop := procUndoneRow.holds Try.pinned (OpenSpec.ofChange procUndoneWrong)

/-- 'haywardlaw14.ProcIdle': WHATEVER THE INPUT: true; the input reads as it did. -/
def procIdleSpec : ChangeSpec := { name := "procIdle", fn := fun _ => fun
  | [d1, d2] => { results := [.lit (.bool true)], args := [d1, d2] }
  | _ => none }
def procIdleRow : OpenClaim := { program := "ytahcpimpmedbiaa", sum := "80b80a7247e9307425b5cae7a8a52765a21d05f49f9bcca44c614ed1c92302f0", func := "hayward/haywardlaw14.ProcIdle", spec := "procIdle", unfollowed := true, recurses := true, apart := false }
def ProcIdleSaid : Prop := procIdleRow.holds Try.pinned (OpenSpec.ofChange procIdleSpec)

/-- ITS FALSE NEIGHBOUR: 'it returns false'. Refute it at one input. -/
def procIdleWrong : ChangeSpec := { name := "procIdle", fn := fun _ => fun
  | [d1, d2] => { results := [.lit (.bool false)], args := [d1, d2] }
  | _ => none }
def ProcIdleWrongFalsely : Prop := procIdleRow.holds Try.pinned (OpenSpec.ofChange procIdleWrong)

/-- 'haywardlaw14.ProcNone': WHATEVER THE INPUT: true; the input reads as it did. -/
def procNoneSpec : ChangeSpec := { name := "procNone", fn := fun _ => fun
  | [d1, d2] => { results := [.lit (.bool true)], args := [d1, d2] }
  | _ => none }
def procNoneRow : OpenClaim := { program := "ytahcpimpmedbiaa", sum := "80b80a7247e9307425b5cae7a8a52765a21d05f49f9bcca44c614ed1c92302f0", func := "hayward/haywardlaw14.ProcNone", spec := "procNone", unfollowed := true, recurses := true, apart := false }
def ProcNoneSaid : Prop := procNoneRow.holds Try.pinned (OpenSpec.ofChange procNoneSpec)

/-- ITS FALSE NEIGHBOUR: 'it returns false'. Refute it at one input. -/
def procNoneWrong : ChangeSpec := { name := "procNone", fn := fun _ => fun
  | [d1, d2] => { results := [.lit (.bool false)], args := [d1, d2] }
  | _ => none }
def ProcNoneWrongFalsely : Prop := procNoneRow.holds Try.pinned (OpenSpec.ofChange procNoneWrong)

/-- 'haywardlaw14.ProcLowest': WHATEVER THE INPUT: true; the input reads as it did. -/
def procLowestSpec : ChangeSpec := { name := "procLowest", fn := fun _ => fun
  | [d] => { results := [.lit (.bool true)], args := [d] }
  | _ => none }
def procLowestRow : OpenClaim := { program := "ytahcpimpmedbiaa", sum := "80b80a7247e9307425b5cae7a8a52765a21d05f49f9bcca44c614ed1c92302f0", func := "hayward/haywardlaw14.ProcLowest", spec := "procLowest", unfollowed := true, recurses := true, apart := false }
def ProcLowestSaid : Prop := procLowestRow.holds Try.pinned (OpenSpec.ofChange procLowestSpec)

/-- ITS FALSE NEIGHBOUR: 'it returns false'. Refute it at one input. -/
def procLowestWrong : ChangeSpec := { name := "procLowest", fn := fun _ => fun
  | [d] => { results := [.lit (.bool false)], args := [d] }
  | _ => none }
def ProcLowestWrongFalsely : Prop := procLowestRow.holds Try.pinned (OpenSpec.ofChange procLowestWrong)

/- THE SECOND FORM. 'bulk': how many values and letters a reading holds, each counted each time it is reached (what is shared counts as often as it is met; a slice's spare places count too). A statement '..UptoSaid' is the law's where the arguments, and the package variables that the reading takes, are together of bulk at most 1048576: NARROWER than '..Said'. Prove '..Said' where nothing that the law and all that it calls make is longer than what came in: it says more and counts as full. Else prove '..UptoSaid'. A law counts once. -/
mutual
def uptoBulk {H : Type} : DataW H → Nat
  | .lit (.string bytes) => bytes.length + 1
  | .lit _ => 1
  | .nil => 1
  | .ptr d => uptoBulk d + 1
  | .slice elems spare => uptoBulkAll elems + uptoBulkAll spare + 1
  | .agg parts => uptoBulkAll parts + 1
  | .iface _ d => uptoBulk d + 1
  | .map entries => uptoBulkEntries entries + 1
  | .held _ => 1
def uptoBulkAll {H : Type} : List (DataW H) → Nat
  | [] => 0
  | d :: r => uptoBulk d + uptoBulkAll r
def uptoBulkEntries {H : Type} : List (Lit × DataW H) → Nat
  | [] => 0
  | x :: r => uptoBulkEntry x + uptoBulkEntries r
def uptoBulkEntry {H : Type} : Lit × DataW H → Nat
  | (.string bytes, d) => bytes.length + uptoBulk d + 1
  | (_, d) => uptoBulk d + 1
 end
def uptoSmall : (H : Type) → List (DataW H) → Bool := fun _ ds => decide (uptoBulkAll ds ≤ 1048576)
def OpenSpec.upto (s : _root_.Go.ChangeSpec) : _root_.Go.OpenSpec := { _root_.Go.OpenSpec.ofChange s with cond := some uptoSmall }

/-- 'haywardlaw14.ProcDoes', WHERE WHAT IT READS IS OF BULK AT MOST 1048576: true; the input reads as it did. -/
def procDoesUptoRow : OpenClaim := { program := "ytahcpimpmedbiaa", sum := "80b80a7247e9307425b5cae7a8a52765a21d05f49f9bcca44c614ed1c92302f0", func := "hayward/haywardlaw14.ProcDoes", spec := "procDoes", unfollowed := true, recurses := true, apart := false, narrowed := true }
def ProcDoesUptoSaid : Prop := procDoesUptoRow.holds Try.pinned (OpenSpec.upto procDoesSpec)

/-- 'haywardlaw14.ProcParents', WHERE WHAT IT READS IS OF BULK AT MOST 1048576: true; the input reads as it did. -/
def procParentsUptoRow : OpenClaim := { program := "ytahcpimpmedbiaa", sum := "80b80a7247e9307425b5cae7a8a52765a21d05f49f9bcca44c614ed1c92302f0", func := "hayward/haywardlaw14.ProcParents", spec := "procParents", unfollowed := true, recurses := true, apart := false, narrowed := true }
def ProcParentsUptoSaid : Prop := procParentsUptoRow.holds Try.pinned (OpenSpec.upto procParentsSpec)

/-- 'haywardlaw14.ProcOnce', WHERE WHAT IT READS IS OF BULK AT MOST 1048576: true; the input reads as it did. -/
def procOnceUptoRow : OpenClaim := { program := "ytahcpimpmedbiaa", sum := "80b80a7247e9307425b5cae7a8a52765a21d05f49f9bcca44c614ed1c92302f0", func := "hayward/haywardlaw14.ProcOnce", spec := "procOnce", unfollowed := true, recurses := true, apart := false, narrowed := true }
def ProcOnceUptoSaid : Prop := procOnceUptoRow.holds Try.pinned (OpenSpec.upto procOnceSpec)

/-- 'haywardlaw14.ProcUndone', WHERE WHAT IT READS IS OF BULK AT MOST 1048576: true; the input reads as it did. -/
def procUndoneUptoRow : OpenClaim := { program := "ytahcpimpmedbiaa", sum := "80b80a7247e9307425b5cae7a8a52765a21d05f49f9bcca44c614ed1c92302f0", func := "hayward/haywardlaw14.ProcUndone", spec := "procUndone", unfollowed := true, recurses := true, apart := false, narrowed := true }
def ProcUndoneUptoSaid : Prop := procUndoneUptoRow.holds Try.pinned (OpenSpec.upto procUndoneSpec)

/-- 'haywardlaw14.ProcIdle', WHERE WHAT IT READS IS OF BULK AT MOST 1048576: true; the input reads as it did. -/
def procIdleUptoRow : OpenClaim := { program := "ytahcpimpmedbiaa", sum := "80b80a7247e9307425b5cae7a8a52765a21d05f49f9bcca44c614ed1c92302f0", func := "hayward/haywardlaw14.ProcIdle", spec := "procIdle", unfollowed := true, recurses := true, apart := false, narrowed := true }
def ProcIdleUptoSaid : Prop := procIdleUptoRow.holds Try.pinned (OpenSpec.upto procIdleSpec)

/-- 'haywardlaw14.ProcNone', WHERE WHAT IT READS IS OF BULK AT MOST 1048576: true; the input reads as it did. -/
def procNoneUptoRow : OpenClaim := { program := "ytahcpimpmedbiaa", sum := "80b80a7247e9307425b5cae7a8a52765a21d05f49f9bcca44c614ed1c92302f0", func := "hayward/haywardlaw14.ProcNone", spec := "procNone", unfollowed := true, recurses := true, apart := false, narrowed := true }
def ProcNoneUptoSaid : Prop := procNoneUptoRow.holds Try.pinned (OpenSpec.upto procNoneSpec)

/-- 'haywardlaw14.ProcLowest', WHERE WHAT IT READS IS OF BULK AT MOST 1048576: true; the input reads as it did. -/
def procLowestUptoRow : OpenClaim := { program := "ytahcpimpmedbiaa", sum := "80b80a7247e9307425b5cae7a8a52765a21d05f49f9bcca44c614ed1c92302f0", func := "hayward/haywardlaw14.ProcLowest", spec := "procLowest", unfollowed := true, recurses := true, apart := false, narrowed := true }
def ProcLowestUptoSaid : Prop := procLowestUptoRow.holds Try.pinned (OpenSpec.upto procLowestSpec)

end Rows
end Go.Proofs.Ytahcpimpmedbiaa

/-
  NARROWER THAN 'FOR EVERY INPUT', by the rows' own cells (each row's printed sentence says how): SpaceDoes: laid · SpaceStep: laid · SpaceApart: laid · SpaceIdle: laid · SpaceNone: laid · SpaceBack: laid.
  DERIVED. THE GIVEN ROWS OF THIS SEAT. 6 by the template 'for every input the law returns true; each argument reads behind the call as it read before'; 0 by the template 'total and deterministic' (their statements: YtkomahekdcaiaaaGreatDoorTotals.lean).
  GIVEN WITH THE SEED: the statements are not yours to turn. If you find one false, say at which input.
  Laid BY PROGRAM, IN A SANDBOX (cutbox-rows.mjs): the forced cells as the released guide's own fill.sh prints them over the translation c137bb22fcf64c86… (all of the seat's roots in one cut). By AI agents, Wed Nov 11 2026. No macro, syntax, notation, axiom, sorry.
-/
import Derived.Test.YtkomahekdcaiaaaGreatDoorChecked
import GoSem.Claim
import GoSem.ClaimJoined
import GoSem.ClaimMapViews
import Derived.JoinedTies
import Derived.KernelRfl
namespace Go.Proofs.YtkomahekdcaiaaaGreatDoor
/- THE CELL 'sum', in the pinned program and in every row, IS THE sha256 OF THE DUMP (.gsa) THAT YtkomahekdcaiaaaGreatDoorProg.lean LOADS. Nothing in Lean hashes anything: it is a label: what it is worth is what the hold of that sum in a sandbox is worth. -/
noncomputable def Tryz.pinned : Pinned := { name := "ytkomahekdcaiaaagreatdoor", sum := "c137bb22fcf64c8687272d54a0e8f0fef9e8ccc3955a5c484a9f783409a4fc77", checked := Tryz.checked }
namespace Rows
def none {H : Type} : Left H := { results := [], args := [] }

/- WHAT THE LISTED PACKAGE-LEVEL VARIABLES READ AS WHEN THE CALL BEGINS. Each datum BY PROGRAM (the guide's laid-datum.mjs) off the statement by which the dump's own 'gosem.cut.vars' lays the variable. In a bare row this is a premise. The card (YtkomahekdcaiaaaGreatDoorCards.lean) ties it to the program's text. -/
def laid_hayward_entry_kinds {H : Type} : DataW H := .agg [.agg [.lit (.bool false), .lit (.bool false), .lit (.int .i64 1), .lit (.int .i64 1), .lit (.int .u64 9223090561878069245), .lit (.int .u64 5)], .agg [.lit (.bool false), .lit (.bool true), .lit (.int .i64 2), .lit (.int .i64 2), .lit (.int .u64 9223090561880162301), .lit (.int .u64 133)], .agg [.lit (.bool true), .lit (.bool false), .lit (.int .i64 2), .lit (.int .i64 4), .lit (.int .u64 18446462598732845055), .lit (.int .u64 7)]]

/-- 'haywardlaw10.SpaceDoes': WHATEVER THE INPUT: true; the input reads as it did. -/
def spaceDoesSpec : ChangeSpec := { name := "spaceDoes", fn := fun _ => fun
  | [d1, d2] => { results := [.lit (.bool true)], args := [d1, d2] }
  | _ => none }
def spaceDoesRow : OpenClaim := { program := "ytkomahekdcaiaaagreatdoor", sum := "c137bb22fcf64c8687272d54a0e8f0fef9e8ccc3955a5c484a9f783409a4fc77", func := "hayward/haywardlaw10.SpaceDoes", spec := "spaceDoes", unfollowed := true, recurses := true, named := ["hayward/entry.kinds"], apart := false, laid := [("hayward/entry.kinds", laid_hayward_entry_kinds)] }
def SpaceDoesSaid : Prop := spaceDoesRow.holds Tryz.pinned (OpenSpec.ofChange spaceDoesSpec)

/-- ITS FALSE NEIGHBOUR: 'it returns false'. Refute it at one input. -/
def spaceDoesWrong : ChangeSpec := { name := "spaceDoes", fn := fun _ => fun
  | [d1, d2] => { results := [.lit (.bool false)], args := [d1, d2] }
  | _ => none }
def SpaceDoesWrongFalsely : Prop := spaceDoesRow.holds Tryz.pinned (OpenSpec.ofChange spaceDoesWrong)

/-- 'haywardlaw10.SpaceStep': WHATEVER THE INPUT: true; the input reads as it did. -/
def spaceStepSpec : ChangeSpec := { name := "spaceStep", fn := fun _ => fun
  | [d1, d2, d3] => { results := [.lit (.bool true)], args := [d1, d2, d3] }
  | _ => none }
def spaceStepRow : OpenClaim := { program := "ytkomahekdcaiaaagreatdoor", sum := "c137bb22fcf64c8687272d54a0e8f0fef9e8ccc3955a5c484a9f783409a4fc77", func := "hayward/haywardlaw10.SpaceStep", spec := "spaceStep", unfollowed := true, recurses := true, named := ["hayward/entry.kinds"], apart := false, laid := [("hayward/entry.kinds", laid_hayward_entry_kinds)] }
def SpaceStepSaid : Prop := spaceStepRow.holds Tryz.pinned (OpenSpec.ofChange spaceStepSpec)

/-- ITS FALSE NEIGHBOUR: 'it returns false'. Refute it at one input. -/
def spaceStepWrong : ChangeSpec := { name := "spaceStep", fn := fun _ => fun
  | [d1, d2, d3] => { results := [.lit (.bool false)], args := [d1, d2, d3] }
  | _ => none }
def SpaceStepWrongFalsely : Prop := spaceStepRow.holds Tryz.pinned (OpenSpec.ofChange spaceStepWrong)

/-- 'haywardlaw10.SpaceApart': WHATEVER THE INPUT: true; the input reads as it did. -/
def spaceApartSpec : ChangeSpec := { name := "spaceApart", fn := fun _ => fun
  | [d1, d2] => { results := [.lit (.bool true)], args := [d1, d2] }
  | _ => none }
def spaceApartRow : OpenClaim := { program := "ytkomahekdcaiaaagreatdoor", sum := "c137bb22fcf64c8687272d54a0e8f0fef9e8ccc3955a5c484a9f783409a4fc77", func := "hayward/haywardlaw10.SpaceApart", spec := "spaceApart", unfollowed := true, recurses := true, named := ["hayward/entry.kinds"], apart := false, laid := [("hayward/entry.kinds", laid_hayward_entry_kinds)] }
def SpaceApartSaid : Prop := spaceApartRow.holds Tryz.pinned (OpenSpec.ofChange spaceApartSpec)

/-- ITS FALSE NEIGHBOUR: 'it returns false'. Refute it at one input. -/
def spaceApartWrong : ChangeSpec := { name := "spaceApart", fn := fun _ => fun
  | [d1, d2] => { results := [.lit (.bool false)], args := [d1, d2] }
  | _ => none }
def SpaceApartWrongFalsely : Prop := spaceApartRow.holds Tryz.pinned (OpenSpec.ofChange spaceApartWrong)

/-- 'haywardlaw10.SpaceIdle': WHATEVER THE INPUT: true; the input reads as it did. -/
def spaceIdleSpec : ChangeSpec := { name := "spaceIdle", fn := fun _ => fun
  | [d1, d2, d3] => { results := [.lit (.bool true)], args := [d1, d2, d3] }
  | _ => none }
def spaceIdleRow : OpenClaim := { program := "ytkomahekdcaiaaagreatdoor", sum := "c137bb22fcf64c8687272d54a0e8f0fef9e8ccc3955a5c484a9f783409a4fc77", func := "hayward/haywardlaw10.SpaceIdle", spec := "spaceIdle", unfollowed := true, recurses := true, named := ["hayward/entry.kinds"], apart := false, laid := [("hayward/entry.kinds", laid_hayward_entry_kinds)] }
def SpaceIdleSaid : Prop := spaceIdleRow.holds Tryz.pinned (OpenSpec.ofChange spaceIdleSpec)

/-- ITS FALSE NEIGHBOUR: 'it returns false'. Refute it at one input. -/
def spaceIdleWrong : ChangeSpec := { name := "spaceIdle", fn := fun _ => fun
  | [d1, d2, d3] => { results := [.lit (.bool false)], args := [d1, d2, d3] }
  | _ => none }
def SpaceIdleWrongFalsely : Prop := spaceIdleRow.holds Tryz.pinned (OpenSpec.ofChange spaceIdleWrong)

/-- 'haywardlaw10.SpaceNone': WHATEVER THE INPUT: true; the input reads as it did. -/
def spaceNoneSpec : ChangeSpec := { name := "spaceNone", fn := fun _ => fun
  | [d1, d2, d3] => { results := [.lit (.bool true)], args := [d1, d2, d3] }
  | _ => none }
def spaceNoneRow : OpenClaim := { program := "ytkomahekdcaiaaagreatdoor", sum := "c137bb22fcf64c8687272d54a0e8f0fef9e8ccc3955a5c484a9f783409a4fc77", func := "hayward/haywardlaw10.SpaceNone", spec := "spaceNone", unfollowed := true, recurses := true, named := ["hayward/entry.kinds"], apart := false, laid := [("hayward/entry.kinds", laid_hayward_entry_kinds)] }
def SpaceNoneSaid : Prop := spaceNoneRow.holds Tryz.pinned (OpenSpec.ofChange spaceNoneSpec)

/-- ITS FALSE NEIGHBOUR: 'it returns false'. Refute it at one input. -/
def spaceNoneWrong : ChangeSpec := { name := "spaceNone", fn := fun _ => fun
  | [d1, d2, d3] => { results := [.lit (.bool false)], args := [d1, d2, d3] }
  | _ => none }
def SpaceNoneWrongFalsely : Prop := spaceNoneRow.holds Tryz.pinned (OpenSpec.ofChange spaceNoneWrong)

/-- 'haywardlaw10.SpaceBack': WHATEVER THE INPUT: true; the input reads as it did. -/
def spaceBackSpec : ChangeSpec := { name := "spaceBack", fn := fun _ => fun
  | [d1, d2, d3] => { results := [.lit (.bool true)], args := [d1, d2, d3] }
  | _ => none }
def spaceBackRow : OpenClaim := { program := "ytkomahekdcaiaaagreatdoor", sum := "c137bb22fcf64c8687272d54a0e8f0fef9e8ccc3955a5c484a9f783409a4fc77", func := "hayward/haywardlaw10.SpaceBack", spec := "spaceBack", unfollowed := true, recurses := true, named := ["hayward/entry.kinds"], apart := false, laid := [("hayward/entry.kinds", laid_hayward_entry_kinds)] }
def SpaceBackSaid : Prop := spaceBackRow.holds Tryz.pinned (OpenSpec.ofChange spaceBackSpec)

/-- ITS FALSE NEIGHBOUR: 'it returns false'. Refute it at one input. -/
def spaceBackWrong : ChangeSpec := { name := "spaceBack", fn := fun _ => fun
  | [d1, d2, d3] => { results := [.lit (.bool false)], args := [d1, d2, d3] }
  | _ => none }
def SpaceBackWrongFalsely : Prop := spaceBackRow.holds Tryz.pinned (OpenSpec.ofChange spaceBackWrong)

/- THE SECOND FORM. 'bulk': how many values and letters a reading holds, each counted each time it is reached (what is shared counts as often as it is met; a slice's spare places count too). A statement '..UptoSaid' is the law's where the arguments, and the package variables that the reading takes, are together of bulk at most 1048576: NARROWER than '..Said'. Prove '..Said' where nothing that the law and all that it calls make is longer than what came in: it says more and counts as full. Else prove '..UptoSaid'. A law counts once. -/
mutual
def uptoBulk {H : Type} : DataW H → Nat
  | .lit (.string bytes) => bytes.length + 1
  | .lit _ => 1
  | .nil => 1
  | .ptr d => uptoBulk d + 1
  | .slice elems spare => uptoBulkAll elems + uptoBulkAll spare + 1
  | .agg parts => uptoBulkAll parts + 1
  | .iface _ d => uptoBulk d + 1
  | .map entries => uptoBulkEntries entries + 1
  | .held _ => 1
def uptoBulkAll {H : Type} : List (DataW H) → Nat
  | [] => 0
  | d :: r => uptoBulk d + uptoBulkAll r
def uptoBulkEntries {H : Type} : List (Lit × DataW H) → Nat
  | [] => 0
  | x :: r => uptoBulkEntry x + uptoBulkEntries r
def uptoBulkEntry {H : Type} : Lit × DataW H → Nat
  | (.string bytes, d) => bytes.length + uptoBulk d + 1
  | (_, d) => uptoBulk d + 1
 end
def uptoSmall : (H : Type) → List (DataW H) → Bool := fun _ ds => decide (uptoBulkAll ds ≤ 1048576)
def OpenSpec.upto (s : _root_.Go.ChangeSpec) : _root_.Go.OpenSpec := { _root_.Go.OpenSpec.ofChange s with cond := some uptoSmall }

/-- 'haywardlaw10.SpaceDoes', WHERE WHAT IT READS IS OF BULK AT MOST 1048576: true; the input reads as it did. -/
def spaceDoesUptoRow : OpenClaim := { program := "ytkomahekdcaiaaagreatdoor", sum := "c137bb22fcf64c8687272d54a0e8f0fef9e8ccc3955a5c484a9f783409a4fc77", func := "hayward/haywardlaw10.SpaceDoes", spec := "spaceDoes", unfollowed := true, recurses := true, named := ["hayward/entry.kinds"], apart := false, laid := [("hayward/entry.kinds", laid_hayward_entry_kinds)], narrowed := true }
def SpaceDoesUptoSaid : Prop := spaceDoesUptoRow.holds Tryz.pinned (OpenSpec.upto spaceDoesSpec)

/-- 'haywardlaw10.SpaceStep', WHERE WHAT IT READS IS OF BULK AT MOST 1048576: true; the input reads as it did. -/
def spaceStepUptoRow : OpenClaim := { program := "ytkomahekdcaiaaagreatdoor", sum := "c137bb22fcf64c8687272d54a0e8f0fef9e8ccc3955a5c484a9f783409a4fc77", func := "hayward/haywardlaw10.SpaceStep", spec := "spaceStep", unfollowed := true, recurses := true, named := ["hayward/entry.kinds"], apart := false, laid := [("hayward/entry.kinds", laid_hayward_entry_kinds)], narrowed := true }
def SpaceStepUptoSaid : Prop := spaceStepUptoRow.holds Tryz.pinned (OpenSpec.upto spaceStepSpec)

/-- 'haywardlaw10.SpaceApart', WHERE WHAT IT READS IS OF BULK AT MOST 1048576: true; the input reads as it did. -/
def spaceApartUptoRow : OpenClaim := { program := "ytkomahekdcaiaaagreatdoor", sum := "c137bb22fcf64c8687272d54a0e8f0fef9e8ccc3955a5c484a9f783409a4fc77", func := "hayward/haywardlaw10.SpaceApart", spec := "spaceApart", unfollowed := true, recurses := true, named := ["hayward/entry.kinds"], apart := false, laid := [("hayward/entry.kinds", laid_hayward_entry_kinds)], narrowed := true }
def SpaceApartUptoSaid : Prop := spaceApartUptoRow.holds Tryz.pinned (OpenSpec.upto spaceApartSpec)

/-- 'haywardlaw10.SpaceIdle', WHERE WHAT IT READS IS OF BULK AT MOST 1048576: true; the input reads as it did. -/
def spaceIdleUptoRow : OpenClaim := { program := "ytkomahekdcaiaaagreatdoor", sum := "c137bb22fcf64c8687272d54a0e8f0fef9e8ccc3955a5c484a9f783409a4fc77", func := "hayward/haywardlaw10.SpaceIdle", spec := "spaceIdle", unfollowed := true, recurses := true, named := ["hayward/entry.kinds"], apart := false, laid := [("hayward/entry.kinds", laid_hayward_entry_kinds)], narrowed := true }
def SpaceIdleUptoSaid : Prop := spaceIdleUptoRow.holds Tryz.pinned (OpenSpec.upto spaceIdleSpec)

/-- 'haywardlaw10.SpaceNone', WHERE WHAT IT READS IS OF BULK AT MOST 1048576: true; the input reads as it did. -/
def spaceNoneUptoRow : OpenClaim := { program := "ytkomahekdcaiaaagreatdoor", sum := "c137bb22fcf64c8687272d54a0e8f0fef9e8ccc3955a5c484a9f783409a4fc77", func := "hayward/haywardlaw10.SpaceNone", spec := "spaceNone", unfollowed := true, recurses := true, named := ["hayward/entry.kinds"], apart := false, laid := [("hayward/entry.kinds", laid_hayward_entry_kinds)], narrowed := true }
def SpaceNoneUptoSaid : Prop := spaceNoneUptoRow.holds Tryz.pinned (OpenSpec.upto spaceNoneSpec)

/-- 'haywardlaw10.SpaceBack', WHERE WHAT IT READS IS OF BULK AT MOST 1048576: true; the input reads as it did. -/
def spaceBackUptoRow : OpenClaim := { program := "ytkomahekdcaiaaagreatdoor", sum := "c137bb22fcf64c8687272d54a0e8f0fef9e8ccc3955a5c484a9f783409a4fc77", func := "hayward/haywardlaw10.SpaceBack", spec := "spaceBack", unfollowed := true, recurses := true, named := ["hayward/entry.kinds"], apart := false, laid := [("hayward/entry.kinds", laid_hayward_entry_kinds)], narrowed := true }
def SpaceBackUptoSaid : Prop := spaceBackUptoRow.holds Tryz.pinned (OpenSpec.upto spaceBackSpec)

end Rows
end Go.Proofs.YtkomahekdcaiaaaGreatDoor

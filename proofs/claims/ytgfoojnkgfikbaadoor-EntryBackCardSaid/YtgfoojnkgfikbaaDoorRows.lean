/-
  NARROWER THAN 'FOR EVERY INPUT', by the rows' own cells (each row's printed sentence says how): EntryWords: laid · EntryReads: laid · EntryBack: laid · EntryKinds: laid.
  DERIVED. THE GIVEN ROWS OF THIS SEAT. 4 by the template 'for every input the law returns true; each argument reads behind the call as it read before'; 0 by the template 'total and deterministic' (their statements: YtgfoojnkgfikbaaDoorTotals.lean).
  GIVEN WITH THE SEED: the statements are not yours to turn. If you find one false, say at which input.
  Laid BY PROGRAM, IN A SANDBOX (cutbox-rows.mjs): the forced cells as the released guide's own fill.sh prints them over the translation ab41a0783defcc5e… (all of the seat's roots in one cut). By AI agents, Wed Nov 11 2026. No macro, syntax, notation, axiom, sorry.
-/
import Derived.Test.YtgfoojnkgfikbaaDoorChecked
import GoSem.Claim
import GoSem.ClaimJoined
import GoSem.ClaimMapViews
import Derived.JoinedTies
import Derived.KernelRfl
namespace Go.Proofs.YtgfoojnkgfikbaaDoor
/- THE CELL 'sum', in the pinned program and in every row, IS THE sha256 OF THE DUMP (.gsa) THAT YtgfoojnkgfikbaaDoorProg.lean LOADS. Nothing in Lean hashes anything: it is a label: what it is worth is what the hold of that sum in a sandbox is worth. -/
noncomputable def Tryd.pinned : Pinned := { name := "ytgfoojnkgfikbaadoor", sum := "ab41a0783defcc5ef77f0a748bef86591d6d56a47105d4d7b87a1c6e14507b9e", checked := Tryd.checked }
namespace Rows
def none {H : Type} : Left H := { results := [], args := [] }

/- WHAT THE LISTED PACKAGE-LEVEL VARIABLES READ AS WHEN THE CALL BEGINS. Each datum BY PROGRAM (the guide's laid-datum.mjs) off the statement by which the dump's own 'gosem.cut.vars' lays the variable. In a bare row this is a premise. The card (YtgfoojnkgfikbaaDoorCards.lean) ties it to the program's text. -/
def laid_hayward_entry_kinds {H : Type} : DataW H := .agg [.agg [.lit (.bool false), .lit (.bool false), .lit (.int .i64 1), .lit (.int .i64 1), .lit (.int .u64 9223090561878069245), .lit (.int .u64 5)], .agg [.lit (.bool false), .lit (.bool true), .lit (.int .i64 2), .lit (.int .i64 2), .lit (.int .u64 9223090561880162301), .lit (.int .u64 133)], .agg [.lit (.bool true), .lit (.bool false), .lit (.int .i64 2), .lit (.int .i64 4), .lit (.int .u64 18446462598732845055), .lit (.int .u64 7)]]

/-- 'haywardlaw07.EntryWords': WHATEVER THE INPUT: true; the input reads as it did. -/
def entryWordsSpec : ChangeSpec := { name := "entryWords", fn := fun _ => fun
  | [d1, d2] => { results := [.lit (.bool true)], args := [d1, d2] }
  | _ => none }
def entryWordsRow : OpenClaim := { program := "ytgfoojnkgfikbaadoor", sum := "ab41a0783defcc5ef77f0a748bef86591d6d56a47105d4d7b87a1c6e14507b9e", func := "hayward/haywardlaw07.EntryWords", spec := "entryWords", unfollowed := true, recurses := true, named := ["hayward/entry.kinds"], apart := false, laid := [("hayward/entry.kinds", laid_hayward_entry_kinds)] }
def EntryWordsSaid : Prop := entryWordsRow.holds Tryd.pinned (OpenSpec.ofChange entryWordsSpec)

/-- ITS FALSE NEIGHBOUR: 'it returns false'. Refute it at one input. -/
def entryWordsWrong : ChangeSpec := { name := "entryWords", fn := fun _ => fun
  | [d1, d2] => { results := [.lit (.bool false)], args := [d1, d2] }
  | _ => none }
def EntryWordsWrongFalsely : Prop := entryWordsRow.holds Tryd.pinned (OpenSpec.ofChange entryWordsWrong)

/-- 'haywardlaw07.EntryReads': WHATEVER THE INPUT: true; the input reads as it did. -/
def entryReadsSpec : ChangeSpec := { name := "entryReads", fn := fun _ => fun
  | [d1, d2] => { results := [.lit (.bool true)], args := [d1, d2] }
  | _ => none }
def entryReadsRow : OpenClaim := { program := "ytgfoojnkgfikbaadoor", sum := "ab41a0783defcc5ef77f0a748bef86591d6d56a47105d4d7b87a1c6e14507b9e", func := "hayward/haywardlaw07.EntryReads", spec := "entryReads", unfollowed := true, recurses := true, named := ["hayward/entry.kinds"], apart := false, laid := [("hayward/entry.kinds", laid_hayward_entry_kinds)] }
def EntryReadsSaid : Prop := entryReadsRow.holds Tryd.pinned (OpenSpec.ofChange entryReadsSpec)

/-- ITS FALSE NEIGHBOUR: 'it returns false'. Refute it at one input. -/
def entryReadsWrong : ChangeSpec := { name := "entryReads", fn := fun _ => fun
  | [d1, d2] => { results := [.lit (.bool false)], args := [d1, d2] }
  | _ => none }
def EntryReadsWrongFalsely : Prop := entryReadsRow.holds Tryd.pinned (OpenSpec.ofChange entryReadsWrong)

/-- 'haywardlaw07.EntryBack': WHATEVER THE INPUT: true; the input reads as it did. -/
def entryBackSpec : ChangeSpec := { name := "entryBack", fn := fun _ => fun
  | [d1, d2, d3] => { results := [.lit (.bool true)], args := [d1, d2, d3] }
  | _ => none }
def entryBackRow : OpenClaim := { program := "ytgfoojnkgfikbaadoor", sum := "ab41a0783defcc5ef77f0a748bef86591d6d56a47105d4d7b87a1c6e14507b9e", func := "hayward/haywardlaw07.EntryBack", spec := "entryBack", unfollowed := true, recurses := true, named := ["hayward/entry.kinds"], apart := false, laid := [("hayward/entry.kinds", laid_hayward_entry_kinds)] }
def EntryBackSaid : Prop := entryBackRow.holds Tryd.pinned (OpenSpec.ofChange entryBackSpec)

/-- ITS FALSE NEIGHBOUR: 'it returns false'. Refute it at one input. -/
def entryBackWrong : ChangeSpec := { name := "entryBack", fn := fun _ => fun
  | [d1, d2, d3] => { results := [.lit (.bool false)], args := [d1, d2, d3] }
  | _ => none }
def EntryBackWrongFalsely : Prop := entryBackRow.holds Tryd.pinned (OpenSpec.ofChange entryBackWrong)

/-- 'haywardlaw07.EntryKinds': WHATEVER THE INPUT: true; the input reads as it did. -/
def entryKindsSpec : ChangeSpec := { name := "entryKinds", fn := fun _ => fun
  | [d] => { results := [.lit (.bool true)], args := [d] }
  | _ => none }
def entryKindsRow : OpenClaim := { program := "ytgfoojnkgfikbaadoor", sum := "ab41a0783defcc5ef77f0a748bef86591d6d56a47105d4d7b87a1c6e14507b9e", func := "hayward/haywardlaw07.EntryKinds", spec := "entryKinds", unfollowed := true, recurses := true, named := ["hayward/entry.kinds"], apart := false, laid := [("hayward/entry.kinds", laid_hayward_entry_kinds)] }
def EntryKindsSaid : Prop := entryKindsRow.holds Tryd.pinned (OpenSpec.ofChange entryKindsSpec)

/-- ITS FALSE NEIGHBOUR: 'it returns false'. Refute it at one input. -/
def entryKindsWrong : ChangeSpec := { name := "entryKinds", fn := fun _ => fun
  | [d] => { results := [.lit (.bool false)], args := [d] }
  | _ => none }
def EntryKindsWrongFalsely : Prop := entryKindsRow.holds Tryd.pinned (OpenSpec.ofChange entryKindsWrong)

/- THE SECOND FORM. 'bulk': how many values and letters a reading holds, each counted each time it is reached (what is shared counts as often as it is met; a slice's spare places count too). A statement '..UptoSaid' is the law's where the arguments, and the package variables that the reading takes, are together of bulk at most 1048576: NARROWER than '..Said'. Prove '..Said' where nothing that the law and all that it calls make is longer than what came in: it says more and counts as full. Else prove '..UptoSaid'. A law counts once. -/
mutual
def uptoBulk {H : Type} : DataW H → Nat
  | .lit (.string bytes) => bytes.length + 1
  | .lit _ => 1
  | .nil => 1
  | .ptr d => uptoBulk d + 1
  | .slice elems spare => uptoBulkAll elems + uptoBulkAll spare + 1
  | .agg parts => uptoBulkAll parts + 1
  | .iface _ d => uptoBulk d + 1
  | .map entries => uptoBulkEntries entries + 1
  | .held _ => 1
def uptoBulkAll {H : Type} : List (DataW H) → Nat
  | [] => 0
  | d :: r => uptoBulk d + uptoBulkAll r
def uptoBulkEntries {H : Type} : List (Lit × DataW H) → Nat
  | [] => 0
  | x :: r => uptoBulkEntry x + uptoBulkEntries r
def uptoBulkEntry {H : Type} : Lit × DataW H → Nat
  | (.string bytes, d) => bytes.length + uptoBulk d + 1
  | (_, d) => uptoBulk d + 1
 end
def uptoSmall : (H : Type) → List (DataW H) → Bool := fun _ ds => decide (uptoBulkAll ds ≤ 1048576)
def OpenSpec.upto (s : _root_.Go.ChangeSpec) : _root_.Go.OpenSpec := { _root_.Go.OpenSpec.ofChange s with cond := some uptoSmall }

/-- 'haywardlaw07.EntryWords', WHERE WHAT IT READS IS OF BULK AT MOST 1048576: true; the input reads as it did. -/
def entryWordsUptoRow : OpenClaim := { program := "ytgfoojnkgfikbaadoor", sum := "ab41a0783defcc5ef77f0a748bef86591d6d56a47105d4d7b87a1c6e14507b9e", func := "hayward/haywardlaw07.EntryWords", spec := "entryWords", unfollowed := true, recurses := true, named := ["hayward/entry.kinds"], apart := false, laid := [("hayward/entry.kinds", laid_hayward_entry_kinds)], narrowed := true }
def EntryWordsUptoSaid : Prop := entryWordsUptoRow.holds Tryd.pinned (OpenSpec.upto entryWordsSpec)

/-- 'haywardlaw07.EntryReads', WHERE WHAT IT READS IS OF BULK AT MOST 1048576: true; the input reads as it did. -/
def entryReadsUptoRow : OpenClaim := { program := "ytgfoojnkgfikbaadoor", sum := "ab41a0783defcc5ef77f0a748bef86591d6d56a47105d4d7b87a1c6e14507b9e", func := "hayward/haywardlaw07.EntryReads", spec := "entryReads", unfollowed := true, recurses := true, named := ["hayward/entry.kinds"], apart := false, laid := [("hayward/entry.kinds", laid_hayward_entry_kinds)], narrowed := true }
def EntryReadsUptoSaid : Prop := entryReadsUptoRow.holds Tryd.pinned (OpenSpec.upto entryReadsSpec)

/-- 'haywardlaw07.EntryBack', WHERE WHAT IT READS IS OF BULK AT MOST 1048576: true; the input reads as it did. -/
def entryBackUptoRow : OpenClaim := { program := "ytgfoojnkgfikbaadoor", sum := "ab41a0783defcc5ef77f0a748bef86591d6d56a47105d4d7b87a1c6e14507b9e", func := "hayward/haywardlaw07.EntryBack", spec := "entryBack", unfollowed := true, recurses := true, named := ["hayward/entry.kinds"], apart := false, laid := [("hayward/entry.kinds", laid_hayward_entry_kinds)], narrowed := true }
def EntryBackUptoSaid : Prop := entryBackUptoRow.holds Tryd.pinned (OpenSpec.upto entryBackSpec)

/-- 'haywardlaw07.EntryKinds', WHERE WHAT IT READS IS OF BULK AT MOST 1048576: true; the input reads as it did. -/
def entryKindsUptoRow : OpenClaim := { program := "ytgfoojnkgfikbaadoor", sum := "ab41a0783defcc5ef77f0a748bef86591d6d56a47105d4d7b87a1c6e14507b9e", func := "hayward/haywardlaw07.EntryKinds", spec := "entryKinds", unfollowed := true, recurses := true, named := ["hayward/entry.kinds"], apart := false, laid := [("hayward/entry.kinds", laid_hayward_entry_kinds)], narrowed := true }
def EntryKindsUptoSaid : Prop := entryKindsUptoRow.holds Tryd.pinned (OpenSpec.upto entryKindsSpec)

end Rows
end Go.Proofs.YtgfoojnkgfikbaaDoor

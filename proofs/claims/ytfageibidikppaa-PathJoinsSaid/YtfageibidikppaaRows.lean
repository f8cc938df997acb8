/-
  No cell of these rows narrows 'for every input' (looked for: loops, veiled, ifaces, maps, wideKeys, modest, calm, conditions, laid).
  DERIVED. THE GIVEN ROWS OF THIS SEAT. 6 by the template 'for every input the law returns true; each argument reads behind the call as it read before'; 0 by the template 'total and deterministic' (their statements: YtfageibidikppaaTotals.lean).
  GIVEN WITH THE SEED: the statements are not yours to turn. If you find one false, say at which input.
  Laid BY PROGRAM, IN A SANDBOX (cutbox-rows.mjs): the forced cells as the released guide's own fill.sh prints them over the translation 04b153c5d9fd7186… (all of the seat's roots in one cut). By AI agents, Wed Nov 11 2026. No macro, syntax, notation, axiom, sorry.
-/
import Derived.Test.YtfageibidikppaaChecked
import GoSem.Claim
import GoSem.ClaimJoined
import GoSem.ClaimMapViews
import Derived.JoinedTies
import Derived.KernelRfl
namespace Go.Proofs.Ytfageibidikppaa
/- THE CELL 'sum', in the pinned program and in every row, IS THE sha256 OF THE DUMP (.gsa) THAT YtfageibidikppaaProg.lean LOADS. Nothing in Lean hashes anything: it is a label: what it is worth is what the hold of that sum in a sandbox is worth. -/
noncomputable def Try.pinned : Pinned := { name := "ytfageibidikppaa", sum := "04b153c5d9fd718662d5cd4146af42b8c2cc066842b56dfc432903b256f449f5", checked := Try.checked }
namespace Rows
def none {H : Type} : Left H := { results := [], args := [] }

/-- 'haywardlaw04.PathReads': WHATEVER THE INPUT: true; the input reads as it did. -/
def pathReadsSpec : ChangeSpec := { name := "pathReads", fn := fun _ => fun
  | [d] => { results := [.lit (.bool true)], args := [d] }
  | _ => none }
def pathReadsRow : OpenClaim := { program := "ytfageibidikppaa", sum := "04b153c5d9fd718662d5cd4146af42b8c2cc066842b56dfc432903b256f449f5", func := "hayward/haywardlaw04.PathReads", spec := "pathReads", apart := false }
def PathReadsSaid : Prop := pathReadsRow.holds Try.pinned (OpenSpec.ofChange pathReadsSpec)

/-- ITS FALSE NEIGHBOUR: 'it returns false'. Refute it at one input. -/
def pathReadsWrong : ChangeSpec := { name := "pathReads", fn := fun _ => fun
  | [d] => { results := [.lit (.bool false)], args := [d] }
  | _ => none }
def PathReadsWrongFalsely : Prop := pathReadsRow.holds Try.pinned (OpenSpec.ofChange pathReadsWrong)

/-- 'haywardlaw04.PathShows': WHATEVER THE INPUT: true; the input reads as it did. -/
def pathShowsSpec : ChangeSpec := { name := "pathShows", fn := fun _ => fun
  | [d] => { results := [.lit (.bool true)], args := [d] }
  | _ => none }
def pathShowsRow : OpenClaim := { program := "ytfageibidikppaa", sum := "04b153c5d9fd718662d5cd4146af42b8c2cc066842b56dfc432903b256f449f5", func := "hayward/haywardlaw04.PathShows", spec := "pathShows", apart := false }
def PathShowsSaid : Prop := pathShowsRow.holds Try.pinned (OpenSpec.ofChange pathShowsSpec)

/-- ITS FALSE NEIGHBOUR: 'it returns false'. Refute it at one input. -/
def pathShowsWrong : ChangeSpec := { name := "pathShows", fn := fun _ => fun
  | [d] => { results := [.lit (.bool false)], args := [d] }
  | _ => none }
def PathShowsWrongFalsely : Prop := pathShowsRow.holds Try.pinned (OpenSpec.ofChange pathShowsWrong)

/-- 'haywardlaw04.PathNorms': WHATEVER THE INPUT: true; the input reads as it did. -/
def pathNormsSpec : ChangeSpec := { name := "pathNorms", fn := fun _ => fun
  | [d] => { results := [.lit (.bool true)], args := [d] }
  | _ => none }
def pathNormsRow : OpenClaim := { program := "ytfageibidikppaa", sum := "04b153c5d9fd718662d5cd4146af42b8c2cc066842b56dfc432903b256f449f5", func := "hayward/haywardlaw04.PathNorms", spec := "pathNorms", unfollowed := true, recurses := true, apart := false }
def PathNormsSaid : Prop := pathNormsRow.holds Try.pinned (OpenSpec.ofChange pathNormsSpec)

/-- ITS FALSE NEIGHBOUR: 'it returns false'. Refute it at one input. -/
def pathNormsWrong : ChangeSpec := { name := "pathNorms", fn := fun _ => fun
  | [d] => { results := [.lit (.bool false)], args := [d] }
  | _ => none }
def PathNormsWrongFalsely : Prop := pathNormsRow.holds Try.pinned (OpenSpec.ofChange pathNormsWrong)

/-- 'haywardlaw04.PathJoins': WHATEVER THE INPUT: true; the input reads as it did. -/
def pathJoinsSpec : ChangeSpec := { name := "pathJoins", fn := fun _ => fun
  | [d1, d2] => { results := [.lit (.bool true)], args := [d1, d2] }
  | _ => none }
def pathJoinsRow : OpenClaim := { program := "ytfageibidikppaa", sum := "04b153c5d9fd718662d5cd4146af42b8c2cc066842b56dfc432903b256f449f5", func := "hayward/haywardlaw04.PathJoins", spec := "pathJoins", apart := false }
def PathJoinsSaid : Prop := pathJoinsRow.holds Try.pinned (OpenSpec.ofChange pathJoinsSpec)

/-- ITS FALSE NEIGHBOUR: 'it returns false'. Refute it at one input. -/
def pathJoinsWrong : ChangeSpec := { name := "pathJoins", fn := fun _ => fun
  | [d1, d2] => { results := [.lit (.bool false)], args := [d1, d2] }
  | _ => none }
def PathJoinsWrongFalsely : Prop := pathJoinsRow.holds Try.pinned (OpenSpec.ofChange pathJoinsWrong)

/-- 'haywardlaw04.PathBack': WHATEVER THE INPUT: true; the input reads as it did. -/
def pathBackSpec : ChangeSpec := { name := "pathBack", fn := fun _ => fun
  | [d] => { results := [.lit (.bool true)], args := [d] }
  | _ => none }
def pathBackRow : OpenClaim := { program := "ytfageibidikppaa", sum := "04b153c5d9fd718662d5cd4146af42b8c2cc066842b56dfc432903b256f449f5", func := "hayward/haywardlaw04.PathBack", spec := "pathBack", unfollowed := true, recurses := true, apart := false }
def PathBackSaid : Prop := pathBackRow.holds Try.pinned (OpenSpec.ofChange pathBackSpec)

/-- ITS FALSE NEIGHBOUR: 'it returns false'. Refute it at one input. -/
def pathBackWrong : ChangeSpec := { name := "pathBack", fn := fun _ => fun
  | [d] => { results := [.lit (.bool false)], args := [d] }
  | _ => none }
def PathBackWrongFalsely : Prop := pathBackRow.holds Try.pinned (OpenSpec.ofChange pathBackWrong)

/-- 'haywardlaw04.PathSlashes': WHATEVER THE INPUT: true; the input reads as it did. -/
def pathSlashesSpec : ChangeSpec := { name := "pathSlashes", fn := fun _ => fun
  | [d1, d2] => { results := [.lit (.bool true)], args := [d1, d2] }
  | _ => none }
def pathSlashesRow : OpenClaim := { program := "ytfageibidikppaa", sum := "04b153c5d9fd718662d5cd4146af42b8c2cc066842b56dfc432903b256f449f5", func := "hayward/haywardlaw04.PathSlashes", spec := "pathSlashes", apart := false }
def PathSlashesSaid : Prop := pathSlashesRow.holds Try.pinned (OpenSpec.ofChange pathSlashesSpec)

/-- ITS FALSE NEIGHBOUR: 'it returns false'. Refute it at one input. -/
def pathSlashesWrong : ChangeSpec := { name := "pathSlashes", fn := fun _ => fun
  | [d1, d2] => { results := [.lit (.bool false)], args := [d1, d2] }
  | _ => none }
def PathSlashesWrongFalsely : Prop := pathSlashesRow.holds Try.pinned (OpenSpec.ofChange pathSlashesWrong)

/- THE SECOND FORM. 'bulk': how many values and letters a reading holds, each counted each time it is reached (what is shared counts as often as it is met; a slice's spare places count too). A statement '..UptoSaid' is the law's where the arguments, and the package variables that the reading takes, are together of bulk at most 1048576: NARROWER than '..Said'. Prove '..Said' where nothing that the law and all that it calls make is longer than what came in: it says more and counts as full. Else prove '..UptoSaid'. A law counts once. -/
mutual
def uptoBulk {H : Type} : DataW H → Nat
  | .lit (.string bytes) => bytes.length + 1
  | .lit _ => 1
  | .nil => 1
  | .ptr d => uptoBulk d + 1
  | .slice elems spare => uptoBulkAll elems + uptoBulkAll spare + 1
  | .agg parts => uptoBulkAll parts + 1
  | .iface _ d => uptoBulk d + 1
  | .map entries => uptoBulkEntries entries + 1
  | .held _ => 1
def uptoBulkAll {H : Type} : List (DataW H) → Nat
  | [] => 0
  | d :: r => uptoBulk d + uptoBulkAll r
def uptoBulkEntries {H : Type} : List (Lit × DataW H) → Nat
  | [] => 0
  | x :: r => uptoBulkEntry x + uptoBulkEntries r
def uptoBulkEntry {H : Type} : Lit × DataW H → Nat
  | (.string bytes, d) => bytes.length + uptoBulk d + 1
  | (_, d) => uptoBulk d + 1
 end
def uptoSmall : (H : Type) → List (DataW H) → Bool := fun _ ds => decide (uptoBulkAll ds ≤ 1048576)
def OpenSpec.upto (s : _root_.Go.ChangeSpec) : _root_.Go.OpenSpec := { _root_.Go.OpenSpec.ofChange s with cond := some uptoSmall }

/-- 'haywardlaw04.PathReads', WHERE WHAT IT READS IS OF BULK AT MOST 1048576: true; the input reads as it did. -/
def pathReadsUptoRow : OpenClaim := { program := "ytfageibidikppaa", sum := "04b153c5d9fd718662d5cd4146af42b8c2cc066842b56dfc432903b256f449f5", func := "hayward/haywardlaw04.PathReads", spec := "pathReads", apart := false, narrowed := true }
def PathReadsUptoSaid : Prop := pathReadsUptoRow.holds Try.pinned (OpenSpec.upto pathReadsSpec)

/-- 'haywardlaw04.PathShows', WHERE WHAT IT READS IS OF BULK AT MOST 1048576: true; the input reads as it did. -/
def pathShowsUptoRow : OpenClaim := { program := "ytfageibidikppaa", sum := "04b153c5d9fd718662d5cd4146af42b8c2cc066842b56dfc432903b256f449f5", func := "hayward/haywardlaw04.PathShows", spec := "pathShows", apart := false, narrowed := true }
def PathShowsUptoSaid : Prop := pathShowsUptoRow.holds Try.pinned (OpenSpec.upto pathShowsSpec)

/-- 'haywardlaw04.PathNorms', WHERE WHAT IT READS IS OF BULK AT MOST 1048576: true; the input reads as it did. -/
def pathNormsUptoRow : OpenClaim := { program := "ytfageibidikppaa", sum := "04b153c5d9fd718662d5cd4146af42b8c2cc066842b56dfc432903b256f449f5", func := "hayward/haywardlaw04.PathNorms", spec := "pathNorms", unfollowed := true, recurses := true, apart := false, narrowed := true }
def PathNormsUptoSaid : Prop := pathNormsUptoRow.holds Try.pinned (OpenSpec.upto pathNormsSpec)

/-- 'haywardlaw04.PathJoins', WHERE WHAT IT READS IS OF BULK AT MOST 1048576: true; the input reads as it did. -/
def pathJoinsUptoRow : OpenClaim := { program := "ytfageibidikppaa", sum := "04b153c5d9fd718662d5cd4146af42b8c2cc066842b56dfc432903b256f449f5", func := "hayward/haywardlaw04.PathJoins", spec := "pathJoins", apart := false, narrowed := true }
def PathJoinsUptoSaid : Prop := pathJoinsUptoRow.holds Try.pinned (OpenSpec.upto pathJoinsSpec)

/-- 'haywardlaw04.PathBack', WHERE WHAT IT READS IS OF BULK AT MOST 1048576: true; the input reads as it did. -/
def pathBackUptoRow : OpenClaim := { program := "ytfageibidikppaa", sum := "04b153c5d9fd718662d5cd4146af42b8c2cc066842b56dfc432903b256f449f5", func := "hayward/haywardlaw04.PathBack", spec := "pathBack", unfollowed := true, recurses := true, apart := false, narrowed := true }
def PathBackUptoSaid : Prop := pathBackUptoRow.holds Try.pinned (OpenSpec.upto pathBackSpec)

/-- 'haywardlaw04.PathSlashes', WHERE WHAT IT READS IS OF BULK AT MOST 1048576: true; the input reads as it did. -/
def pathSlashesUptoRow : OpenClaim := { program := "ytfageibidikppaa", sum := "04b153c5d9fd718662d5cd4146af42b8c2cc066842b56dfc432903b256f449f5", func := "hayward/haywardlaw04.PathSlashes", spec := "pathSlashes", apart := false, narrowed := true }
def PathSlashesUptoSaid : Prop := pathSlashesUptoRow.holds Try.pinned (OpenSpec.upto pathSlashesSpec)

end Rows
end Go.Proofs.Ytfageibidikppaa

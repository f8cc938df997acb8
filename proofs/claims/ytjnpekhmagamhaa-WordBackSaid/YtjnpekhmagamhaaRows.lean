/-
  No cell of these rows narrows 'for every input' (looked for: loops, veiled, ifaces, maps, wideKeys, modest, calm, conditions, laid).
  DERIVED. THE GIVEN ROWS OF THIS SEAT. 8 by the template 'for every input the law returns true; each argument reads behind the call as it read before'; 0 by the template 'total and deterministic' (their statements: YtjnpekhmagamhaaTotals.lean).
  GIVEN WITH THE SEED: the statements are not yours to turn. If you find one false, say at which input.
  Laid BY PROGRAM, IN A SANDBOX (cutbox-rows.mjs): the forced cells as the released guide's own fill.sh prints them over the translation da49fb70f551a114… (all of the seat's roots in one cut). By AI agents, Wed Nov 11 2026. No macro, syntax, notation, axiom, sorry.
-/
import Derived.Test.YtjnpekhmagamhaaChecked
import GoSem.Claim
import GoSem.ClaimJoined
import GoSem.ClaimMapViews
import Derived.JoinedTies
import Derived.KernelRfl
namespace Go.Proofs.Ytjnpekhmagamhaa
/- THE CELL 'sum', in the pinned program and in every row, IS THE sha256 OF THE DUMP (.gsa) THAT YtjnpekhmagamhaaProg.lean LOADS. Nothing in Lean hashes anything: it is a label: what it is worth is what the hold of that sum in a sandbox is worth. -/
noncomputable def Try.pinned : Pinned := { name := "ytjnpekhmagamhaa", sum := "da49fb70f551a114c7f183f1c074901b7d6d378dec411e3e5d2688cdc3bd74c7", checked := Try.checked }
namespace Rows
def none {H : Type} : Left H := { results := [], args := [] }

/-- 'haywardlaw01.WordTakes': WHATEVER THE INPUT: true; the input reads as it did. -/
def wordTakesSpec : ChangeSpec := { name := "wordTakes", fn := fun _ => fun
  | [d1, d2, d3] => { results := [.lit (.bool true)], args := [d1, d2, d3] }
  | _ => none }
def wordTakesRow : OpenClaim := { program := "ytjnpekhmagamhaa", sum := "da49fb70f551a114c7f183f1c074901b7d6d378dec411e3e5d2688cdc3bd74c7", func := "hayward/haywardlaw01.WordTakes", spec := "wordTakes", unfollowed := true, recurses := true, apart := false }
def WordTakesSaid : Prop := wordTakesRow.holds Try.pinned (OpenSpec.ofChange wordTakesSpec)

/-- ITS FALSE NEIGHBOUR: 'it returns false'. Refute it at one input. -/
def wordTakesWrong : ChangeSpec := { name := "wordTakes", fn := fun _ => fun
  | [d1, d2, d3] => { results := [.lit (.bool false)], args := [d1, d2, d3] }
  | _ => none }
def WordTakesWrongFalsely : Prop := wordTakesRow.holds Try.pinned (OpenSpec.ofChange wordTakesWrong)

/-- 'haywardlaw01.WordPuts': WHATEVER THE INPUT: true; the input reads as it did. -/
def wordPutsSpec : ChangeSpec := { name := "wordPuts", fn := fun _ => fun
  | [d1, d2, d3, d4] => { results := [.lit (.bool true)], args := [d1, d2, d3, d4] }
  | _ => none }
def wordPutsRow : OpenClaim := { program := "ytjnpekhmagamhaa", sum := "da49fb70f551a114c7f183f1c074901b7d6d378dec411e3e5d2688cdc3bd74c7", func := "hayward/haywardlaw01.WordPuts", spec := "wordPuts", unfollowed := true, recurses := true, apart := false }
def WordPutsSaid : Prop := wordPutsRow.holds Try.pinned (OpenSpec.ofChange wordPutsSpec)

/-- ITS FALSE NEIGHBOUR: 'it returns false'. Refute it at one input. -/
def wordPutsWrong : ChangeSpec := { name := "wordPuts", fn := fun _ => fun
  | [d1, d2, d3, d4] => { results := [.lit (.bool false)], args := [d1, d2, d3, d4] }
  | _ => none }
def WordPutsWrongFalsely : Prop := wordPutsRow.holds Try.pinned (OpenSpec.ofChange wordPutsWrong)

/-- 'haywardlaw01.WordDowns': WHATEVER THE INPUT: true; the input reads as it did. -/
def wordDownsSpec : ChangeSpec := { name := "wordDowns", fn := fun _ => fun
  | [d1, d2] => { results := [.lit (.bool true)], args := [d1, d2] }
  | _ => none }
def wordDownsRow : OpenClaim := { program := "ytjnpekhmagamhaa", sum := "da49fb70f551a114c7f183f1c074901b7d6d378dec411e3e5d2688cdc3bd74c7", func := "hayward/haywardlaw01.WordDowns", spec := "wordDowns", unfollowed := true, recurses := true, apart := false }
def WordDownsSaid : Prop := wordDownsRow.holds Try.pinned (OpenSpec.ofChange wordDownsSpec)

/-- ITS FALSE NEIGHBOUR: 'it returns false'. Refute it at one input. -/
def wordDownsWrong : ChangeSpec := { name := "wordDowns", fn := fun _ => fun
  | [d1, d2] => { results := [.lit (.bool false)], args := [d1, d2] }
  | _ => none }
def WordDownsWrongFalsely : Prop := wordDownsRow.holds Try.pinned (OpenSpec.ofChange wordDownsWrong)

/-- 'haywardlaw01.WordUps': WHATEVER THE INPUT: true; the input reads as it did. -/
def wordUpsSpec : ChangeSpec := { name := "wordUps", fn := fun _ => fun
  | [d1, d2] => { results := [.lit (.bool true)], args := [d1, d2] }
  | _ => none }
def wordUpsRow : OpenClaim := { program := "ytjnpekhmagamhaa", sum := "da49fb70f551a114c7f183f1c074901b7d6d378dec411e3e5d2688cdc3bd74c7", func := "hayward/haywardlaw01.WordUps", spec := "wordUps", unfollowed := true, recurses := true, apart := false }
def WordUpsSaid : Prop := wordUpsRow.holds Try.pinned (OpenSpec.ofChange wordUpsSpec)

/-- ITS FALSE NEIGHBOUR: 'it returns false'. Refute it at one input. -/
def wordUpsWrong : ChangeSpec := { name := "wordUps", fn := fun _ => fun
  | [d1, d2] => { results := [.lit (.bool false)], args := [d1, d2] }
  | _ => none }
def WordUpsWrongFalsely : Prop := wordUpsRow.holds Try.pinned (OpenSpec.ofChange wordUpsWrong)

/-- 'haywardlaw01.WordCounts': WHATEVER THE INPUT: true; the input reads as it did. -/
def wordCountsSpec : ChangeSpec := { name := "wordCounts", fn := fun _ => fun
  | [d] => { results := [.lit (.bool true)], args := [d] }
  | _ => none }
def wordCountsRow : OpenClaim := { program := "ytjnpekhmagamhaa", sum := "da49fb70f551a114c7f183f1c074901b7d6d378dec411e3e5d2688cdc3bd74c7", func := "hayward/haywardlaw01.WordCounts", spec := "wordCounts", apart := false }
def WordCountsSaid : Prop := wordCountsRow.holds Try.pinned (OpenSpec.ofChange wordCountsSpec)

/-- ITS FALSE NEIGHBOUR: 'it returns false'. Refute it at one input. -/
def wordCountsWrong : ChangeSpec := { name := "wordCounts", fn := fun _ => fun
  | [d] => { results := [.lit (.bool false)], args := [d] }
  | _ => none }
def WordCountsWrongFalsely : Prop := wordCountsRow.holds Try.pinned (OpenSpec.ofChange wordCountsWrong)

/-- 'haywardlaw01.WordBack': WHATEVER THE INPUT: true; the input reads as it did. -/
def wordBackSpec : ChangeSpec := { name := "wordBack", fn := fun _ => fun
  | [d1, d2, d3, d4, d5, d6] => { results := [.lit (.bool true)], args := [d1, d2, d3, d4, d5, d6] }
  | _ => none }
def wordBackRow : OpenClaim := { program := "ytjnpekhmagamhaa", sum := "da49fb70f551a114c7f183f1c074901b7d6d378dec411e3e5d2688cdc3bd74c7", func := "hayward/haywardlaw01.WordBack", spec := "wordBack", unfollowed := true, recurses := true, apart := false }
def WordBackSaid : Prop := wordBackRow.holds Try.pinned (OpenSpec.ofChange wordBackSpec)

/-- ITS FALSE NEIGHBOUR: 'it returns false'. Refute it at one input. -/
def wordBackWrong : ChangeSpec := { name := "wordBack", fn := fun _ => fun
  | [d1, d2, d3, d4, d5, d6] => { results := [.lit (.bool false)], args := [d1, d2, d3, d4, d5, d6] }
  | _ => none }
def WordBackWrongFalsely : Prop := wordBackRow.holds Try.pinned (OpenSpec.ofChange wordBackWrong)

/-- 'haywardlaw01.WordParts': WHATEVER THE INPUT: true; the input reads as it did. -/
def wordPartsSpec : ChangeSpec := { name := "wordParts", fn := fun _ => fun
  | [d1, d2, d3, d4] => { results := [.lit (.bool true)], args := [d1, d2, d3, d4] }
  | _ => none }
def wordPartsRow : OpenClaim := { program := "ytjnpekhmagamhaa", sum := "da49fb70f551a114c7f183f1c074901b7d6d378dec411e3e5d2688cdc3bd74c7", func := "hayward/haywardlaw01.WordParts", spec := "wordParts", unfollowed := true, recurses := true, apart := false }
def WordPartsSaid : Prop := wordPartsRow.holds Try.pinned (OpenSpec.ofChange wordPartsSpec)

/-- ITS FALSE NEIGHBOUR: 'it returns false'. Refute it at one input. -/
def wordPartsWrong : ChangeSpec := { name := "wordParts", fn := fun _ => fun
  | [d1, d2, d3, d4] => { results := [.lit (.bool false)], args := [d1, d2, d3, d4] }
  | _ => none }
def WordPartsWrongFalsely : Prop := wordPartsRow.holds Try.pinned (OpenSpec.ofChange wordPartsWrong)

/-- 'haywardlaw01.WordBetween': WHATEVER THE INPUT: true; the input reads as it did. -/
def wordBetweenSpec : ChangeSpec := { name := "wordBetween", fn := fun _ => fun
  | [d1, d2] => { results := [.lit (.bool true)], args := [d1, d2] }
  | _ => none }
def wordBetweenRow : OpenClaim := { program := "ytjnpekhmagamhaa", sum := "da49fb70f551a114c7f183f1c074901b7d6d378dec411e3e5d2688cdc3bd74c7", func := "hayward/haywardlaw01.WordBetween", spec := "wordBetween", unfollowed := true, recurses := true, apart := false }
def WordBetweenSaid : Prop := wordBetweenRow.holds Try.pinned (OpenSpec.ofChange wordBetweenSpec)

/-- ITS FALSE NEIGHBOUR: 'it returns false'. Refute it at one input. -/
def wordBetweenWrong : ChangeSpec := { name := "wordBetween", fn := fun _ => fun
  | [d1, d2] => { results := [.lit (.bool false)], args := [d1, d2] }
  | _ => none }
def WordBetweenWrongFalsely : Prop := wordBetweenRow.holds Try.pinned (OpenSpec.ofChange wordBetweenWrong)

/- THE SECOND FORM. 'bulk': how many values and letters a reading holds, each counted each time it is reached (what is shared counts as often as it is met; a slice's spare places count too). A statement '..UptoSaid' is the law's where the arguments, and the package variables that the reading takes, are together of bulk at most 1048576: NARROWER than '..Said'. Prove '..Said' where nothing that the law and all that it calls make is longer than what came in: it says more and counts as full. Else prove '..UptoSaid'. A law counts once. -/
mutual
def uptoBulk {H : Type} : DataW H → Nat
  | .lit (.string bytes) => bytes.length + 1
  | .lit _ => 1
  | .nil => 1
  | .ptr d => uptoBulk d + 1
  | .slice elems spare => uptoBulkAll elems + uptoBulkAll spare + 1
  | .agg parts => uptoBulkAll parts + 1
  | .iface _ d => uptoBulk d + 1
  | .map entries => uptoBulkEntries entries + 1
  | .held _ => 1
def uptoBulkAll {H : Type} : List (DataW H) → Nat
  | [] => 0
  | d :: r => uptoBulk d + uptoBulkAll r
def uptoBulkEntries {H : Type} : List (Lit × DataW H) → Nat
  | [] => 0
  | x :: r => uptoBulkEntry x + uptoBulkEntries r
def uptoBulkEntry {H : Type} : Lit × DataW H → Nat
  | (.string bytes, d) => bytes.length + uptoBulk d + 1
  | (_, d) => uptoBulk d + 1
 end
def uptoSmall : (H : Type) → List (DataW H) → Bool := fun _ ds => decide (uptoBulkAll ds ≤ 1048576)
def OpenSpec.upto (s : _root_.Go.ChangeSpec) : _root_.Go.OpenSpec := { _root_.Go.OpenSpec.ofChange s with cond := some uptoSmall }

/-- 'haywardlaw01.WordTakes', WHERE WHAT IT READS IS OF BULK AT MOST 1048576: true; the input reads as it did. -/
def wordTakesUptoRow : OpenClaim := { program := "ytjnpekhmagamhaa", sum := "da49fb70f551a114c7f183f1c074901b7d6d378dec411e3e5d2688cdc3bd74c7", func := "hayward/haywardlaw01.WordTakes", spec := "wordTakes", unfollowed := true, recurses := true, apart := false, narrowed := true }
def WordTakesUptoSaid : Prop := wordTakesUptoRow.holds Try.pinned (OpenSpec.upto wordTakesSpec)

/-- 'haywardlaw01.WordPuts', WHERE WHAT IT READS IS OF BULK AT MOST 1048576: true; the input reads as it did. -/
def wordPutsUptoRow : OpenClaim := { program := "ytjnpekhmagamhaa", sum := "da49fb70f551a114c7f183f1c074901b7d6d378dec411e3e5d2688cdc3bd74c7", func := "hayward/haywardlaw01.WordPuts", spec := "wordPuts", unfollowed := true, recurses := true, apart := false, narrowed := true }
def WordPutsUptoSaid : Prop := wordPutsUptoRow.holds Try.pinned (OpenSpec.upto wordPutsSpec)

/-- 'haywardlaw01.WordDowns', WHERE WHAT IT READS IS OF BULK AT MOST 1048576: true; the input reads as it did. -/
def wordDownsUptoRow : OpenClaim := { program := "ytjnpekhmagamhaa", sum := "da49fb70f551a114c7f183f1c074901b7d6d378dec411e3e5d2688cdc3bd74c7", func := "hayward/haywardlaw01.WordDowns", spec := "wordDowns", unfollowed := true, recurses := true, apart := false, narrowed := true }
def WordDownsUptoSaid : Prop := wordDownsUptoRow.holds Try.pinned (OpenSpec.upto wordDownsSpec)

/-- 'haywardlaw01.WordUps', WHERE WHAT IT READS IS OF BULK AT MOST 1048576: true; the input reads as it did. -/
def wordUpsUptoRow : OpenClaim := { program := "ytjnpekhmagamhaa", sum := "da49fb70f551a114c7f183f1c074901b7d6d378dec411e3e5d2688cdc3bd74c7", func := "hayward/haywardlaw01.WordUps", spec := "wordUps", unfollowed := true, recurses := true, apart := false, narrowed := true }
def WordUpsUptoSaid : Prop := wordUpsUptoRow.holds Try.pinned (OpenSpec.upto wordUpsSpec)

/-- 'haywardlaw01.WordCounts', WHERE WHAT IT READS IS OF BULK AT MOST 1048576: true; the input reads as it did. -/
def wordCountsUptoRow : OpenClaim := { program := "ytjnpekhmagamhaa", sum := "da49fb70f551a114c7f183f1c074901b7d6d378dec411e3e5d2688cdc3bd74c7", func := "hayward/haywardlaw01.WordCounts", spec := "wordCounts", apart := false, narrowed := true }
def WordCountsUptoSaid : Prop := wordCountsUptoRow.holds Try.pinned (OpenSpec.upto wordCountsSpec)

/-- 'haywardlaw01.WordBack', WHERE WHAT IT READS IS OF BULK AT MOST 1048576: true; the input reads as it did. -/
def wordBackUptoRow : OpenClaim := { program := "ytjnpekhmagamhaa", sum := "da49fb70f551a114c7f183f1c074901b7d6d378dec411e3e5d2688cdc3bd74c7", func := "hayward/haywardlaw01.WordBack", spec := "wordBack", unfollowed := true, recurses := true, apart := false, narrowed := true }
def WordBackUptoSaid : Prop := wordBackUptoRow.holds Try.pinned (OpenSpec.upto wordBackSpec)

/-- 'haywardlaw01.WordParts', WHERE WHAT IT READS IS OF BULK AT MOST 1048576: true; the input reads as it did. -/
def wordPartsUptoRow : OpenClaim := { program := "ytjnpekhmagamhaa", sum := "da49fb70f551a114c7f183f1c074901b7d6d378dec411e3e5d2688cdc3bd74c7", func := "hayward/haywardlaw01.WordParts", spec := "wordParts", unfollowed := true, recurses := true, apart := false, narrowed := true }
def WordPartsUptoSaid : Prop := wordPartsUptoRow.holds Try.pinned (OpenSpec.upto wordPartsSpec)

/-- 'haywardlaw01.WordBetween', WHERE WHAT IT READS IS OF BULK AT MOST 1048576: true; the input reads as it did. -/
def wordBetweenUptoRow : OpenClaim := { program := "ytjnpekhmagamhaa", sum := "da49fb70f551a114c7f183f1c074901b7d6d378dec411e3e5d2688cdc3bd74c7", func := "hayward/haywardlaw01.WordBetween", spec := "wordBetween", unfollowed := true, recurses := true, apart := false, narrowed := true }
def WordBetweenUptoSaid : Prop := wordBetweenUptoRow.holds Try.pinned (OpenSpec.upto wordBetweenSpec)

end Rows
end Go.Proofs.Ytjnpekhmagamhaa

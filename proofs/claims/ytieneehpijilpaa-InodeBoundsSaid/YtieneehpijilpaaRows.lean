/-
  No cell of these rows narrows 'for every input' (looked for: loops, veiled, ifaces, maps, wideKeys, modest, calm, conditions, laid).
  DERIVED. THE GIVEN ROWS OF THIS SEAT. 6 by the template 'for every input the law returns true; each argument reads behind the call as it read before'; 0 by the template 'total and deterministic' (their statements: YtieneehpijilpaaTotals.lean).
  GIVEN WITH THE SEED: the statements are not yours to turn. If you find one false, say at which input.
  Laid BY PROGRAM, IN A SANDBOX (cutbox-rows.mjs): the forced cells as the released guide's own fill.sh prints them over the translation fbe6cbb0efbf7a4f… (all of the seat's roots in one cut). By AI agents, Wed Nov 11 2026. No macro, syntax, notation, axiom, sorry.
-/
import Derived.Test.YtieneehpijilpaaChecked
import GoSem.Claim
import GoSem.ClaimJoined
import GoSem.ClaimMapViews
import Derived.JoinedTies
import Derived.KernelRfl
namespace Go.Proofs.Ytieneehpijilpaa
/- THE CELL 'sum', in the pinned program and in every row, IS THE sha256 OF THE DUMP (.gsa) THAT YtieneehpijilpaaProg.lean LOADS. Nothing in Lean hashes anything: it is a label: what it is worth is what the hold of that sum in a sandbox is worth. -/
noncomputable def Try.pinned : Pinned := { name := "ytieneehpijilpaa", sum := "fbe6cbb0efbf7a4f428317e4d58d2974525286b16456503a5b71816163deb2fb", checked := Try.checked }
namespace Rows
def none {H : Type} : Left H := { results := [], args := [] }

/-- 'haywardlaw11.InodeDoes': WHATEVER THE INPUT: true; the input reads as it did. -/
def inodeDoesSpec : ChangeSpec := { name := "inodeDoes", fn := fun _ => fun
  | [d1, d2] => { results := [.lit (.bool true)], args := [d1, d2] }
  | _ => none }
def inodeDoesRow : OpenClaim := { program := "ytieneehpijilpaa", sum := "fbe6cbb0efbf7a4f428317e4d58d2974525286b16456503a5b71816163deb2fb", func := "hayward/haywardlaw11.InodeDoes", spec := "inodeDoes", unfollowed := true, recurses := true, apart := false }
def InodeDoesSaid : Prop := inodeDoesRow.holds Try.pinned (OpenSpec.ofChange inodeDoesSpec)

/-- ITS FALSE NEIGHBOUR: 'it returns false'. Refute it at one input. -/
def inodeDoesWrong : ChangeSpec := { name := "inodeDoes", fn := fun _ => fun
  | [d1, d2] => { results := [.lit (.bool false)], args := [d1, d2] }
  | _ => none }
def InodeDoesWrongFalsely : Prop := inodeDoesRow.holds Try.pinned (OpenSpec.ofChange inodeDoesWrong)

/-- 'haywardlaw11.InodeBounds': WHATEVER THE INPUT: true; the input reads as it did. -/
def inodeBoundsSpec : ChangeSpec := { name := "inodeBounds", fn := fun _ => fun
  | [d] => { results := [.lit (.bool true)], args := [d] }
  | _ => none }
def inodeBoundsRow : OpenClaim := { program := "ytieneehpijilpaa", sum := "fbe6cbb0efbf7a4f428317e4d58d2974525286b16456503a5b71816163deb2fb", func := "hayward/haywardlaw11.InodeBounds", spec := "inodeBounds", unfollowed := true, recurses := true, apart := false }
def InodeBoundsSaid : Prop := inodeBoundsRow.holds Try.pinned (OpenSpec.ofChange inodeBoundsSpec)

/-- ITS FALSE NEIGHBOUR: 'it returns false'. Refute it at one input. -/
def inodeBoundsWrong : ChangeSpec := { name := "inodeBounds", fn := fun _ => fun
  | [d] => { results := [.lit (.bool false)], args := [d] }
  | _ => none }
def InodeBoundsWrongFalsely : Prop := inodeBoundsRow.holds Try.pinned (OpenSpec.ofChange inodeBoundsWrong)

/-- 'haywardlaw11.InodeIdle': WHATEVER THE INPUT: true; the input reads as it did. -/
def inodeIdleSpec : ChangeSpec := { name := "inodeIdle", fn := fun _ => fun
  | [d] => { results := [.lit (.bool true)], args := [d] }
  | _ => none }
def inodeIdleRow : OpenClaim := { program := "ytieneehpijilpaa", sum := "fbe6cbb0efbf7a4f428317e4d58d2974525286b16456503a5b71816163deb2fb", func := "hayward/haywardlaw11.InodeIdle", spec := "inodeIdle", unfollowed := true, recurses := true, apart := false }
def InodeIdleSaid : Prop := inodeIdleRow.holds Try.pinned (OpenSpec.ofChange inodeIdleSpec)

/-- ITS FALSE NEIGHBOUR: 'it returns false'. Refute it at one input. -/
def inodeIdleWrong : ChangeSpec := { name := "inodeIdle", fn := fun _ => fun
  | [d] => { results := [.lit (.bool false)], args := [d] }
  | _ => none }
def InodeIdleWrongFalsely : Prop := inodeIdleRow.holds Try.pinned (OpenSpec.ofChange inodeIdleWrong)

/-- 'haywardlaw11.InodeBack': WHATEVER THE INPUT: true; the input reads as it did. -/
def inodeBackSpec : ChangeSpec := { name := "inodeBack", fn := fun _ => fun
  | [d1, d2, d3] => { results := [.lit (.bool true)], args := [d1, d2, d3] }
  | _ => none }
def inodeBackRow : OpenClaim := { program := "ytieneehpijilpaa", sum := "fbe6cbb0efbf7a4f428317e4d58d2974525286b16456503a5b71816163deb2fb", func := "hayward/haywardlaw11.InodeBack", spec := "inodeBack", unfollowed := true, recurses := true, apart := false }
def InodeBackSaid : Prop := inodeBackRow.holds Try.pinned (OpenSpec.ofChange inodeBackSpec)

/-- ITS FALSE NEIGHBOUR: 'it returns false'. Refute it at one input. -/
def inodeBackWrong : ChangeSpec := { name := "inodeBack", fn := fun _ => fun
  | [d1, d2, d3] => { results := [.lit (.bool false)], args := [d1, d2, d3] }
  | _ => none }
def InodeBackWrongFalsely : Prop := inodeBackRow.holds Try.pinned (OpenSpec.ofChange inodeBackWrong)

/-- 'haywardlaw11.InodeNone': WHATEVER THE INPUT: true; the input reads as it did. -/
def inodeNoneSpec : ChangeSpec := { name := "inodeNone", fn := fun _ => fun
  | [d1, d2, d3] => { results := [.lit (.bool true)], args := [d1, d2, d3] }
  | _ => none }
def inodeNoneRow : OpenClaim := { program := "ytieneehpijilpaa", sum := "fbe6cbb0efbf7a4f428317e4d58d2974525286b16456503a5b71816163deb2fb", func := "hayward/haywardlaw11.InodeNone", spec := "inodeNone", unfollowed := true, recurses := true, apart := false }
def InodeNoneSaid : Prop := inodeNoneRow.holds Try.pinned (OpenSpec.ofChange inodeNoneSpec)

/-- ITS FALSE NEIGHBOUR: 'it returns false'. Refute it at one input. -/
def inodeNoneWrong : ChangeSpec := { name := "inodeNone", fn := fun _ => fun
  | [d1, d2, d3] => { results := [.lit (.bool false)], args := [d1, d2, d3] }
  | _ => none }
def InodeNoneWrongFalsely : Prop := inodeNoneRow.holds Try.pinned (OpenSpec.ofChange inodeNoneWrong)

/-- 'haywardlaw11.InodeCounts': WHATEVER THE INPUT: true; the input reads as it did. -/
def inodeCountsSpec : ChangeSpec := { name := "inodeCounts", fn := fun _ => fun
  | [d1, d2] => { results := [.lit (.bool true)], args := [d1, d2] }
  | _ => none }
def inodeCountsRow : OpenClaim := { program := "ytieneehpijilpaa", sum := "fbe6cbb0efbf7a4f428317e4d58d2974525286b16456503a5b71816163deb2fb", func := "hayward/haywardlaw11.InodeCounts", spec := "inodeCounts", unfollowed := true, recurses := true, apart := false }
def InodeCountsSaid : Prop := inodeCountsRow.holds Try.pinned (OpenSpec.ofChange inodeCountsSpec)

/-- ITS FALSE NEIGHBOUR: 'it returns false'. Refute it at one input. -/
def inodeCountsWrong : ChangeSpec := { name := "inodeCounts", fn := fun _ => fun
  | [d1, d2] => { results := [.lit (.bool false)], args := [d1, d2] }
  | _ => none }
def InodeCountsWrongFalsely : Prop := inodeCountsRow.holds Try.pinned (OpenSpec.ofChange inodeCountsWrong)

/- THE SECOND FORM. 'bulk': how many values and letters a reading holds, each counted each time it is reached (what is shared counts as often as it is met; a slice's spare places count too). A statement '..UptoSaid' is the law's where the arguments, and the package variables that the reading takes, are together of bulk at most 1048576: NARROWER than '..Said'. Prove '..Said' where nothing that the law and all that it calls make is longer than what came in: it says more and counts as full. Else prove '..UptoSaid'. A law counts once. -/
mutual
def uptoBulk {H : Type} : DataW H → Nat
  | .lit (.string bytes) => bytes.length + 1
  | .lit _ => 1
  | .nil => 1
  | .ptr d => uptoBulk d + 1
  | .slice elems spare => uptoBulkAll elems + uptoBulkAll spare + 1
  | .agg parts => uptoBulkAll parts + 1
  | .iface _ d => uptoBulk d + 1
  | .map entries => uptoBulkEntries entries + 1
  | .held _ => 1
def uptoBulkAll {H : Type} : List (DataW H) → Nat
  | [] => 0
  | d :: r => uptoBulk d + uptoBulkAll r
def uptoBulkEntries {H : Type} : List (Lit × DataW H) → Nat
  | [] => 0
  | x :: r => uptoBulkEntry x + uptoBulkEntries r
def uptoBulkEntry {H : Type} : Lit × DataW H → Nat
  | (.string bytes, d) => bytes.length + uptoBulk d + 1
  | (_, d) => uptoBulk d + 1
 end
def uptoSmall : (H : Type) → List (DataW H) → Bool := fun _ ds => decide (uptoBulkAll ds ≤ 1048576)
def OpenSpec.upto (s : _root_.Go.ChangeSpec) : _root_.Go.OpenSpec := { _root_.Go.OpenSpec.ofChange s with cond := some uptoSmall }

/-- 'haywardlaw11.InodeDoes', WHERE WHAT IT READS IS OF BULK AT MOST 1048576: true; the input reads as it did. -/
def inodeDoesUptoRow : OpenClaim := { program := "ytieneehpijilpaa", sum := "fbe6cbb0efbf7a4f428317e4d58d2974525286b16456503a5b71816163deb2fb", func := "hayward/haywardlaw11.InodeDoes", spec := "inodeDoes", unfollowed := true, recurses := true, apart := false, narrowed := true }
def InodeDoesUptoSaid : Prop := inodeDoesUptoRow.holds Try.pinned (OpenSpec.upto inodeDoesSpec)

/-- 'haywardlaw11.InodeBounds', WHERE WHAT IT READS IS OF BULK AT MOST 1048576: true; the input reads as it did. -/
def inodeBoundsUptoRow : OpenClaim := { program := "ytieneehpijilpaa", sum := "fbe6cbb0efbf7a4f428317e4d58d2974525286b16456503a5b71816163deb2fb", func := "hayward/haywardlaw11.InodeBounds", spec := "inodeBounds", unfollowed := true, recurses := true, apart := false, narrowed := true }
def InodeBoundsUptoSaid : Prop := inodeBoundsUptoRow.holds Try.pinned (OpenSpec.upto inodeBoundsSpec)

/-- 'haywardlaw11.InodeIdle', WHERE WHAT IT READS IS OF BULK AT MOST 1048576: true; the input reads as it did. -/
def inodeIdleUptoRow : OpenClaim := { program := "ytieneehpijilpaa", sum := "fbe6cbb0efbf7a4f428317e4d58d2974525286b16456503a5b71816163deb2fb", func := "hayward/haywardlaw11.InodeIdle", spec := "inodeIdle", unfollowed := true, recurses := true, apart := false, narrowed := true }
def InodeIdleUptoSaid : Prop := inodeIdleUptoRow.holds Try.pinned (OpenSpec.upto inodeIdleSpec)

/-- 'haywardlaw11.InodeBack', WHERE WHAT IT READS IS OF BULK AT MOST 1048576: true; the input reads as it did. -/
def inodeBackUptoRow : OpenClaim := { program := "ytieneehpijilpaa", sum := "fbe6cbb0efbf7a4f428317e4d58d2974525286b16456503a5b71816163deb2fb", func := "hayward/haywardlaw11.InodeBack", spec := "inodeBack", unfollowed := true, recurses := true, apart := false, narrowed := true }
def InodeBackUptoSaid : Prop := inodeBackUptoRow.holds Try.pinned (OpenSpec.upto inodeBackSpec)

/-- 'haywardlaw11.InodeNone', WHERE WHAT IT READS IS OF BULK AT MOST 1048576: true; the input reads as it did. -/
def inodeNoneUptoRow : OpenClaim := { program := "ytieneehpijilpaa", sum := "fbe6cbb0efbf7a4f428317e4d58d2974525286b16456503a5b71816163deb2fb", func := "hayward/haywardlaw11.InodeNone", spec := "inodeNone", unfollowed := true, recurses := true, apart := false, narrowed := true }
def InodeNoneUptoSaid : Prop := inodeNoneUptoRow.holds Try.pinned (OpenSpec.upto inodeNoneSpec)

/-- 'haywardlaw11.InodeCounts', WHERE WHAT IT READS IS OF BULK AT MOST 1048576: true; the input reads as it did. -/
def inodeCountsUptoRow : OpenClaim := { program := "ytieneehpijilpaa", sum := "fbe6cbb0efbf7a4f428317e4d58d2974525286b16456503a5b71816163deb2fb", func := "hayward/haywardlaw11.InodeCounts", spec := "inodeCounts", unfollowed := true, recurses := true, apart := false, narrowed := true }
def InodeCountsUptoSaid : Prop := inodeCountsUptoRow.holds Try.pinned (OpenSpec.upto inodeCountsSpec)

end Rows
end Go.Proofs.Ytieneehpijilpaa

/-
  No cell of these rows narrows 'for every input' (looked for: loops, veiled, ifaces, maps, wideKeys, modest, calm, conditions, laid).
  DERIVED. THE GIVEN ROWS OF THIS SEAT. 4 by the template 'for every input the law returns true; each argument reads behind the call as it read before'; 0 by the template 'total and deterministic' (their statements: YtfbhcnamkojboaaTotals.lean).
  GIVEN WITH THE SEED: the statements are not yours to turn. If you find one false, say at which input.
  Laid BY PROGRAM, IN A SANDBOX (cutbox-rows.mjs): the forced cells as the released guide's own fill.sh prints them over the translation d6399708e1ba467a… (all of the seat's roots in one cut). By AI agents, Wed Nov 11 2026. No macro, syntax, notation, axiom, sorry.
-/
import Derived.Test.YtfbhcnamkojboaaChecked
import GoSem.Claim
import GoSem.ClaimJoined
import GoSem.ClaimMapViews
import Derived.JoinedTies
import Derived.KernelRfl
namespace Go.Proofs.Ytfbhcnamkojboaa
/- THE CELL 'sum', in the pinned program and in every row, IS THE sha256 OF THE DUMP (.gsa) THAT YtfbhcnamkojboaaProg.lean LOADS. Nothing in Lean hashes anything: it is a label: what it is worth is what the hold of that sum in a sandbox is worth. -/
noncomputable def Try.pinned : Pinned := { name := "ytfbhcnamkojboaa", sum := "d6399708e1ba467ab44ff2659fae71d0912a379fe07e006c146e4b0b5ed8f236", checked := Try.checked }
namespace Rows
def none {H : Type} : Left H := { results := [], args := [] }

/-- 'haywardlaw09.RegionAdds': WHATEVER THE INPUT: true; the input reads as it did. -/
def regionAddsSpec : ChangeSpec := { name := "regionAdds", fn := fun _ => fun
  | [d1, d2] => { results := [.lit (.bool true)], args := [d1, d2] }
  | _ => none }
def regionAddsRow : OpenClaim := { program := "ytfbhcnamkojboaa", sum := "d6399708e1ba467ab44ff2659fae71d0912a379fe07e006c146e4b0b5ed8f236", func := "hayward/haywardlaw09.RegionAdds", spec := "regionAdds", unfollowed := true, recurses := true, apart := false }
def RegionAddsSaid : Prop := regionAddsRow.holds Try.pinned (OpenSpec.ofChange regionAddsSpec)

/-- ITS FALSE NEIGHBOUR: 'it returns false'. Refute it at one input. -/
def regionAddsWrong : ChangeSpec := { name := "regionAdds", fn := fun _ => fun
  | [d1, d2] => { results := [.lit (.bool false)], args := [d1, d2] }
  | _ => none }
def RegionAddsWrongFalsely : Prop := regionAddsRow.holds Try.pinned (OpenSpec.ofChange regionAddsWrong)

/-- 'haywardlaw09.RegionCuts': WHATEVER THE INPUT: true; the input reads as it did. -/
def regionCutsSpec : ChangeSpec := { name := "regionCuts", fn := fun _ => fun
  | [d1, d2, d3] => { results := [.lit (.bool true)], args := [d1, d2, d3] }
  | _ => none }
def regionCutsRow : OpenClaim := { program := "ytfbhcnamkojboaa", sum := "d6399708e1ba467ab44ff2659fae71d0912a379fe07e006c146e4b0b5ed8f236", func := "hayward/haywardlaw09.RegionCuts", spec := "regionCuts", unfollowed := true, recurses := true, apart := false }
def RegionCutsSaid : Prop := regionCutsRow.holds Try.pinned (OpenSpec.ofChange regionCutsSpec)

/-- ITS FALSE NEIGHBOUR: 'it returns false'. Refute it at one input. -/
def regionCutsWrong : ChangeSpec := { name := "regionCuts", fn := fun _ => fun
  | [d1, d2, d3] => { results := [.lit (.bool false)], args := [d1, d2, d3] }
  | _ => none }
def RegionCutsWrongFalsely : Prop := regionCutsRow.holds Try.pinned (OpenSpec.ofChange regionCutsWrong)

/-- 'haywardlaw09.RegionProtects': WHATEVER THE INPUT: true; the input reads as it did. -/
def regionProtectsSpec : ChangeSpec := { name := "regionProtects", fn := fun _ => fun
  | [d1, d2, d3, d4] => { results := [.lit (.bool true)], args := [d1, d2, d3, d4] }
  | _ => none }
def regionProtectsRow : OpenClaim := { program := "ytfbhcnamkojboaa", sum := "d6399708e1ba467ab44ff2659fae71d0912a379fe07e006c146e4b0b5ed8f236", func := "hayward/haywardlaw09.RegionProtects", spec := "regionProtects", unfollowed := true, recurses := true, apart := false }
def RegionProtectsSaid : Prop := regionProtectsRow.holds Try.pinned (OpenSpec.ofChange regionProtectsSpec)

/-- ITS FALSE NEIGHBOUR: 'it returns false'. Refute it at one input. -/
def regionProtectsWrong : ChangeSpec := { name := "regionProtects", fn := fun _ => fun
  | [d1, d2, d3, d4] => { results := [.lit (.bool false)], args := [d1, d2, d3, d4] }
  | _ => none }
def RegionProtectsWrongFalsely : Prop := regionProtectsRow.holds Try.pinned (OpenSpec.ofChange regionProtectsWrong)

/-- 'haywardlaw09.RegionGaps': WHATEVER THE INPUT: true; the input reads as it did. -/
def regionGapsSpec : ChangeSpec := { name := "regionGaps", fn := fun _ => fun
  | [d1, d2, d3, d4, d5] => { results := [.lit (.bool true)], args := [d1, d2, d3, d4, d5] }
  | _ => none }
def regionGapsRow : OpenClaim := { program := "ytfbhcnamkojboaa", sum := "d6399708e1ba467ab44ff2659fae71d0912a379fe07e006c146e4b0b5ed8f236", func := "hayward/haywardlaw09.RegionGaps", spec := "regionGaps", unfollowed := true, recurses := true, apart := false }
def RegionGapsSaid : Prop := regionGapsRow.holds Try.pinned (OpenSpec.ofChange regionGapsSpec)

/-- ITS FALSE NEIGHBOUR: 'it returns false'. Refute it at one input. -/
def regionGapsWrong : ChangeSpec := { name := "regionGaps", fn := fun _ => fun
  | [d1, d2, d3, d4, d5] => { results := [.lit (.bool false)], args := [d1, d2, d3, d4, d5] }
  | _ => none }
def RegionGapsWrongFalsely : Prop := regionGapsRow.holds Try.pinned (OpenSpec.ofChange regionGapsWrong)

/- THE SECOND FORM. 'bulk': how many values and letters a reading holds, each counted each time it is reached (what is shared counts as often as it is met; a slice's spare places count too). A statement '..UptoSaid' is the law's where the arguments, and the package variables that the reading takes, are together of bulk at most 1048576: NARROWER than '..Said'. Prove '..Said' where nothing that the law and all that it calls make is longer than what came in: it says more and counts as full. Else prove '..UptoSaid'. A law counts once. -/
mutual
def uptoBulk {H : Type} : DataW H → Nat
  | .lit (.string bytes) => bytes.length + 1
  | .lit _ => 1
  | .nil => 1
  | .ptr d => uptoBulk d + 1
  | .slice elems spare => uptoBulkAll elems + uptoBulkAll spare + 1
  | .agg parts => uptoBulkAll parts + 1
  | .iface _ d => uptoBulk d + 1
  | .map entries => uptoBulkEntries entries + 1
  | .held _ => 1
def uptoBulkAll {H : Type} : List (DataW H) → Nat
  | [] => 0
  | d :: r => uptoBulk d + uptoBulkAll r
def uptoBulkEntries {H : Type} : List (Lit × DataW H) → Nat
  | [] => 0
  | x :: r => uptoBulkEntry x + uptoBulkEntries r
def uptoBulkEntry {H : Type} : Lit × DataW H → Nat
  | (.string bytes, d) => bytes.length + uptoBulk d + 1
  | (_, d) => uptoBulk d + 1
 end
def uptoSmall : (H : Type) → List (DataW H) → Bool := fun _ ds => decide (uptoBulkAll ds ≤ 1048576)
def OpenSpec.upto (s : _root_.Go.ChangeSpec) : _root_.Go.OpenSpec := { _root_.Go.OpenSpec.ofChange s with cond := some uptoSmall }

/-- 'haywardlaw09.RegionAdds', WHERE WHAT IT READS IS OF BULK AT MOST 1048576: true; the input reads as it did. -/
def regionAddsUptoRow : OpenClaim := { program := "ytfbhcnamkojboaa", sum := "d6399708e1ba467ab44ff2659fae71d0912a379fe07e006c146e4b0b5ed8f236", func := "hayward/haywardlaw09.RegionAdds", spec := "regionAdds", unfollowed := true, recurses := true, apart := false, narrowed := true }
def RegionAddsUptoSaid : Prop := regionAddsUptoRow.holds Try.pinned (OpenSpec.upto regionAddsSpec)

/-- 'haywardlaw09.RegionCuts', WHERE WHAT IT READS IS OF BULK AT MOST 1048576: true; the input reads as it did. -/
def regionCutsUptoRow : OpenClaim := { program := "ytfbhcnamkojboaa", sum := "d6399708e1ba467ab44ff2659fae71d0912a379fe07e006c146e4b0b5ed8f236", func := "hayward/haywardlaw09.RegionCuts", spec := "regionCuts", unfollowed := true, recurses := true, apart := false, narrowed := true }
def RegionCutsUptoSaid : Prop := regionCutsUptoRow.holds Try.pinned (OpenSpec.upto regionCutsSpec)

/-- 'haywardlaw09.RegionProtects', WHERE WHAT IT READS IS OF BULK AT MOST 1048576: true; the input reads as it did. -/
def regionProtectsUptoRow : OpenClaim := { program := "ytfbhcnamkojboaa", sum := "d6399708e1ba467ab44ff2659fae71d0912a379fe07e006c146e4b0b5ed8f236", func := "hayward/haywardlaw09.RegionProtects", spec := "regionProtects", unfollowed := true, recurses := true, apart := false, narrowed := true }
def RegionProtectsUptoSaid : Prop := regionProtectsUptoRow.holds Try.pinned (OpenSpec.upto regionProtectsSpec)

/-- 'haywardlaw09.RegionGaps', WHERE WHAT IT READS IS OF BULK AT MOST 1048576: true; the input reads as it did. -/
def regionGapsUptoRow : OpenClaim := { program := "ytfbhcnamkojboaa", sum := "d6399708e1ba467ab44ff2659fae71d0912a379fe07e006c146e4b0b5ed8f236", func := "hayward/haywardlaw09.RegionGaps", spec := "regionGaps", unfollowed := true, recurses := true, apart := false, narrowed := true }
def RegionGapsUptoSaid : Prop := regionGapsUptoRow.holds Try.pinned (OpenSpec.upto regionGapsSpec)

end Rows
end Go.Proofs.Ytfbhcnamkojboaa

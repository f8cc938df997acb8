/-
  No cell of these rows narrows 'for every input' (looked for: loops, veiled, ifaces, maps, wideKeys, modest, calm, conditions, laid).
  DERIVED. THE GIVEN ROWS OF THIS SEAT. 11 by the template 'for every input the law returns true; each argument reads behind the call as it read before'; 0 by the template 'total and deterministic' (their statements: YtpeidcjpkgcajaaTotals.lean).
  GIVEN WITH THE SEED: the statements are not yours to turn. If you find one false, say at which input.
  Laid BY PROGRAM, IN A SANDBOX (cutbox-rows.mjs): the forced cells as the released guide's own fill.sh prints them over the translation b745100b91f59d16… (all of the seat's roots in one cut). By AI agents, Wed Nov 11 2026. No macro, syntax, notation, axiom, sorry.
-/
import Derived.Test.YtpeidcjpkgcajaaChecked
import GoSem.Claim
import GoSem.ClaimJoined
import GoSem.ClaimMapViews
import Derived.JoinedTies
import Derived.KernelRfl
namespace Go.Proofs.Ytpeidcjpkgcajaa
/- THE CELL 'sum', in the pinned program and in every row, IS THE sha256 OF THE DUMP (.gsa) THAT YtpeidcjpkgcajaaProg.lean LOADS. Nothing in Lean hashes anything: it is a label: what it is worth is what the hold of that sum in a sandbox is worth. -/
noncomputable def Try.pinned : Pinned := { name := "ytpeidcjpkgcajaa", sum := "b745100b91f59d16f594c7cede5d4aad2d81b28b2aff1cd60a4e56e4eb2fba5d", checked := Try.checked }
namespace Rows
def none {H : Type} : Left H := { results := [], args := [] }

/-- 'haywardlaw03.ShareClasses': WHATEVER THE INPUT: true; the input reads as it did. -/
def shareClassesSpec : ChangeSpec := { name := "shareClasses", fn := fun _ => fun
  | [d1, d2] => { results := [.lit (.bool true)], args := [d1, d2] }
  | _ => none }
def shareClassesRow : OpenClaim := { program := "ytpeidcjpkgcajaa", sum := "b745100b91f59d16f594c7cede5d4aad2d81b28b2aff1cd60a4e56e4eb2fba5d", func := "hayward/haywardlaw03.ShareClasses", spec := "shareClasses", inPlace := ["math.Float64frombits", "math.Float64bits"], apart := false }
def ShareClassesSaid : Prop := shareClassesRow.holds Try.pinned (OpenSpec.ofChange shareClassesSpec)

/-- ITS FALSE NEIGHBOUR: 'it returns false'. Refute it at one input. -/
def shareClassesWrong : ChangeSpec := { name := "shareClasses", fn := fun _ => fun
  | [d1, d2] => { results := [.lit (.bool false)], args := [d1, d2] }
  | _ => none }
def ShareClassesWrongFalsely : Prop := shareClassesRow.holds Try.pinned (OpenSpec.ofChange shareClassesWrong)

/-- 'haywardlaw03.ShareClamps': WHATEVER THE INPUT: true; the input reads as it did. -/
def shareClampsSpec : ChangeSpec := { name := "shareClamps", fn := fun _ => fun
  | [d1, d2, d3] => { results := [.lit (.bool true)], args := [d1, d2, d3] }
  | _ => none }
def shareClampsRow : OpenClaim := { program := "ytpeidcjpkgcajaa", sum := "b745100b91f59d16f594c7cede5d4aad2d81b28b2aff1cd60a4e56e4eb2fba5d", func := "hayward/haywardlaw03.ShareClamps", spec := "shareClamps", inPlace := ["math.Float64frombits", "math.Float64bits"], apart := false }
def ShareClampsSaid : Prop := shareClampsRow.holds Try.pinned (OpenSpec.ofChange shareClampsSpec)

/-- ITS FALSE NEIGHBOUR: 'it returns false'. Refute it at one input. -/
def shareClampsWrong : ChangeSpec := { name := "shareClamps", fn := fun _ => fun
  | [d1, d2, d3] => { results := [.lit (.bool false)], args := [d1, d2, d3] }
  | _ => none }
def ShareClampsWrongFalsely : Prop := shareClampsRow.holds Try.pinned (OpenSpec.ofChange shareClampsWrong)

/-- 'haywardlaw03.ShareDecays': WHATEVER THE INPUT: true; the input reads as it did. -/
def shareDecaysSpec : ChangeSpec := { name := "shareDecays", fn := fun _ => fun
  | [d1, d2, d3] => { results := [.lit (.bool true)], args := [d1, d2, d3] }
  | _ => none }
def shareDecaysRow : OpenClaim := { program := "ytpeidcjpkgcajaa", sum := "b745100b91f59d16f594c7cede5d4aad2d81b28b2aff1cd60a4e56e4eb2fba5d", func := "hayward/haywardlaw03.ShareDecays", spec := "shareDecays", inPlace := ["math.Float64frombits", "math.Float64bits"], apart := false }
def ShareDecaysSaid : Prop := shareDecaysRow.holds Try.pinned (OpenSpec.ofChange shareDecaysSpec)

/-- ITS FALSE NEIGHBOUR: 'it returns false'. Refute it at one input. -/
def shareDecaysWrong : ChangeSpec := { name := "shareDecays", fn := fun _ => fun
  | [d1, d2, d3] => { results := [.lit (.bool false)], args := [d1, d2, d3] }
  | _ => none }
def ShareDecaysWrongFalsely : Prop := shareDecaysRow.holds Try.pinned (OpenSpec.ofChange shareDecaysWrong)

/-- 'haywardlaw03.ShareWeights': WHATEVER THE INPUT: true; the input reads as it did. -/
def shareWeightsSpec : ChangeSpec := { name := "shareWeights", fn := fun _ => fun
  | [d] => { results := [.lit (.bool true)], args := [d] }
  | _ => none }
def shareWeightsRow : OpenClaim := { program := "ytpeidcjpkgcajaa", sum := "b745100b91f59d16f594c7cede5d4aad2d81b28b2aff1cd60a4e56e4eb2fba5d", func := "hayward/haywardlaw03.ShareWeights", spec := "shareWeights", inPlace := ["math.Float64bits"], apart := false }
def ShareWeightsSaid : Prop := shareWeightsRow.holds Try.pinned (OpenSpec.ofChange shareWeightsSpec)

/-- ITS FALSE NEIGHBOUR: 'it returns false'. Refute it at one input. -/
def shareWeightsWrong : ChangeSpec := { name := "shareWeights", fn := fun _ => fun
  | [d] => { results := [.lit (.bool false)], args := [d] }
  | _ => none }
def ShareWeightsWrongFalsely : Prop := shareWeightsRow.holds Try.pinned (OpenSpec.ofChange shareWeightsWrong)

/-- 'haywardlaw03.ShareParts': WHATEVER THE INPUT: true; the input reads as it did. -/
def sharePartsSpec : ChangeSpec := { name := "shareParts", fn := fun _ => fun
  | [d1, d2] => { results := [.lit (.bool true)], args := [d1, d2] }
  | _ => none }
def sharePartsRow : OpenClaim := { program := "ytpeidcjpkgcajaa", sum := "b745100b91f59d16f594c7cede5d4aad2d81b28b2aff1cd60a4e56e4eb2fba5d", func := "hayward/haywardlaw03.ShareParts", spec := "shareParts", inPlace := ["math.Float64frombits", "math.Float64bits"], apart := false }
def SharePartsSaid : Prop := sharePartsRow.holds Try.pinned (OpenSpec.ofChange sharePartsSpec)

/-- ITS FALSE NEIGHBOUR: 'it returns false'. Refute it at one input. -/
def sharePartsWrong : ChangeSpec := { name := "shareParts", fn := fun _ => fun
  | [d1, d2] => { results := [.lit (.bool false)], args := [d1, d2] }
  | _ => none }
def SharePartsWrongFalsely : Prop := sharePartsRow.holds Try.pinned (OpenSpec.ofChange sharePartsWrong)

/-- 'haywardlaw03.ShareChooses': WHATEVER THE INPUT: true; the input reads as it did. -/
def shareChoosesSpec : ChangeSpec := { name := "shareChooses", fn := fun _ => fun
  | [d1, d2] => { results := [.lit (.bool true)], args := [d1, d2] }
  | _ => none }
def shareChoosesRow : OpenClaim := { program := "ytpeidcjpkgcajaa", sum := "b745100b91f59d16f594c7cede5d4aad2d81b28b2aff1cd60a4e56e4eb2fba5d", func := "hayward/haywardlaw03.ShareChooses", spec := "shareChooses", inPlace := ["math.Float64frombits", "math.Float64bits"], apart := false }
def ShareChoosesSaid : Prop := shareChoosesRow.holds Try.pinned (OpenSpec.ofChange shareChoosesSpec)

/-- ITS FALSE NEIGHBOUR: 'it returns false'. Refute it at one input. -/
def shareChoosesWrong : ChangeSpec := { name := "shareChooses", fn := fun _ => fun
  | [d1, d2] => { results := [.lit (.bool false)], args := [d1, d2] }
  | _ => none }
def ShareChoosesWrongFalsely : Prop := shareChoosesRow.holds Try.pinned (OpenSpec.ofChange shareChoosesWrong)

/-- 'haywardlaw03.ShareOrders': WHATEVER THE INPUT: true; the input reads as it did. -/
def shareOrdersSpec : ChangeSpec := { name := "shareOrders", fn := fun _ => fun
  | [d1, d2, d3] => { results := [.lit (.bool true)], args := [d1, d2, d3] }
  | _ => none }
def shareOrdersRow : OpenClaim := { program := "ytpeidcjpkgcajaa", sum := "b745100b91f59d16f594c7cede5d4aad2d81b28b2aff1cd60a4e56e4eb2fba5d", func := "hayward/haywardlaw03.ShareOrders", spec := "shareOrders", inPlace := ["math.Float64frombits"], apart := false }
def ShareOrdersSaid : Prop := shareOrdersRow.holds Try.pinned (OpenSpec.ofChange shareOrdersSpec)

/-- ITS FALSE NEIGHBOUR: 'it returns false'. Refute it at one input. -/
def shareOrdersWrong : ChangeSpec := { name := "shareOrders", fn := fun _ => fun
  | [d1, d2, d3] => { results := [.lit (.bool false)], args := [d1, d2, d3] }
  | _ => none }
def ShareOrdersWrongFalsely : Prop := shareOrdersRow.holds Try.pinned (OpenSpec.ofChange shareOrdersWrong)

/-- 'haywardlaw03.ShareRises': WHATEVER THE INPUT: true; the input reads as it did. -/
def shareRisesSpec : ChangeSpec := { name := "shareRises", fn := fun _ => fun
  | [d1, d2, d3] => { results := [.lit (.bool true)], args := [d1, d2, d3] }
  | _ => none }
def shareRisesRow : OpenClaim := { program := "ytpeidcjpkgcajaa", sum := "b745100b91f59d16f594c7cede5d4aad2d81b28b2aff1cd60a4e56e4eb2fba5d", func := "hayward/haywardlaw03.ShareRises", spec := "shareRises", inPlace := ["math.Float64frombits"], apart := false }
def ShareRisesSaid : Prop := shareRisesRow.holds Try.pinned (OpenSpec.ofChange shareRisesSpec)

/-- ITS FALSE NEIGHBOUR: 'it returns false'. Refute it at one input. -/
def shareRisesWrong : ChangeSpec := { name := "shareRises", fn := fun _ => fun
  | [d1, d2, d3] => { results := [.lit (.bool false)], args := [d1, d2, d3] }
  | _ => none }
def ShareRisesWrongFalsely : Prop := shareRisesRow.holds Try.pinned (OpenSpec.ofChange shareRisesWrong)

/-- 'haywardlaw03.ShareAgain': WHATEVER THE INPUT: true; the input reads as it did. -/
def shareAgainSpec : ChangeSpec := { name := "shareAgain", fn := fun _ => fun
  | [d1, d2, d3, d4] => { results := [.lit (.bool true)], args := [d1, d2, d3, d4] }
  | _ => none }
def shareAgainRow : OpenClaim := { program := "ytpeidcjpkgcajaa", sum := "b745100b91f59d16f594c7cede5d4aad2d81b28b2aff1cd60a4e56e4eb2fba5d", func := "hayward/haywardlaw03.ShareAgain", spec := "shareAgain", inPlace := ["math.Float64frombits", "math.Float64bits"], apart := false }
def ShareAgainSaid : Prop := shareAgainRow.holds Try.pinned (OpenSpec.ofChange shareAgainSpec)

/-- ITS FALSE NEIGHBOUR: 'it returns false'. Refute it at one input. -/
def shareAgainWrong : ChangeSpec := { name := "shareAgain", fn := fun _ => fun
  | [d1, d2, d3, d4] => { results := [.lit (.bool false)], args := [d1, d2, d3, d4] }
  | _ => none }
def ShareAgainWrongFalsely : Prop := shareAgainRow.holds Try.pinned (OpenSpec.ofChange shareAgainWrong)

/-- 'haywardlaw03.ShareFalls': WHATEVER THE INPUT: true; the input reads as it did. -/
def shareFallsSpec : ChangeSpec := { name := "shareFalls", fn := fun _ => fun
  | [d1, d2] => { results := [.lit (.bool true)], args := [d1, d2] }
  | _ => none }
def shareFallsRow : OpenClaim := { program := "ytpeidcjpkgcajaa", sum := "b745100b91f59d16f594c7cede5d4aad2d81b28b2aff1cd60a4e56e4eb2fba5d", func := "hayward/haywardlaw03.ShareFalls", spec := "shareFalls", apart := false }
def ShareFallsSaid : Prop := shareFallsRow.holds Try.pinned (OpenSpec.ofChange shareFallsSpec)

/-- ITS FALSE NEIGHBOUR: 'it returns false'. Refute it at one input. -/
def shareFallsWrong : ChangeSpec := { name := "shareFalls", fn := fun _ => fun
  | [d1, d2] => { results := [.lit (.bool false)], args := [d1, d2] }
  | _ => none }
def ShareFallsWrongFalsely : Prop := shareFallsRow.holds Try.pinned (OpenSpec.ofChange shareFallsWrong)

/-- 'haywardlaw03.ShareAll': WHATEVER THE INPUT: true; the input reads as it did. -/
def shareAllSpec : ChangeSpec := { name := "shareAll", fn := fun _ => fun
  | [d1, d2] => { results := [.lit (.bool true)], args := [d1, d2] }
  | _ => none }
def shareAllRow : OpenClaim := { program := "ytpeidcjpkgcajaa", sum := "b745100b91f59d16f594c7cede5d4aad2d81b28b2aff1cd60a4e56e4eb2fba5d", func := "hayward/haywardlaw03.ShareAll", spec := "shareAll", apart := false }
def ShareAllSaid : Prop := shareAllRow.holds Try.pinned (OpenSpec.ofChange shareAllSpec)

/-- ITS FALSE NEIGHBOUR: 'it returns false'. Refute it at one input. -/
def shareAllWrong : ChangeSpec := { name := "shareAll", fn := fun _ => fun
  | [d1, d2] => { results := [.lit (.bool false)], args := [d1, d2] }
  | _ => none }
def ShareAllWrongFalsely : Prop := shareAllRow.holds Try.pinned (OpenSpec.ofChange shareAllWrong)

/- THE SECOND FORM. 'bulk': how many values and letters a reading holds, each counted each time it is reached (what is shared counts as often as it is met; a slice's spare places count too). A statement '..UptoSaid' is the law's where the arguments, and the package variables that the reading takes, are together of bulk at most 1048576: NARROWER than '..Said'. Prove '..Said' where nothing that the law and all that it calls make is longer than what came in: it says more and counts as full. Else prove '..UptoSaid'. A law counts once. -/
mutual
def uptoBulk {H : Type} : DataW H → Nat
  | .lit (.string bytes) => bytes.length + 1
  | .lit _ => 1
  | .nil => 1
  | .ptr d => uptoBulk d + 1
  | .slice elems spare => uptoBulkAll elems + uptoBulkAll spare + 1
  | .agg parts => uptoBulkAll parts + 1
  | .iface _ d => uptoBulk d + 1
  | .map entries => uptoBulkEntries entries + 1
  | .held _ => 1
def uptoBulkAll {H : Type} : List (DataW H) → Nat
  | [] => 0
  | d :: r => uptoBulk d + uptoBulkAll r
def uptoBulkEntries {H : Type} : List (Lit × DataW H) → Nat
  | [] => 0
  | x :: r => uptoBulkEntry x + uptoBulkEntries r
def uptoBulkEntry {H : Type} : Lit × DataW H → Nat
  | (.string bytes, d) => bytes.length + uptoBulk d + 1
  | (_, d) => uptoBulk d + 1
 end
def uptoSmall : (H : Type) → List (DataW H) → Bool := fun _ ds => decide (uptoBulkAll ds ≤ 1048576)
def OpenSpec.upto (s : _root_.Go.ChangeSpec) : _root_.Go.OpenSpec := { _root_.Go.OpenSpec.ofChange s with cond := some uptoSmall }

/-- 'haywardlaw03.ShareClasses', WHERE WHAT IT READS IS OF BULK AT MOST 1048576: true; the input reads as it did. -/
def shareClassesUptoRow : OpenClaim := { program := "ytpeidcjpkgcajaa", sum := "b745100b91f59d16f594c7cede5d4aad2d81b28b2aff1cd60a4e56e4eb2fba5d", func := "hayward/haywardlaw03.ShareClasses", spec := "shareClasses", inPlace := ["math.Float64frombits", "math.Float64bits"], apart := false, narrowed := true }
def ShareClassesUptoSaid : Prop := shareClassesUptoRow.holds Try.pinned (OpenSpec.upto shareClassesSpec)

/-- 'haywardlaw03.ShareClamps', WHERE WHAT IT READS IS OF BULK AT MOST 1048576: true; the input reads as it did. -/
def shareClampsUptoRow : OpenClaim := { program := "ytpeidcjpkgcajaa", sum := "b745100b91f59d16f594c7cede5d4aad2d81b28b2aff1cd60a4e56e4eb2fba5d", func := "hayward/haywardlaw03.ShareClamps", spec := "shareClamps", inPlace := ["math.Float64frombits", "math.Float64bits"], apart := false, narrowed := true }
def ShareClampsUptoSaid : Prop := shareClampsUptoRow.holds Try.pinned (OpenSpec.upto shareClampsSpec)

/-- 'haywardlaw03.ShareDecays', WHERE WHAT IT READS IS OF BULK AT MOST 1048576: true; the input reads as it did. -/
def shareDecaysUptoRow : OpenClaim := { program := "ytpeidcjpkgcajaa", sum := "b745100b91f59d16f594c7cede5d4aad2d81b28b2aff1cd60a4e56e4eb2fba5d", func := "hayward/haywardlaw03.ShareDecays", spec := "shareDecays", inPlace := ["math.Float64frombits", "math.Float64bits"], apart := false, narrowed := true }
def ShareDecaysUptoSaid : Prop := shareDecaysUptoRow.holds Try.pinned (OpenSpec.upto shareDecaysSpec)

/-- 'haywardlaw03.ShareWeights', WHERE WHAT IT READS IS OF BULK AT MOST 1048576: true; the input reads as it did. -/
def shareWeightsUptoRow : OpenClaim := { program := "ytpeidcjpkgcajaa", sum := "b745100b91f59d16f594c7cede5d4aad2d81b28b2aff1cd60a4e56e4eb2fba5d", func := "hayward/haywardlaw03.ShareWeights", spec := "shareWeights", inPlace := ["math.Float64bits"], apart := false, narrowed := true }
def ShareWeightsUptoSaid : Prop := shareWeightsUptoRow.holds Try.pinned (OpenSpec.upto shareWeightsSpec)

/-- 'haywardlaw03.ShareParts', WHERE WHAT IT READS IS OF BULK AT MOST 1048576: true; the input reads as it did. -/
def sharePartsUptoRow : OpenClaim := { program := "ytpeidcjpkgcajaa", sum := "b745100b91f59d16f594c7cede5d4aad2d81b28b2aff1cd60a4e56e4eb2fba5d", func := "hayward/haywardlaw03.ShareParts", spec := "shareParts", inPlace := ["math.Float64frombits", "math.Float64bits"], apart := false, narrowed := true }
def SharePartsUptoSaid : Prop := sharePartsUptoRow.holds Try.pinned (OpenSpec.upto sharePartsSpec)

/-- 'haywardlaw03.ShareChooses', WHERE WHAT IT READS IS OF BULK AT MOST 1048576: true; the input reads as it did. -/
def shareChoosesUptoRow : OpenClaim := { program := "ytpeidcjpkgcajaa", sum := "b745100b91f59d16f594c7cede5d4aad2d81b28b2aff1cd60a4e56e4eb2fba5d", func := "hayward/haywardlaw03.ShareChooses", spec := "shareChooses", inPlace := ["math.Float64frombits", "math.Float64bits"], apart := false, narrowed := true }
def ShareChoosesUptoSaid : Prop := shareChoosesUptoRow.holds Try.pinned (OpenSpec.upto shareChoosesSpec)

/-- 'haywardlaw03.ShareOrders', WHERE WHAT IT READS IS OF BULK AT MOST 1048576: true; the input reads as it did. -/
def shareOrdersUptoRow : OpenClaim := { program := "ytpeidcjpkgcajaa", sum := "b745100b91f59d16f594c7cede5d4aad2d81b28b2aff1cd60a4e56e4eb2fba5d", func := "hayward/haywardlaw03.ShareOrders", spec := "shareOrders", inPlace := ["math.Float64frombits"], apart := false, narrowed := true }
def ShareOrdersUptoSaid : Prop := shareOrdersUptoRow.holds Try.pinned (OpenSpec.upto shareOrdersSpec)

/-- 'haywardlaw03.ShareRises', WHERE WHAT IT READS IS OF BULK AT MOST 1048576: true; the input reads as it did. -/
def shareRisesUptoRow : OpenClaim := { program := "ytpeidcjpkgcajaa", sum := "b745100b91f59d16f594c7cede5d4aad2d81b28b2aff1cd60a4e56e4eb2fba5d", func := "hayward/haywardlaw03.ShareRises", spec := "shareRises", inPlace := ["math.Float64frombits"], apart := false, narrowed := true }
def ShareRisesUptoSaid : Prop := shareRisesUptoRow.holds Try.pinned (OpenSpec.upto shareRisesSpec)

/-- 'haywardlaw03.ShareAgain', WHERE WHAT IT READS IS OF BULK AT MOST 1048576: true; the input reads as it did. -/
def shareAgainUptoRow : OpenClaim := { program := "ytpeidcjpkgcajaa", sum := "b745100b91f59d16f594c7cede5d4aad2d81b28b2aff1cd60a4e56e4eb2fba5d", func := "hayward/haywardlaw03.ShareAgain", spec := "shareAgain", inPlace := ["math.Float64frombits", "math.Float64bits"], apart := false, narrowed := true }
def ShareAgainUptoSaid : Prop := shareAgainUptoRow.holds Try.pinned (OpenSpec.upto shareAgainSpec)

/-- 'haywardlaw03.ShareFalls', WHERE WHAT IT READS IS OF BULK AT MOST 1048576: true; the input reads as it did. -/
def shareFallsUptoRow : OpenClaim := { program := "ytpeidcjpkgcajaa", sum := "b745100b91f59d16f594c7cede5d4aad2d81b28b2aff1cd60a4e56e4eb2fba5d", func := "hayward/haywardlaw03.ShareFalls", spec := "shareFalls", apart := false, narrowed := true }
def ShareFallsUptoSaid : Prop := shareFallsUptoRow.holds Try.pinned (OpenSpec.upto shareFallsSpec)

/-- 'haywardlaw03.ShareAll', WHERE WHAT IT READS IS OF BULK AT MOST 1048576: true; the input reads as it did. -/
def shareAllUptoRow : OpenClaim := { program := "ytpeidcjpkgcajaa", sum := "b745100b91f59d16f594c7cede5d4aad2d81b28b2aff1cd60a4e56e4eb2fba5d", func := "hayward/haywardlaw03.ShareAll", spec := "shareAll", apart := false, narrowed := true }
def ShareAllUptoSaid : Prop := shareAllUptoRow.holds Try.pinned (OpenSpec.upto shareAllSpec)

end Rows
end Go.Proofs.Ytpeidcjpkgcajaa

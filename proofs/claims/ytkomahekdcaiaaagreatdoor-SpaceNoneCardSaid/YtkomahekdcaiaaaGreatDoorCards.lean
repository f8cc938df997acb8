/-
  DERIVED. GIVEN WITH THE SEED: THE CARDS: each row of YtkomahekdcaiaaaGreatDoorRows.lean that lists a variable, with what it lists TIED to the program's text (the seventh form; the later family's looks); each row that meets fmt, with fmt's text TOLD by the authors' own Lean function (tested against real Go, not proved from fmt's source: count such statements apart). THE CARD IS WHAT COUNTS. Prove the row's statement (the work); the ties are given (YtkomahekdcaiaaaGreatDoorTie.lean); close each card by the builder's one call (the guide's Derived/Test/ToyasCard.lean, 'card_holds'). Laid BY PROGRAM, IN A SANDBOX (cutbox-door.mjs). By AI agents, Wed Nov 11 2026. No macro, syntax, notation, axiom, sorry.
-/
import Derived.Test.YtkomahekdcaiaaaGreatDoorRows
import GoSem.ClaimSeven
namespace Go.Proofs.YtkomahekdcaiaaaGreatDoor
namespace Rows

/-- THE TIED CARD OF 'haywardlaw10.SpaceDoes'. -/
def spaceDoesCard : Claim7 := { stood := { row := spaceDoesRow, standIns := [], harness := (true, "3f6148ec2ae4c43b4478e2d3e8386210b19bd8ccf98ec75b9bbc0062d9b5704c"), looks := true }, kinds := [], alts := [], laidByText := true, laidKinds := [.data], laidTests := true, laidLooks := .later }
def SpaceDoesCardSaid : Prop := Claim7.holds Tryz.pinned (.plain (OpenSpec.ofChange spaceDoesSpec)) spaceDoesCard

/-- THE TIED CARD OF 'haywardlaw10.SpaceStep'. -/
def spaceStepCard : Claim7 := { stood := { row := spaceStepRow, standIns := [], harness := (true, "3f6148ec2ae4c43b4478e2d3e8386210b19bd8ccf98ec75b9bbc0062d9b5704c"), looks := true }, kinds := [], alts := [], laidByText := true, laidKinds := [.data], laidTests := true, laidLooks := .later }
def SpaceStepCardSaid : Prop := Claim7.holds Tryz.pinned (.plain (OpenSpec.ofChange spaceStepSpec)) spaceStepCard

/-- THE TIED CARD OF 'haywardlaw10.SpaceApart'. -/
def spaceApartCard : Claim7 := { stood := { row := spaceApartRow, standIns := [], harness := (true, "3f6148ec2ae4c43b4478e2d3e8386210b19bd8ccf98ec75b9bbc0062d9b5704c"), looks := true }, kinds := [], alts := [], laidByText := true, laidKinds := [.data], laidTests := true, laidLooks := .later }
def SpaceApartCardSaid : Prop := Claim7.holds Tryz.pinned (.plain (OpenSpec.ofChange spaceApartSpec)) spaceApartCard

/-- THE TIED CARD OF 'haywardlaw10.SpaceIdle'. -/
def spaceIdleCard : Claim7 := { stood := { row := spaceIdleRow, standIns := [], harness := (true, "3f6148ec2ae4c43b4478e2d3e8386210b19bd8ccf98ec75b9bbc0062d9b5704c"), looks := true }, kinds := [], alts := [], laidByText := true, laidKinds := [.data], laidTests := true, laidLooks := .later }
def SpaceIdleCardSaid : Prop := Claim7.holds Tryz.pinned (.plain (OpenSpec.ofChange spaceIdleSpec)) spaceIdleCard

/-- THE TIED CARD OF 'haywardlaw10.SpaceNone'. -/
def spaceNoneCard : Claim7 := { stood := { row := spaceNoneRow, standIns := [], harness := (true, "3f6148ec2ae4c43b4478e2d3e8386210b19bd8ccf98ec75b9bbc0062d9b5704c"), looks := true }, kinds := [], alts := [], laidByText := true, laidKinds := [.data], laidTests := true, laidLooks := .later }
def SpaceNoneCardSaid : Prop := Claim7.holds Tryz.pinned (.plain (OpenSpec.ofChange spaceNoneSpec)) spaceNoneCard

/-- THE TIED CARD OF 'haywardlaw10.SpaceBack'. -/
def spaceBackCard : Claim7 := { stood := { row := spaceBackRow, standIns := [], harness := (true, "3f6148ec2ae4c43b4478e2d3e8386210b19bd8ccf98ec75b9bbc0062d9b5704c"), looks := true }, kinds := [], alts := [], laidByText := true, laidKinds := [.data], laidTests := true, laidLooks := .later }
def SpaceBackCardSaid : Prop := Claim7.holds Tryz.pinned (.plain (OpenSpec.ofChange spaceBackSpec)) spaceBackCard

/-- THE SECOND FORM's CARD OF 'haywardlaw10.SpaceDoes'. -/
def spaceDoesUptoCard : Claim7 := { stood := { row := spaceDoesUptoRow, standIns := [], harness := (true, "3f6148ec2ae4c43b4478e2d3e8386210b19bd8ccf98ec75b9bbc0062d9b5704c"), looks := true }, kinds := [], alts := [], laidByText := true, laidKinds := [.data], laidTests := true, laidLooks := .later }
def SpaceDoesUptoCardSaid : Prop := Claim7.holds Tryz.pinned (.plain (OpenSpec.upto spaceDoesSpec)) spaceDoesUptoCard

/-- THE SECOND FORM's CARD OF 'haywardlaw10.SpaceStep'. -/
def spaceStepUptoCard : Claim7 := { stood := { row := spaceStepUptoRow, standIns := [], harness := (true, "3f6148ec2ae4c43b4478e2d3e8386210b19bd8ccf98ec75b9bbc0062d9b5704c"), looks := true }, kinds := [], alts := [], laidByText := true, laidKinds := [.data], laidTests := true, laidLooks := .later }
def SpaceStepUptoCardSaid : Prop := Claim7.holds Tryz.pinned (.plain (OpenSpec.upto spaceStepSpec)) spaceStepUptoCard

/-- THE SECOND FORM's CARD OF 'haywardlaw10.SpaceApart'. -/
def spaceApartUptoCard : Claim7 := { stood := { row := spaceApartUptoRow, standIns := [], harness := (true, "3f6148ec2ae4c43b4478e2d3e8386210b19bd8ccf98ec75b9bbc0062d9b5704c"), looks := true }, kinds := [], alts := [], laidByText := true, laidKinds := [.data], laidTests := true, laidLooks := .later }
def SpaceApartUptoCardSaid : Prop := Claim7.holds Tryz.pinned (.plain (OpenSpec.upto spaceApartSpec)) spaceApartUptoCard

/-- THE SECOND FORM's CARD OF 'haywardlaw10.SpaceIdle'. -/
def spaceIdleUptoCard : Claim7 := { stood := { row := spaceIdleUptoRow, standIns := [], harness := (true, "3f6148ec2ae4c43b4478e2d3e8386210b19bd8ccf98ec75b9bbc0062d9b5704c"), looks := true }, kinds := [], alts := [], laidByText := true, laidKinds := [.data], laidTests := true, laidLooks := .later }
def SpaceIdleUptoCardSaid : Prop := Claim7.holds Tryz.pinned (.plain (OpenSpec.upto spaceIdleSpec)) spaceIdleUptoCard

/-- THE SECOND FORM's CARD OF 'haywardlaw10.SpaceNone'. -/
def spaceNoneUptoCard : Claim7 := { stood := { row := spaceNoneUptoRow, standIns := [], harness := (true, "3f6148ec2ae4c43b4478e2d3e8386210b19bd8ccf98ec75b9bbc0062d9b5704c"), looks := true }, kinds := [], alts := [], laidByText := true, laidKinds := [.data], laidTests := true, laidLooks := .later }
def SpaceNoneUptoCardSaid : Prop := Claim7.holds Tryz.pinned (.plain (OpenSpec.upto spaceNoneSpec)) spaceNoneUptoCard

/-- THE SECOND FORM's CARD OF 'haywardlaw10.SpaceBack'. -/
def spaceBackUptoCard : Claim7 := { stood := { row := spaceBackUptoRow, standIns := [], harness := (true, "3f6148ec2ae4c43b4478e2d3e8386210b19bd8ccf98ec75b9bbc0062d9b5704c"), looks := true }, kinds := [], alts := [], laidByText := true, laidKinds := [.data], laidTests := true, laidLooks := .later }
def SpaceBackUptoCardSaid : Prop := Claim7.holds Tryz.pinned (.plain (OpenSpec.upto spaceBackSpec)) spaceBackUptoCard
end Rows
end Go.Proofs.YtkomahekdcaiaaaGreatDoor

/-
  DERIVED. GIVEN WITH THE SEED: THE CARDS: each row of YthiojnbnhagcgaaDoorRows.lean that lists a variable, with what it lists TIED to the program's text (the seventh form; the later family's looks); each row that meets fmt, with fmt's text TOLD by the authors' own Lean function (tested against real Go, not proved from fmt's source: count such statements apart). THE CARD IS WHAT COUNTS. Prove the row's statement (the work); the ties are given (YthiojnbnhagcgaaDoorTie.lean); close each card by the builder's one call (the guide's Derived/Test/ToyasCard.lean, 'card_holds'). Laid BY PROGRAM, IN A SANDBOX (cutbox-door.mjs). By AI agents, Wed Nov 11 2026. No macro, syntax, notation, axiom, sorry.
-/
import Derived.Test.YthiojnbnhagcgaaDoorRows
import GoSem.ClaimSeven
namespace Go.Proofs.YthiojnbnhagcgaaDoor
namespace Rows

/-- THE TIED CARD OF 'haywardlaw08.RadixNone'. -/
def radixNoneCard : Claim7 := { stood := { row := radixNoneRow, standIns := [], harness := (true, "b8f44f60a27d59b1f7656e6bcd3f3713768dbcf50e08c8033ba9f9ca690f8d71"), looks := true }, kinds := [], alts := [], laidByText := true, laidKinds := [.data], laidTests := true, laidLooks := .later }
def RadixNoneCardSaid : Prop := Claim7.holds Tryd.pinned (.plain (OpenSpec.ofChange radixNoneSpec)) radixNoneCard

/-- THE SECOND FORM's CARD OF 'haywardlaw08.RadixNone'. -/
def radixNoneUptoCard : Claim7 := { stood := { row := radixNoneUptoRow, standIns := [], harness := (true, "b8f44f60a27d59b1f7656e6bcd3f3713768dbcf50e08c8033ba9f9ca690f8d71"), looks := true }, kinds := [], alts := [], laidByText := true, laidKinds := [.data], laidTests := true, laidLooks := .later }
def RadixNoneUptoCardSaid : Prop := Claim7.holds Tryd.pinned (.plain (OpenSpec.upto radixNoneSpec)) radixNoneUptoCard
end Rows
end Go.Proofs.YthiojnbnhagcgaaDoor

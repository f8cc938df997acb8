/-
  No cell of these rows narrows 'for every input' (looked for: loops, veiled, ifaces, maps, wideKeys, modest, calm, conditions, laid).
  DERIVED. THE GIVEN ROWS OF THIS SEAT. 6 by the template 'for every input the law returns true; each argument reads behind the call as it read before'; 0 by the template 'total and deterministic' (their statements: YtbloiilinofklaaGreatTotals.lean).
  GIVEN WITH THE SEED: the statements are not yours to turn. If you find one false, say at which input.
  Laid BY PROGRAM, IN A SANDBOX (cutbox-rows.mjs): the forced cells as the released guide's own fill.sh prints them over the translation 258025ef7802aa4c… (all of the seat's roots in one cut). By AI agents, Wed Nov 11 2026. No macro, syntax, notation, axiom, sorry.
-/
import Derived.Test.YtbloiilinofklaaGreatChecked
import GoSem.Claim
import GoSem.ClaimJoined
import GoSem.ClaimMapViews
import Derived.JoinedTies
import Derived.KernelRfl
namespace Go.Proofs.YtbloiilinofklaaGreat
/- THE CELL 'sum', in the pinned program and in every row, IS THE sha256 OF THE DUMP (.gsa) THAT YtbloiilinofklaaGreatProg.lean LOADS. Nothing in Lean hashes anything: it is a label: what it is worth is what the hold of that sum in a sandbox is worth. -/
noncomputable def Tryz.pinned : Pinned := { name := "ytbloiilinofklaagreat", sum := "258025ef7802aa4cee4d1c65ac693a96bf739c137bfebcaf4307d1a071141d17", checked := Tryz.checked }
namespace Rows
def none {H : Type} : Left H := { results := [], args := [] }

/-- 'haywardlaw12.NamesDoes': WHATEVER THE INPUT: true; the input reads as it did. -/
def namesDoesSpec : ChangeSpec := { name := "namesDoes", fn := fun _ => fun
  | [d1, d2, d3] => { results := [.lit (.bool true)], args := [d1, d2, d3] }
  | _ => none }
def namesDoesRow : OpenClaim := { program := "ytbloiilinofklaagreat", sum := "258025ef7802aa4cee4d1c65ac693a96bf739c137bfebcaf4307d1a071141d17", func := "hayward/haywardlaw12.NamesDoes", spec := "namesDoes", unfollowed := true, recurses := true, apart := false }
def NamesDoesSaid : Prop := namesDoesRow.holds Tryz.pinned (OpenSpec.ofChange namesDoesSpec)

/-- ITS FALSE NEIGHBOUR: 'it returns false'. Refute it at one input. -/
def namesDoesWrong : ChangeSpec := { name := "namesDoes", fn := fun _ => fun
  | [d1, d2, d3] => { results := [.lit (.bool false)], args := [d1, d2, d3] }
  | _ => none }
def NamesDoesWrongFalsely : Prop := namesDoesRow.holds Tryz.pinned (OpenSpec.ofChange namesDoesWrong)

/-- 'haywardlaw12.NamesCount': WHATEVER THE INPUT: true; the input reads as it did. -/
def namesCountSpec : ChangeSpec := { name := "namesCount", fn := fun _ => fun
  | [d] => { results := [.lit (.bool true)], args := [d] }
  | _ => none }
def namesCountRow : OpenClaim := { program := "ytbloiilinofklaagreat", sum := "258025ef7802aa4cee4d1c65ac693a96bf739c137bfebcaf4307d1a071141d17", func := "hayward/haywardlaw12.NamesCount", spec := "namesCount", unfollowed := true, recurses := true, apart := false }
def NamesCountSaid : Prop := namesCountRow.holds Tryz.pinned (OpenSpec.ofChange namesCountSpec)

/-- ITS FALSE NEIGHBOUR: 'it returns false'. Refute it at one input. -/
def namesCountWrong : ChangeSpec := { name := "namesCount", fn := fun _ => fun
  | [d] => { results := [.lit (.bool false)], args := [d] }
  | _ => none }
def NamesCountWrongFalsely : Prop := namesCountRow.holds Tryz.pinned (OpenSpec.ofChange namesCountWrong)

/-- 'haywardlaw12.NamesBack': WHATEVER THE INPUT: true; the input reads as it did. -/
def namesBackSpec : ChangeSpec := { name := "namesBack", fn := fun _ => fun
  | [d1, d2, d3] => { results := [.lit (.bool true)], args := [d1, d2, d3] }
  | _ => none }
def namesBackRow : OpenClaim := { program := "ytbloiilinofklaagreat", sum := "258025ef7802aa4cee4d1c65ac693a96bf739c137bfebcaf4307d1a071141d17", func := "hayward/haywardlaw12.NamesBack", spec := "namesBack", unfollowed := true, recurses := true, apart := false }
def NamesBackSaid : Prop := namesBackRow.holds Tryz.pinned (OpenSpec.ofChange namesBackSpec)

/-- ITS FALSE NEIGHBOUR: 'it returns false'. Refute it at one input. -/
def namesBackWrong : ChangeSpec := { name := "namesBack", fn := fun _ => fun
  | [d1, d2, d3] => { results := [.lit (.bool false)], args := [d1, d2, d3] }
  | _ => none }
def NamesBackWrongFalsely : Prop := namesBackRow.holds Tryz.pinned (OpenSpec.ofChange namesBackWrong)

/-- 'haywardlaw12.NamesIdle': WHATEVER THE INPUT: true; the input reads as it did. -/
def namesIdleSpec : ChangeSpec := { name := "namesIdle", fn := fun _ => fun
  | [d1, d2] => { results := [.lit (.bool true)], args := [d1, d2] }
  | _ => none }
def namesIdleRow : OpenClaim := { program := "ytbloiilinofklaagreat", sum := "258025ef7802aa4cee4d1c65ac693a96bf739c137bfebcaf4307d1a071141d17", func := "hayward/haywardlaw12.NamesIdle", spec := "namesIdle", unfollowed := true, recurses := true, apart := false }
def NamesIdleSaid : Prop := namesIdleRow.holds Tryz.pinned (OpenSpec.ofChange namesIdleSpec)

/-- ITS FALSE NEIGHBOUR: 'it returns false'. Refute it at one input. -/
def namesIdleWrong : ChangeSpec := { name := "namesIdle", fn := fun _ => fun
  | [d1, d2] => { results := [.lit (.bool false)], args := [d1, d2] }
  | _ => none }
def NamesIdleWrongFalsely : Prop := namesIdleRow.holds Tryz.pinned (OpenSpec.ofChange namesIdleWrong)

/-- 'haywardlaw12.NamesNone': WHATEVER THE INPUT: true; the input reads as it did. -/
def namesNoneSpec : ChangeSpec := { name := "namesNone", fn := fun _ => fun
  | [d1, d2, d3] => { results := [.lit (.bool true)], args := [d1, d2, d3] }
  | _ => none }
def namesNoneRow : OpenClaim := { program := "ytbloiilinofklaagreat", sum := "258025ef7802aa4cee4d1c65ac693a96bf739c137bfebcaf4307d1a071141d17", func := "hayward/haywardlaw12.NamesNone", spec := "namesNone", unfollowed := true, recurses := true, apart := false }
def NamesNoneSaid : Prop := namesNoneRow.holds Tryz.pinned (OpenSpec.ofChange namesNoneSpec)

/-- ITS FALSE NEIGHBOUR: 'it returns false'. Refute it at one input. -/
def namesNoneWrong : ChangeSpec := { name := "namesNone", fn := fun _ => fun
  | [d1, d2, d3] => { results := [.lit (.bool false)], args := [d1, d2, d3] }
  | _ => none }
def NamesNoneWrongFalsely : Prop := namesNoneRow.holds Tryz.pinned (OpenSpec.ofChange namesNoneWrong)

/-- 'haywardlaw12.NamesLinks': WHATEVER THE INPUT: true; the input reads as it did. -/
def namesLinksSpec : ChangeSpec := { name := "namesLinks", fn := fun _ => fun
  | [d1, d2, d3] => { results := [.lit (.bool true)], args := [d1, d2, d3] }
  | _ => none }
def namesLinksRow : OpenClaim := { program := "ytbloiilinofklaagreat", sum := "258025ef7802aa4cee4d1c65ac693a96bf739c137bfebcaf4307d1a071141d17", func := "hayward/haywardlaw12.NamesLinks", spec := "namesLinks", unfollowed := true, recurses := true, apart := false }
def NamesLinksSaid : Prop := namesLinksRow.holds Tryz.pinned (OpenSpec.ofChange namesLinksSpec)

/-- ITS FALSE NEIGHBOUR: 'it returns false'. Refute it at one input. -/
def namesLinksWrong : ChangeSpec := { name := "namesLinks", fn := fun _ => fun
  | [d1, d2, d3] => { results := [.lit (.bool false)], args := [d1, d2, d3] }
  | _ => none }
def NamesLinksWrongFalsely : Prop := namesLinksRow.holds Tryz.pinned (OpenSpec.ofChange namesLinksWrong)

/- THE SECOND FORM. 'bulk': how many values and letters a reading holds, each counted each time it is reached (what is shared counts as often as it is met; a slice's spare places count too). A statement '..UptoSaid' is the law's where the arguments, and the package variables that the reading takes, are together of bulk at most 1048576: NARROWER than '..Said'. Prove '..Said' where nothing that the law and all that it calls make is longer than what came in: it says more and counts as full. Else prove '..UptoSaid'. A law counts once. -/
mutual
def uptoBulk {H : Type} : DataW H → Nat
  | .lit (.string bytes) => bytes.length + 1
  | .lit _ => 1
  | .nil => 1
  | .ptr d => uptoBulk d + 1
  | .slice elems spare => uptoBulkAll elems + uptoBulkAll spare + 1
  | .agg parts => uptoBulkAll parts + 1
  | .iface _ d => uptoBulk d + 1
  | .map entries => uptoBulkEntries entries + 1
  | .held _ => 1
def uptoBulkAll {H : Type} : List (DataW H) → Nat
  | [] => 0
  | d :: r => uptoBulk d + uptoBulkAll r
def uptoBulkEntries {H : Type} : List (Lit × DataW H) → Nat
  | [] => 0
  | x :: r => uptoBulkEntry x + uptoBulkEntries r
def uptoBulkEntry {H : Type} : Lit × DataW H → Nat
  | (.string bytes, d) => bytes.length + uptoBulk d + 1
  | (_, d) => uptoBulk d + 1
 end
def uptoSmall : (H : Type) → List (DataW H) → Bool := fun _ ds => decide (uptoBulkAll ds ≤ 1048576)
def OpenSpec.upto (s : _root_.Go.ChangeSpec) : _root_.Go.OpenSpec := { _root_.Go.OpenSpec.ofChange s with cond := some uptoSmall }

/-- 'haywardlaw12.NamesDoes', WHERE WHAT IT READS IS OF BULK AT MOST 1048576: true; the input reads as it did. -/
def namesDoesUptoRow : OpenClaim := { program := "ytbloiilinofklaagreat", sum := "258025ef7802aa4cee4d1c65ac693a96bf739c137bfebcaf4307d1a071141d17", func := "hayward/haywardlaw12.NamesDoes", spec := "namesDoes", unfollowed := true, recurses := true, apart := false, narrowed := true }
def NamesDoesUptoSaid : Prop := namesDoesUptoRow.holds Tryz.pinned (OpenSpec.upto namesDoesSpec)

/-- 'haywardlaw12.NamesCount', WHERE WHAT IT READS IS OF BULK AT MOST 1048576: true; the input reads as it did. -/
def namesCountUptoRow : OpenClaim := { program := "ytbloiilinofklaagreat", sum := "258025ef7802aa4cee4d1c65ac693a96bf739c137bfebcaf4307d1a071141d17", func := "hayward/haywardlaw12.NamesCount", spec := "namesCount", unfollowed := true, recurses := true, apart := false, narrowed := true }
def NamesCountUptoSaid : Prop := namesCountUptoRow.holds Tryz.pinned (OpenSpec.upto namesCountSpec)

/-- 'haywardlaw12.NamesBack', WHERE WHAT IT READS IS OF BULK AT MOST 1048576: true; the input reads as it did. -/
def namesBackUptoRow : OpenClaim := { program := "ytbloiilinofklaagreat", sum := "258025ef7802aa4cee4d1c65ac693a96bf739c137bfebcaf4307d1a071141d17", func := "hayward/haywardlaw12.NamesBack", spec := "namesBack", unfollowed := true, recurses := true, apart := false, narrowed := true }
def NamesBackUptoSaid : Prop := namesBackUptoRow.holds Tryz.pinned (OpenSpec.upto namesBackSpec)

/-- 'haywardlaw12.NamesIdle', WHERE WHAT IT READS IS OF BULK AT MOST 1048576: true; the input reads as it did. -/
def namesIdleUptoRow : OpenClaim := { program := "ytbloiilinofklaagreat", sum := "258025ef7802aa4cee4d1c65ac693a96bf739c137bfebcaf4307d1a071141d17", func := "hayward/haywardlaw12.NamesIdle", spec := "namesIdle", unfollowed := true, recurses := true, apart := false, narrowed := true }
def NamesIdleUptoSaid : Prop := namesIdleUptoRow.holds Tryz.pinned (OpenSpec.upto namesIdleSpec)

/-- 'haywardlaw12.NamesNone', WHERE WHAT IT READS IS OF BULK AT MOST 1048576: true; the input reads as it did. -/
def namesNoneUptoRow : OpenClaim := { program := "ytbloiilinofklaagreat", sum := "258025ef7802aa4cee4d1c65ac693a96bf739c137bfebcaf4307d1a071141d17", func := "hayward/haywardlaw12.NamesNone", spec := "namesNone", unfollowed := true, recurses := true, apart := false, narrowed := true }
def NamesNoneUptoSaid : Prop := namesNoneUptoRow.holds Tryz.pinned (OpenSpec.upto namesNoneSpec)

/-- 'haywardlaw12.NamesLinks', WHERE WHAT IT READS IS OF BULK AT MOST 1048576: true; the input reads as it did. -/
def namesLinksUptoRow : OpenClaim := { program := "ytbloiilinofklaagreat", sum := "258025ef7802aa4cee4d1c65ac693a96bf739c137bfebcaf4307d1a071141d17", func := "hayward/haywardlaw12.NamesLinks", spec := "namesLinks", unfollowed := true, recurses := true, apart := false, narrowed := true }
def NamesLinksUptoSaid : Prop := namesLinksUptoRow.holds Tryz.pinned (OpenSpec.upto namesLinksSpec)

end Rows
end Go.Proofs.YtbloiilinofklaaGreat

/-
  DERIVED. GIVEN WITH THE SEED: THE CARDS: each row of YtiieikdbhpflgabDoorRows.lean that lists a variable, with what it lists TIED to the program's text (the seventh form; the later family's looks); each row that meets fmt, with fmt's text TOLD by the authors' own Lean function (tested against real Go, not proved from fmt's source: count such statements apart). THE CARD IS WHAT COUNTS. Prove the row's statement (the work); the ties are given (YtiieikdbhpflgabDoorTie.lean); close each card by the builder's one call (the guide's Derived/Test/ToyasCard.lean, 'card_holds'). Laid BY PROGRAM, IN A SANDBOX (cutbox-door.mjs). By AI agents, Wed Nov 11 2026. No macro, syntax, notation, axiom, sorry.
-/
import Derived.Test.YtiieikdbhpflgabDoorRows
import GoSem.ClaimSeven
namespace Go.Proofs.YtiieikdbhpflgabDoor
namespace Rows

/-- THE TIED CARD OF 'modalitylaw9.UpperPlays'. -/
def upperPlaysCard : Claim7 := { stood := { row := upperPlaysRow, standIns := [], harness := (true, "f155b7b048291f14e262c4f191a5782618bbba90ef9b54f63d34747441f8fb89"), looks := true }, kinds := [], alts := [], laidByText := true, laidKinds := [.data, .data], laidTests := true, laidLooks := .later }
def UpperPlaysCardSaid : Prop := Claim7.holds Tryd.pinned (.plain (OpenSpec.ofChange upperPlaysSpec)) upperPlaysCard

/-- THE SECOND FORM's CARD OF 'modalitylaw9.UpperPlays'. -/
def upperPlaysUptoCard : Claim7 := { stood := { row := upperPlaysUptoRow, standIns := [], harness := (true, "f155b7b048291f14e262c4f191a5782618bbba90ef9b54f63d34747441f8fb89"), looks := true }, kinds := [], alts := [], laidByText := true, laidKinds := [.data, .data], laidTests := true, laidLooks := .later }
def UpperPlaysUptoCardSaid : Prop := Claim7.holds Tryd.pinned (.plain (OpenSpec.upto upperPlaysSpec)) upperPlaysUptoCard
end Rows
end Go.Proofs.YtiieikdbhpflgabDoor

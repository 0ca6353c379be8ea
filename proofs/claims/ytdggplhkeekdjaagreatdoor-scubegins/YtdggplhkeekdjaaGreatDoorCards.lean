/-
  DERIVED. GIVEN WITH THE SEED: THE CARDS: each row of YtdggplhkeekdjaaGreatDoorRows.lean that lists a variable, with what it lists TIED to the program's text (the seventh form; the later family's looks); each row that meets fmt, with fmt's text TOLD by the authors' own Lean function (tested against real Go, not proved from fmt's source: count such statements apart). THE CARD IS WHAT COUNTS. Prove the row's statement (the work); the ties are given (YtdggplhkeekdjaaGreatDoorTie.lean); close each card by the builder's one call (the guide's Derived/Test/ToyasCard.lean, 'card_holds'). Laid BY PROGRAM, IN A SANDBOX (cutbox-door.mjs). By AI agents, Wed Nov 11 2026. No macro, syntax, notation, axiom, sorry.
-/
import Derived.Test.YtdggplhkeekdjaaGreatDoorRows
import GoSem.ClaimSeven
namespace Go.Proofs.YtdggplhkeekdjaaGreatDoor
namespace Rows

/-- THE TIED CARD OF 'modalitylaw17.ScuBegins'. -/
def scuBeginsCard : Claim7 := { stood := { row := scuBeginsRow, standIns := [], harness := (true, "8bc92e29f07d2c2de4dd146131924fb1d2b7045979c9622ede29589c6fcbc31b"), looks := true }, kinds := [], alts := [], laidByText := true, laidKinds := [.data, .data, .data, .data, .sentinel, .sentinel, .pinned], laidTests := true, laidLooks := .later }
def ScuBeginsCardSaid : Prop := Claim7.holds Tryz.pinned (.plain (OpenSpec.ofChange scuBeginsSpec)) scuBeginsCard

/-- THE SECOND FORM's CARD OF 'modalitylaw17.ScuBegins'. -/
def scuBeginsUptoCard : Claim7 := { stood := { row := scuBeginsUptoRow, standIns := [], harness := (true, "8bc92e29f07d2c2de4dd146131924fb1d2b7045979c9622ede29589c6fcbc31b"), looks := true }, kinds := [], alts := [], laidByText := true, laidKinds := [.data, .data, .data, .data, .sentinel, .sentinel, .pinned], laidTests := true, laidLooks := .later }
def ScuBeginsUptoCardSaid : Prop := Claim7.holds Tryz.pinned (.plain (OpenSpec.upto scuBeginsSpec)) scuBeginsUptoCard
end Rows
end Go.Proofs.YtdggplhkeekdjaaGreatDoor

/-
  DERIVED. GIVEN WITH THE SEED: THE CARDS: each row of YtfoodjhffehgpaaGreatDoorRows.lean that lists a variable, with what it lists TIED to the program's text (the seventh form; the later family's looks); each row that meets fmt, with fmt's text TOLD by the authors' own Lean function (tested against real Go, not proved from fmt's source: count such statements apart). THE CARD IS WHAT COUNTS. Prove the row's statement (the work); the ties are given (YtfoodjhffehgpaaGreatDoorTie.lean); close each card by the builder's one call (the guide's Derived/Test/ToyasCard.lean, 'card_holds'). Laid BY PROGRAM, IN A SANDBOX (cutbox-door.mjs). By AI agents, Wed Nov 11 2026. No macro, syntax, notation, axiom, sorry.
-/
import Derived.Test.YtfoodjhffehgpaaGreatDoorRows
import GoSem.ClaimSeven
namespace Go.Proofs.YtfoodjhffehgpaaGreatDoor
namespace Rows

/-- THE TIED CARD OF 'modalitylaw6.DatasetForms'. -/
def datasetFormsCard : Claim7 := { stood := { row := datasetFormsRow, standIns := [], harness := (true, "959fb16672c954ac2d8863762b8d695dffffcd8c7ac8534ef8289613316b6b01"), looks := true }, kinds := [], alts := [], laidByText := true, laidKinds := [.data, .data, .data, .data, .handle, .sentinel, .sentinel, .pinned], laidTests := true, laidLooks := .later }
def DatasetFormsCardSaid : Prop := Claim7.holds Tryz.pinned (.plain (OpenSpec.ofChange datasetFormsSpec)) datasetFormsCard

/-- THE SECOND FORM's CARD OF 'modalitylaw6.DatasetForms'. -/
def datasetFormsUptoCard : Claim7 := { stood := { row := datasetFormsUptoRow, standIns := [], harness := (true, "959fb16672c954ac2d8863762b8d695dffffcd8c7ac8534ef8289613316b6b01"), looks := true }, kinds := [], alts := [], laidByText := true, laidKinds := [.data, .data, .data, .data, .handle, .sentinel, .sentinel, .pinned], laidTests := true, laidLooks := .later }
def DatasetFormsUptoCardSaid : Prop := Claim7.holds Tryz.pinned (.plain (OpenSpec.upto datasetFormsSpec)) datasetFormsUptoCard
end Rows
end Go.Proofs.YtfoodjhffehgpaaGreatDoor

/-
  DERIVED. GIVEN WITH THE SEED: THE CARDS: each row of YtilkogodhjnemaaGreatDoorRows.lean that lists a variable, with what it lists TIED to the program's text (the seventh form; the later family's looks); each row that meets fmt, with fmt's text TOLD by the authors' own Lean function (tested against real Go, not proved from fmt's source: count such statements apart). THE CARD IS WHAT COUNTS. Prove the row's statement (the work); the ties are given (YtilkogodhjnemaaGreatDoorTie.lean); close each card by the builder's one call (the guide's Derived/Test/ToyasCard.lean, 'card_holds'). Laid BY PROGRAM, IN A SANDBOX (cutbox-door.mjs). By AI agents, Wed Nov 11 2026. No macro, syntax, notation, axiom, sorry.
-/
import Derived.Test.YtilkogodhjnemaaGreatDoorRows
import GoSem.ClaimSeven
namespace Go.Proofs.YtilkogodhjnemaaGreatDoor
namespace Rows

/-- THE TIED CARD OF 'modalitylaw6.DatasetEncodes'. -/
def datasetEncodesCard : Claim7 := { stood := { row := datasetEncodesRow, standIns := [], harness := (true, "2f6b2f28b800a5261cb8f2b5182a48b24a43df558f7bd630dac30393d052b3f2"), looks := true }, kinds := [], alts := [], laidByText := true, laidKinds := [.data, .data, .data, .data, .handle, .sentinel, .sentinel, .pinned], laidTests := true, laidLooks := .later }
def DatasetEncodesCardSaid : Prop := Claim7.holds Tryz.pinned (.plain (OpenSpec.ofChange datasetEncodesSpec)) datasetEncodesCard

/-- THE SECOND FORM's CARD OF 'modalitylaw6.DatasetEncodes'. -/
def datasetEncodesUptoCard : Claim7 := { stood := { row := datasetEncodesUptoRow, standIns := [], harness := (true, "2f6b2f28b800a5261cb8f2b5182a48b24a43df558f7bd630dac30393d052b3f2"), looks := true }, kinds := [], alts := [], laidByText := true, laidKinds := [.data, .data, .data, .data, .handle, .sentinel, .sentinel, .pinned], laidTests := true, laidLooks := .later }
def DatasetEncodesUptoCardSaid : Prop := Claim7.holds Tryz.pinned (.plain (OpenSpec.upto datasetEncodesSpec)) datasetEncodesUptoCard
end Rows
end Go.Proofs.YtilkogodhjnemaaGreatDoor

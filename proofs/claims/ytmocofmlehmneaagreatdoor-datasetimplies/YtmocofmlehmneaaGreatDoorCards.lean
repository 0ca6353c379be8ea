/-
  DERIVED. GIVEN WITH THE SEED: THE CARDS: each row of YtmocofmlehmneaaGreatDoorRows.lean that lists a variable, with what it lists TIED to the program's text (the seventh form; the later family's looks); each row that meets fmt, with fmt's text TOLD by the authors' own Lean function (tested against real Go, not proved from fmt's source: count such statements apart). THE CARD IS WHAT COUNTS. Prove the row's statement (the work); the ties are given (YtmocofmlehmneaaGreatDoorTie.lean); close each card by the builder's one call (the guide's Derived/Test/ToyasCard.lean, 'card_holds'). Laid BY PROGRAM, IN A SANDBOX (cutbox-door.mjs). By AI agents, Wed Nov 11 2026. No macro, syntax, notation, axiom, sorry.
-/
import Derived.Test.YtmocofmlehmneaaGreatDoorRows
import GoSem.ClaimSeven
namespace Go.Proofs.YtmocofmlehmneaaGreatDoor
namespace Rows

/-- THE TIED CARD OF 'modalitylaw6.DatasetImplies'. -/
def datasetImpliesCard : Claim7 := { stood := { row := datasetImpliesRow, standIns := [], harness := (true, "6343fc3310edccbd2e5908c8f246d3fabea2025d494afb48b9e4db8e3e8f5a79"), looks := true }, kinds := [], alts := [], laidByText := true, laidKinds := [.data, .data, .data, .data, .handle, .sentinel, .sentinel, .pinned], laidTests := true, laidLooks := .later }
def DatasetImpliesCardSaid : Prop := Claim7.holds Tryz.pinned (.plain (OpenSpec.ofChange datasetImpliesSpec)) datasetImpliesCard

/-- THE SECOND FORM's CARD OF 'modalitylaw6.DatasetImplies'. -/
def datasetImpliesUptoCard : Claim7 := { stood := { row := datasetImpliesUptoRow, standIns := [], harness := (true, "6343fc3310edccbd2e5908c8f246d3fabea2025d494afb48b9e4db8e3e8f5a79"), looks := true }, kinds := [], alts := [], laidByText := true, laidKinds := [.data, .data, .data, .data, .handle, .sentinel, .sentinel, .pinned], laidTests := true, laidLooks := .later }
def DatasetImpliesUptoCardSaid : Prop := Claim7.holds Tryz.pinned (.plain (OpenSpec.upto datasetImpliesSpec)) datasetImpliesUptoCard
end Rows
end Go.Proofs.YtmocofmlehmneaaGreatDoor

/-
  DERIVED. GIVEN WITH THE SEED: THE CARDS: each row of YtehgeninocbpeaaGreatDoorRows.lean that lists a variable, with what it lists TIED to the program's text (the seventh form; the later family's looks); each row that meets fmt, with fmt's text TOLD by the authors' own Lean function (tested against real Go, not proved from fmt's source: count such statements apart). THE CARD IS WHAT COUNTS. Prove the row's statement (the work); the ties are given (YtehgeninocbpeaaGreatDoorTie.lean); close each card by the builder's one call (the guide's Derived/Test/ToyasCard.lean, 'card_holds'). Laid BY PROGRAM, IN A SANDBOX (cutbox-door.mjs). By AI agents, Wed Nov 11 2026. No macro, syntax, notation, axiom, sorry.
-/
import Derived.Test.YtehgeninocbpeaaGreatDoorRows
import GoSem.ClaimSeven
namespace Go.Proofs.YtehgeninocbpeaaGreatDoor
namespace Rows

/-- THE TIED CARD OF 'modalitylaw5.ValueAny'. -/
def valueAnyCard : Claim7 := { stood := { row := valueAnyRow, standIns := [], harness := (true, "f00e961704a8c68ee5c5275906f30e0f11b9f7061206cef2eeb57ebb00d3c274"), looks := true }, kinds := [], alts := [], laidByText := true, laidKinds := [.data, .data, .data, .data, .pinned], laidTests := true, laidLooks := .later }
def ValueAnyCardSaid : Prop := Claim7.holds Tryz.pinned (.plain (OpenSpec.ofChange valueAnySpec)) valueAnyCard

/-- THE TIED CARD OF 'modalitylaw5.ValueRange'. -/
def valueRangeCard : Claim7 := { stood := { row := valueRangeRow, standIns := [], harness := (true, "f00e961704a8c68ee5c5275906f30e0f11b9f7061206cef2eeb57ebb00d3c274"), looks := true }, kinds := [], alts := [], laidByText := true, laidKinds := [.data, .data, .data, .data, .pinned], laidTests := true, laidLooks := .later }
def ValueRangeCardSaid : Prop := Claim7.holds Tryz.pinned (.plain (OpenSpec.ofChange valueRangeSpec)) valueRangeCard

/-- THE TIED CARD OF 'modalitylaw5.ValueMatches'. -/
def valueMatchesCard : Claim7 := { stood := { row := valueMatchesRow, standIns := [], harness := (true, "f00e961704a8c68ee5c5275906f30e0f11b9f7061206cef2eeb57ebb00d3c274"), looks := true }, kinds := [], alts := [], laidByText := true, laidKinds := [.data, .data, .data, .data, .data, .data, .data, .pinned], laidTests := true, laidLooks := .later }
def ValueMatchesCardSaid : Prop := Claim7.holds Tryz.pinned (.plain (OpenSpec.ofChange valueMatchesSpec)) valueMatchesCard

/-- THE SECOND FORM's CARD OF 'modalitylaw5.ValueAny'. -/
def valueAnyUptoCard : Claim7 := { stood := { row := valueAnyUptoRow, standIns := [], harness := (true, "f00e961704a8c68ee5c5275906f30e0f11b9f7061206cef2eeb57ebb00d3c274"), looks := true }, kinds := [], alts := [], laidByText := true, laidKinds := [.data, .data, .data, .data, .pinned], laidTests := true, laidLooks := .later }
def ValueAnyUptoCardSaid : Prop := Claim7.holds Tryz.pinned (.plain (OpenSpec.upto valueAnySpec)) valueAnyUptoCard

/-- THE SECOND FORM's CARD OF 'modalitylaw5.ValueRange'. -/
def valueRangeUptoCard : Claim7 := { stood := { row := valueRangeUptoRow, standIns := [], harness := (true, "f00e961704a8c68ee5c5275906f30e0f11b9f7061206cef2eeb57ebb00d3c274"), looks := true }, kinds := [], alts := [], laidByText := true, laidKinds := [.data, .data, .data, .data, .pinned], laidTests := true, laidLooks := .later }
def ValueRangeUptoCardSaid : Prop := Claim7.holds Tryz.pinned (.plain (OpenSpec.upto valueRangeSpec)) valueRangeUptoCard

/-- THE SECOND FORM's CARD OF 'modalitylaw5.ValueMatches'. -/
def valueMatchesUptoCard : Claim7 := { stood := { row := valueMatchesUptoRow, standIns := [], harness := (true, "f00e961704a8c68ee5c5275906f30e0f11b9f7061206cef2eeb57ebb00d3c274"), looks := true }, kinds := [], alts := [], laidByText := true, laidKinds := [.data, .data, .data, .data, .data, .data, .data, .pinned], laidTests := true, laidLooks := .later }
def ValueMatchesUptoCardSaid : Prop := Claim7.holds Tryz.pinned (.plain (OpenSpec.upto valueMatchesSpec)) valueMatchesUptoCard
end Rows
end Go.Proofs.YtehgeninocbpeaaGreatDoor

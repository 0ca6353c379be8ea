/-
  DERIVED. GIVEN WITH THE SEED: THE CARDS: each row of YtgdemlebohlolaaGreatDoorRows.lean that lists a variable, with what it lists TIED to the program's text (the seventh form; the later family's looks); each row that meets fmt, with fmt's text TOLD by the authors' own Lean function (tested against real Go, not proved from fmt's source: count such statements apart). THE CARD IS WHAT COUNTS. Prove the row's statement (the work); the ties are given (YtgdemlebohlolaaGreatDoorTie.lean); close each card by the builder's one call (the guide's Derived/Test/ToyasCard.lean, 'card_holds'). Laid BY PROGRAM, IN A SANDBOX (cutbox-door.mjs). By AI agents, Wed Nov 11 2026. No macro, syntax, notation, axiom, sorry.
-/
import Derived.Test.YtgdemlebohlolaaGreatDoorRows
import GoSem.ClaimSeven
namespace Go.Proofs.YtgdemlebohlolaaGreatDoor
namespace Rows

/-- THE TIED CARD OF 'modalitylaw12.StoreRows'. -/
def storeRowsCard : Claim7 := { stood := { row := storeRowsRow, standIns := [], harness := (true, "1ab5cd72cbd1a34a30a451c9dbd3a556743dc632e6524751634878398fa4c7ab"), looks := true }, kinds := [], alts := [], laidByText := true, laidKinds := [.data, .data, .data, .data, .sentinel, .sentinel, .data, .data, .data, .pinned], laidTests := true, laidLooks := .later }
def StoreRowsCardSaid : Prop := Claim7.holds Tryz.pinned (.plain (OpenSpec.ofChange storeRowsSpec)) storeRowsCard

/-- THE SECOND FORM's CARD OF 'modalitylaw12.StoreRows'. -/
def storeRowsUptoCard : Claim7 := { stood := { row := storeRowsUptoRow, standIns := [], harness := (true, "1ab5cd72cbd1a34a30a451c9dbd3a556743dc632e6524751634878398fa4c7ab"), looks := true }, kinds := [], alts := [], laidByText := true, laidKinds := [.data, .data, .data, .data, .sentinel, .sentinel, .data, .data, .data, .pinned], laidTests := true, laidLooks := .later }
def StoreRowsUptoCardSaid : Prop := Claim7.holds Tryz.pinned (.plain (OpenSpec.upto storeRowsSpec)) storeRowsUptoCard
end Rows
end Go.Proofs.YtgdemlebohlolaaGreatDoor

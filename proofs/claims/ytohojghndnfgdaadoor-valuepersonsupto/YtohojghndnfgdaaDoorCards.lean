/-
  DERIVED. GIVEN WITH THE SEED: THE CARDS: each row of YtohojghndnfgdaaDoorRows.lean that lists a variable, with what it lists TIED to the program's text (the seventh form; the later family's looks); each row that meets fmt, with fmt's text TOLD by the authors' own Lean function (tested against real Go, not proved from fmt's source: count such statements apart). THE CARD IS WHAT COUNTS. Prove the row's statement (the work); the ties are given (YtohojghndnfgdaaDoorTie.lean); close each card by the builder's one call (the guide's Derived/Test/ToyasCard.lean, 'card_holds'). Laid BY PROGRAM, IN A SANDBOX (cutbox-door.mjs). By AI agents, Wed Nov 11 2026. No macro, syntax, notation, axiom, sorry.
-/
import Derived.Test.YtohojghndnfgdaaDoorRows
import GoSem.ClaimSeven
namespace Go.Proofs.YtohojghndnfgdaaDoor
namespace Rows

/-- THE TIED CARD OF 'modalitylaw5.ValuePersons'. -/
def valuePersonsCard : Claim7 := { stood := { row := valuePersonsRow, standIns := [], harness := (true, "f6218d71c971b81863ce3fd717ad59dfeb95cf43123bb857116b1174c8a59fa6"), looks := true }, kinds := [], alts := [], laidByText := true, laidKinds := [.data, .pinned], laidTests := true, laidLooks := .later }
def ValuePersonsCardSaid : Prop := Claim7.holds Tryd.pinned (.plain (OpenSpec.ofChange valuePersonsSpec)) valuePersonsCard

/-- THE SECOND FORM's CARD OF 'modalitylaw5.ValuePersons'. -/
def valuePersonsUptoCard : Claim7 := { stood := { row := valuePersonsUptoRow, standIns := [], harness := (true, "f6218d71c971b81863ce3fd717ad59dfeb95cf43123bb857116b1174c8a59fa6"), looks := true }, kinds := [], alts := [], laidByText := true, laidKinds := [.data, .pinned], laidTests := true, laidLooks := .later }
def ValuePersonsUptoCardSaid : Prop := Claim7.holds Tryd.pinned (.plain (OpenSpec.upto valuePersonsSpec)) valuePersonsUptoCard
end Rows
end Go.Proofs.YtohojghndnfgdaaDoor

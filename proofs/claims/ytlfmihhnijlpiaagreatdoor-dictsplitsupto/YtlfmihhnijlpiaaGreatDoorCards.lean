/-
  DERIVED. GIVEN WITH THE SEED: THE CARDS: each row of YtlfmihhnijlpiaaGreatDoorRows.lean that lists a variable, with what it lists TIED to the program's text (the seventh form; the later family's looks); each row that meets fmt, with fmt's text TOLD by the authors' own Lean function (tested against real Go, not proved from fmt's source: count such statements apart). THE CARD IS WHAT COUNTS. Prove the row's statement (the work); the ties are given (YtlfmihhnijlpiaaGreatDoorTie.lean); close each card by the builder's one call (the guide's Derived/Test/ToyasCard.lean, 'card_holds'). Laid BY PROGRAM, IN A SANDBOX (cutbox-door.mjs). By AI agents, Wed Nov 11 2026. No macro, syntax, notation, axiom, sorry.
-/
import Derived.Test.YtlfmihhnijlpiaaGreatDoorRows
import GoSem.ClaimSeven
namespace Go.Proofs.YtlfmihhnijlpiaaGreatDoor
namespace Rows

/-- THE TIED CARD OF 'modalitylaw3.DictSplits'. -/
def dictSplitsCard : Claim7 := { stood := { row := dictSplitsRow, standIns := [], harness := (true, "68e9b99b71e69c4eab4d2272d2ecceb72a6a56d3ebfadee1d52d2fd199e10fdb"), looks := true }, kinds := [], alts := [], laidByText := true, laidKinds := [.data, .data, .data, .data, .sentinel, .sentinel, .pinned], laidTests := true, laidLooks := .later }
def DictSplitsCardSaid : Prop := Claim7.holds Tryz.pinned (.plain (OpenSpec.ofChange dictSplitsSpec)) dictSplitsCard

/-- THE SECOND FORM's CARD OF 'modalitylaw3.DictSplits'. -/
def dictSplitsUptoCard : Claim7 := { stood := { row := dictSplitsUptoRow, standIns := [], harness := (true, "68e9b99b71e69c4eab4d2272d2ecceb72a6a56d3ebfadee1d52d2fd199e10fdb"), looks := true }, kinds := [], alts := [], laidByText := true, laidKinds := [.data, .data, .data, .data, .sentinel, .sentinel, .pinned], laidTests := true, laidLooks := .later }
def DictSplitsUptoCardSaid : Prop := Claim7.holds Tryz.pinned (.plain (OpenSpec.upto dictSplitsSpec)) dictSplitsUptoCard
end Rows
end Go.Proofs.YtlfmihhnijlpiaaGreatDoor

/-
  DERIVED. GIVEN WITH THE SEED: THE CARDS: each row of YteglammdigmmfaaGreatDoorRows.lean that lists a variable, with what it lists TIED to the program's text (the seventh form; the later family's looks); each row that meets fmt, with fmt's text TOLD by the authors' own Lean function (tested against real Go, not proved from fmt's source: count such statements apart). THE CARD IS WHAT COUNTS. Prove the row's statement (the work); the ties are given (YteglammdigmmfaaGreatDoorTie.lean); close each card by the builder's one call (the guide's Derived/Test/ToyasCard.lean, 'card_holds'). Laid BY PROGRAM, IN A SANDBOX (cutbox-door.mjs). By AI agents, Wed Nov 11 2026. No macro, syntax, notation, axiom, sorry.
-/
import Derived.Test.YteglammdigmmfaaGreatDoorRows
import GoSem.ClaimSeven
namespace Go.Proofs.YteglammdigmmfaaGreatDoor
namespace Rows

/-- THE TIED CARD OF 'modalitylaw3.DictChecks'. -/
def dictChecksCard : Claim7 := { stood := { row := dictChecksRow, standIns := [], harness := (true, "a29250883930aaa86e049a39f2bb1f6ba7c786fb72b17495829f14e362e14383"), looks := true }, kinds := [], alts := [], laidByText := true, laidKinds := [.data, .data, .data, .data, .sentinel, .sentinel, .pinned], laidTests := true, laidLooks := .later }
def DictChecksCardSaid : Prop := Claim7.holds Tryz.pinned (.plain (OpenSpec.ofChange dictChecksSpec)) dictChecksCard

/-- THE SECOND FORM's CARD OF 'modalitylaw3.DictChecks'. -/
def dictChecksUptoCard : Claim7 := { stood := { row := dictChecksUptoRow, standIns := [], harness := (true, "a29250883930aaa86e049a39f2bb1f6ba7c786fb72b17495829f14e362e14383"), looks := true }, kinds := [], alts := [], laidByText := true, laidKinds := [.data, .data, .data, .data, .sentinel, .sentinel, .pinned], laidTests := true, laidLooks := .later }
def DictChecksUptoCardSaid : Prop := Claim7.holds Tryz.pinned (.plain (OpenSpec.upto dictChecksSpec)) dictChecksUptoCard
end Rows
end Go.Proofs.YteglammdigmmfaaGreatDoor

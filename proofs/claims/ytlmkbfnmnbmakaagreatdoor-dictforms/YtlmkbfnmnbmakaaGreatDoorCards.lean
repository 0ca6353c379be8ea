/-
  DERIVED. GIVEN WITH THE SEED: THE CARDS: each row of YtlmkbfnmnbmakaaGreatDoorRows.lean that lists a variable, with what it lists TIED to the program's text (the seventh form; the later family's looks); each row that meets fmt, with fmt's text TOLD by the authors' own Lean function (tested against real Go, not proved from fmt's source: count such statements apart). THE CARD IS WHAT COUNTS. Prove the row's statement (the work); the ties are given (YtlmkbfnmnbmakaaGreatDoorTie.lean); close each card by the builder's one call (the guide's Derived/Test/ToyasCard.lean, 'card_holds'). Laid BY PROGRAM, IN A SANDBOX (cutbox-door.mjs). By AI agents, Wed Nov 11 2026. No macro, syntax, notation, axiom, sorry.
-/
import Derived.Test.YtlmkbfnmnbmakaaGreatDoorRows
import GoSem.ClaimSeven
namespace Go.Proofs.YtlmkbfnmnbmakaaGreatDoor
namespace Rows

/-- THE TIED CARD OF 'modalitylaw3.DictForms'. -/
def dictFormsCard : Claim7 := { stood := { row := dictFormsRow, standIns := [], harness := (true, "1a42caf05b92bd111e1a94eac87a07bbe136dcf71a65f0f16770bfb3f4ad540e"), looks := true }, kinds := [], alts := [], laidByText := true, laidKinds := [.data, .data, .data, .data, .sentinel, .sentinel, .pinned], laidTests := true, laidLooks := .later }
def DictFormsCardSaid : Prop := Claim7.holds Tryz.pinned (.plain (OpenSpec.ofChange dictFormsSpec)) dictFormsCard

/-- THE SECOND FORM's CARD OF 'modalitylaw3.DictForms'. -/
def dictFormsUptoCard : Claim7 := { stood := { row := dictFormsUptoRow, standIns := [], harness := (true, "1a42caf05b92bd111e1a94eac87a07bbe136dcf71a65f0f16770bfb3f4ad540e"), looks := true }, kinds := [], alts := [], laidByText := true, laidKinds := [.data, .data, .data, .data, .sentinel, .sentinel, .pinned], laidTests := true, laidLooks := .later }
def DictFormsUptoCardSaid : Prop := Claim7.holds Tryz.pinned (.plain (OpenSpec.upto dictFormsSpec)) dictFormsUptoCard
end Rows
end Go.Proofs.YtlmkbfnmnbmakaaGreatDoor

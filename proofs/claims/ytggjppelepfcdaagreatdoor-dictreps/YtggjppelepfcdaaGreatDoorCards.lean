/-
  DERIVED. GIVEN WITH THE SEED: THE CARDS: each row of YtggjppelepfcdaaGreatDoorRows.lean that lists a variable, with what it lists TIED to the program's text (the seventh form; the later family's looks); each row that meets fmt, with fmt's text TOLD by the authors' own Lean function (tested against real Go, not proved from fmt's source: count such statements apart). THE CARD IS WHAT COUNTS. Prove the row's statement (the work); the ties are given (YtggjppelepfcdaaGreatDoorTie.lean); close each card by the builder's one call (the guide's Derived/Test/ToyasCard.lean, 'card_holds'). Laid BY PROGRAM, IN A SANDBOX (cutbox-door.mjs). By AI agents, Wed Nov 11 2026. No macro, syntax, notation, axiom, sorry.
-/
import Derived.Test.YtggjppelepfcdaaGreatDoorRows
import GoSem.ClaimSeven
namespace Go.Proofs.YtggjppelepfcdaaGreatDoor
namespace Rows

/-- THE TIED CARD OF 'modalitylaw3.DictReps'. -/
def dictRepsCard : Claim7 := { stood := { row := dictRepsRow, standIns := [], harness := (true, "8c4eca24e50eba7f7ad37e4cea696e5bb1054c3c37d183aa5b5bd7f3955f4eb5"), looks := true }, kinds := [], alts := [], laidByText := true, laidKinds := [.data, .data, .data, .data, .sentinel, .sentinel, .pinned], laidTests := true, laidLooks := .later }
def DictRepsCardSaid : Prop := Claim7.holds Tryz.pinned (.plain (OpenSpec.ofChange dictRepsSpec)) dictRepsCard

/-- THE TIED CARD OF 'modalitylaw3.DictPads'. -/
def dictPadsCard : Claim7 := { stood := { row := dictPadsRow, standIns := [], harness := (true, "8c4eca24e50eba7f7ad37e4cea696e5bb1054c3c37d183aa5b5bd7f3955f4eb5"), looks := true }, kinds := [], alts := [], laidByText := true, laidKinds := [.data, .data, .data, .data, .sentinel, .sentinel, .pinned], laidTests := true, laidLooks := .later }
def DictPadsCardSaid : Prop := Claim7.holds Tryz.pinned (.plain (OpenSpec.ofChange dictPadsSpec)) dictPadsCard

/-- THE TIED CARD OF 'modalitylaw3.DictSplits'. -/
def dictSplitsCard : Claim7 := { stood := { row := dictSplitsRow, standIns := [], harness := (true, "8c4eca24e50eba7f7ad37e4cea696e5bb1054c3c37d183aa5b5bd7f3955f4eb5"), looks := true }, kinds := [], alts := [], laidByText := true, laidKinds := [.data, .data, .data, .data, .sentinel, .sentinel, .pinned], laidTests := true, laidLooks := .later }
def DictSplitsCardSaid : Prop := Claim7.holds Tryz.pinned (.plain (OpenSpec.ofChange dictSplitsSpec)) dictSplitsCard

/-- THE SECOND FORM's CARD OF 'modalitylaw3.DictReps'. -/
def dictRepsUptoCard : Claim7 := { stood := { row := dictRepsUptoRow, standIns := [], harness := (true, "8c4eca24e50eba7f7ad37e4cea696e5bb1054c3c37d183aa5b5bd7f3955f4eb5"), looks := true }, kinds := [], alts := [], laidByText := true, laidKinds := [.data, .data, .data, .data, .sentinel, .sentinel, .pinned], laidTests := true, laidLooks := .later }
def DictRepsUptoCardSaid : Prop := Claim7.holds Tryz.pinned (.plain (OpenSpec.upto dictRepsSpec)) dictRepsUptoCard

/-- THE SECOND FORM's CARD OF 'modalitylaw3.DictPads'. -/
def dictPadsUptoCard : Claim7 := { stood := { row := dictPadsUptoRow, standIns := [], harness := (true, "8c4eca24e50eba7f7ad37e4cea696e5bb1054c3c37d183aa5b5bd7f3955f4eb5"), looks := true }, kinds := [], alts := [], laidByText := true, laidKinds := [.data, .data, .data, .data, .sentinel, .sentinel, .pinned], laidTests := true, laidLooks := .later }
def DictPadsUptoCardSaid : Prop := Claim7.holds Tryz.pinned (.plain (OpenSpec.upto dictPadsSpec)) dictPadsUptoCard

/-- THE SECOND FORM's CARD OF 'modalitylaw3.DictSplits'. -/
def dictSplitsUptoCard : Claim7 := { stood := { row := dictSplitsUptoRow, standIns := [], harness := (true, "8c4eca24e50eba7f7ad37e4cea696e5bb1054c3c37d183aa5b5bd7f3955f4eb5"), looks := true }, kinds := [], alts := [], laidByText := true, laidKinds := [.data, .data, .data, .data, .sentinel, .sentinel, .pinned], laidTests := true, laidLooks := .later }
def DictSplitsUptoCardSaid : Prop := Claim7.holds Tryz.pinned (.plain (OpenSpec.upto dictSplitsSpec)) dictSplitsUptoCard
end Rows
end Go.Proofs.YtggjppelepfcdaaGreatDoor

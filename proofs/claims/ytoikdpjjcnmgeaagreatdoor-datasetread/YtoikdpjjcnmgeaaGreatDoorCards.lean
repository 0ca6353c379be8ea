/-
  DERIVED. GIVEN WITH THE SEED: THE CARDS: each row of YtoikdpjjcnmgeaaGreatDoorRows.lean that lists a variable, with what it lists TIED to the program's text (the seventh form; the later family's looks); each row that meets fmt, with fmt's text TOLD by the authors' own Lean function (tested against real Go, not proved from fmt's source: count such statements apart). THE CARD IS WHAT COUNTS. Prove the row's statement (the work); the ties are given (YtoikdpjjcnmgeaaGreatDoorTie.lean); close each card by the builder's one call (the guide's Derived/Test/ToyasCard.lean, 'card_holds'). Laid BY PROGRAM, IN A SANDBOX (cutbox-door.mjs). By AI agents, Wed Nov 11 2026. No macro, syntax, notation, axiom, sorry.
-/
import Derived.Test.YtoikdpjjcnmgeaaGreatDoorRows
import GoSem.ClaimSeven
namespace Go.Proofs.YtoikdpjjcnmgeaaGreatDoor
namespace Rows

/-- THE TIED CARD OF 'modalitylaw6.DatasetDecodes'. -/
def datasetDecodesCard : Claim7 := { stood := { row := datasetDecodesRow, standIns := [], harness := (true, "4c952239826c4df076988e2a46e15731f098c2aa49e0c946dd13acc318a50c15"), looks := true }, kinds := [], alts := [], laidByText := true, laidKinds := [.data, .data, .data, .data, .sentinel, .sentinel, .pinned], laidTests := true, laidLooks := .later }
def DatasetDecodesCardSaid : Prop := Claim7.holds Tryz.pinned (.plain (OpenSpec.ofChange datasetDecodesSpec)) datasetDecodesCard

/-- THE TIED CARD OF 'modalitylaw6.DatasetTwo'. -/
def datasetTwoCard : Claim7 := { stood := { row := datasetTwoRow, standIns := [], harness := (true, "4c952239826c4df076988e2a46e15731f098c2aa49e0c946dd13acc318a50c15"), looks := true }, kinds := [], alts := [], laidByText := true, laidKinds := [.data, .data, .data, .data, .handle, .sentinel, .sentinel, .pinned], laidTests := true, laidLooks := .later }
def DatasetTwoCardSaid : Prop := Claim7.holds Tryz.pinned (.plain (OpenSpec.ofChange datasetTwoSpec)) datasetTwoCard

/-- THE TIED CARD OF 'modalitylaw6.DatasetBack'. -/
def datasetBackCard : Claim7 := { stood := { row := datasetBackRow, standIns := [], harness := (true, "4c952239826c4df076988e2a46e15731f098c2aa49e0c946dd13acc318a50c15"), looks := true }, kinds := [], alts := [], laidByText := true, laidKinds := [.data, .data, .data, .data, .handle, .sentinel, .sentinel, .pinned], laidTests := true, laidLooks := .later }
def DatasetBackCardSaid : Prop := Claim7.holds Tryz.pinned (.plain (OpenSpec.ofChange datasetBackSpec)) datasetBackCard

/-- THE TIED CARD OF 'modalitylaw6.DatasetRead'. -/
def datasetReadCard : Claim7 := { stood := { row := datasetReadRow, standIns := [], harness := (true, "4c952239826c4df076988e2a46e15731f098c2aa49e0c946dd13acc318a50c15"), looks := true }, kinds := [], alts := [], laidByText := true, laidKinds := [.data, .data, .data, .data, .handle, .sentinel, .sentinel, .pinned], laidTests := true, laidLooks := .later }
def DatasetReadCardSaid : Prop := Claim7.holds Tryz.pinned (.plain (OpenSpec.ofChange datasetReadSpec)) datasetReadCard

/-- THE TIED CARD OF 'modalitylaw6.DatasetJoined'. -/
def datasetJoinedCard : Claim7 := { stood := { row := datasetJoinedRow, standIns := [], harness := (true, "4c952239826c4df076988e2a46e15731f098c2aa49e0c946dd13acc318a50c15"), looks := true }, kinds := [], alts := [], laidByText := true, laidKinds := [.data, .data, .data, .data, .handle, .sentinel, .sentinel, .pinned], laidTests := true, laidLooks := .later }
def DatasetJoinedCardSaid : Prop := Claim7.holds Tryz.pinned (.plain (OpenSpec.ofChange datasetJoinedSpec)) datasetJoinedCard

/-- THE TIED CARD OF 'modalitylaw6.DatasetCut'. -/
def datasetCutCard : Claim7 := { stood := { row := datasetCutRow, standIns := [], harness := (true, "4c952239826c4df076988e2a46e15731f098c2aa49e0c946dd13acc318a50c15"), looks := true }, kinds := [], alts := [], laidByText := true, laidKinds := [.data, .data, .data, .data, .handle, .sentinel, .sentinel, .pinned], laidTests := true, laidLooks := .later }
def DatasetCutCardSaid : Prop := Claim7.holds Tryz.pinned (.plain (OpenSpec.ofChange datasetCutSpec)) datasetCutCard

/-- THE SECOND FORM's CARD OF 'modalitylaw6.DatasetDecodes'. -/
def datasetDecodesUptoCard : Claim7 := { stood := { row := datasetDecodesUptoRow, standIns := [], harness := (true, "4c952239826c4df076988e2a46e15731f098c2aa49e0c946dd13acc318a50c15"), looks := true }, kinds := [], alts := [], laidByText := true, laidKinds := [.data, .data, .data, .data, .sentinel, .sentinel, .pinned], laidTests := true, laidLooks := .later }
def DatasetDecodesUptoCardSaid : Prop := Claim7.holds Tryz.pinned (.plain (OpenSpec.upto datasetDecodesSpec)) datasetDecodesUptoCard

/-- THE SECOND FORM's CARD OF 'modalitylaw6.DatasetTwo'. -/
def datasetTwoUptoCard : Claim7 := { stood := { row := datasetTwoUptoRow, standIns := [], harness := (true, "4c952239826c4df076988e2a46e15731f098c2aa49e0c946dd13acc318a50c15"), looks := true }, kinds := [], alts := [], laidByText := true, laidKinds := [.data, .data, .data, .data, .handle, .sentinel, .sentinel, .pinned], laidTests := true, laidLooks := .later }
def DatasetTwoUptoCardSaid : Prop := Claim7.holds Tryz.pinned (.plain (OpenSpec.upto datasetTwoSpec)) datasetTwoUptoCard

/-- THE SECOND FORM's CARD OF 'modalitylaw6.DatasetBack'. -/
def datasetBackUptoCard : Claim7 := { stood := { row := datasetBackUptoRow, standIns := [], harness := (true, "4c952239826c4df076988e2a46e15731f098c2aa49e0c946dd13acc318a50c15"), looks := true }, kinds := [], alts := [], laidByText := true, laidKinds := [.data, .data, .data, .data, .handle, .sentinel, .sentinel, .pinned], laidTests := true, laidLooks := .later }
def DatasetBackUptoCardSaid : Prop := Claim7.holds Tryz.pinned (.plain (OpenSpec.upto datasetBackSpec)) datasetBackUptoCard

/-- THE SECOND FORM's CARD OF 'modalitylaw6.DatasetRead'. -/
def datasetReadUptoCard : Claim7 := { stood := { row := datasetReadUptoRow, standIns := [], harness := (true, "4c952239826c4df076988e2a46e15731f098c2aa49e0c946dd13acc318a50c15"), looks := true }, kinds := [], alts := [], laidByText := true, laidKinds := [.data, .data, .data, .data, .handle, .sentinel, .sentinel, .pinned], laidTests := true, laidLooks := .later }
def DatasetReadUptoCardSaid : Prop := Claim7.holds Tryz.pinned (.plain (OpenSpec.upto datasetReadSpec)) datasetReadUptoCard

/-- THE SECOND FORM's CARD OF 'modalitylaw6.DatasetJoined'. -/
def datasetJoinedUptoCard : Claim7 := { stood := { row := datasetJoinedUptoRow, standIns := [], harness := (true, "4c952239826c4df076988e2a46e15731f098c2aa49e0c946dd13acc318a50c15"), looks := true }, kinds := [], alts := [], laidByText := true, laidKinds := [.data, .data, .data, .data, .handle, .sentinel, .sentinel, .pinned], laidTests := true, laidLooks := .later }
def DatasetJoinedUptoCardSaid : Prop := Claim7.holds Tryz.pinned (.plain (OpenSpec.upto datasetJoinedSpec)) datasetJoinedUptoCard

/-- THE SECOND FORM's CARD OF 'modalitylaw6.DatasetCut'. -/
def datasetCutUptoCard : Claim7 := { stood := { row := datasetCutUptoRow, standIns := [], harness := (true, "4c952239826c4df076988e2a46e15731f098c2aa49e0c946dd13acc318a50c15"), looks := true }, kinds := [], alts := [], laidByText := true, laidKinds := [.data, .data, .data, .data, .handle, .sentinel, .sentinel, .pinned], laidTests := true, laidLooks := .later }
def DatasetCutUptoCardSaid : Prop := Claim7.holds Tryz.pinned (.plain (OpenSpec.upto datasetCutSpec)) datasetCutUptoCard
end Rows
end Go.Proofs.YtoikdpjjcnmgeaaGreatDoor

/-
  DERIVED. GIVEN WITH THE SEED: THE CARDS: each row of YtbedfillgdhaaaaGreatDoorRows.lean that lists a variable, with what it lists TIED to the program's text (the seventh form; the later family's looks); each row that meets fmt, with fmt's text TOLD by the authors' own Lean function (tested against real Go, not proved from fmt's source: count such statements apart). THE CARD IS WHAT COUNTS. Prove the row's statement (the work); the ties are given (YtbedfillgdhaaaaGreatDoorTie.lean); close each card by the builder's one call (the guide's Derived/Test/ToyasCard.lean, 'card_holds'). Laid BY PROGRAM, IN A SANDBOX (cutbox-door.mjs). By AI agents, Wed Nov 11 2026. No macro, syntax, notation, axiom, sorry.
-/
import Derived.Test.YtbedfillgdhaaaaGreatDoorRows
import GoSem.ClaimSeven
namespace Go.Proofs.YtbedfillgdhaaaaGreatDoor
namespace Rows

/-- THE TIED CARD OF 'modalitylaw2.JournalNobody'. -/
def journalNobodyCard : Claim7 := { stood := { row := journalNobodyRow, standIns := [], harness := (true, "454b3f877a7de4939d537b33b3e794c87c486880e154f13cba617ab2283d52d5"), looks := true }, kinds := [], alts := [], laidByText := true, laidKinds := [.handle, .data], laidTests := true, laidLooks := .later }
def JournalNobodyCardSaid : Prop := Claim7.holds Tryz.pinned (.plain (OpenSpec.ofChange journalNobodySpec)) journalNobodyCard

/-- THE TIED CARD OF 'modalitylaw2.JournalFresh'. -/
def journalFreshCard : Claim7 := { stood := { row := journalFreshRow, standIns := [], harness := (true, "454b3f877a7de4939d537b33b3e794c87c486880e154f13cba617ab2283d52d5"), looks := true }, kinds := [], alts := [], laidByText := true, laidKinds := [.handle, .data], laidTests := true, laidLooks := .later }
def JournalFreshCardSaid : Prop := Claim7.holds Tryz.pinned (.plain (OpenSpec.ofChange journalFreshSpec)) journalFreshCard

/-- THE TIED CARD OF 'modalitylaw2.JournalRooms'. -/
def journalRoomsCard : Claim7 := { stood := { row := journalRoomsRow, standIns := [], harness := (true, "454b3f877a7de4939d537b33b3e794c87c486880e154f13cba617ab2283d52d5"), looks := true }, kinds := [], alts := [], laidByText := true, laidKinds := [.handle, .data], laidTests := true, laidLooks := .later }
def JournalRoomsCardSaid : Prop := Claim7.holds Tryz.pinned (.plain (OpenSpec.ofChange journalRoomsSpec)) journalRoomsCard

/-- THE TIED CARD OF 'modalitylaw2.JournalOpens'. -/
def journalOpensCard : Claim7 := { stood := { row := journalOpensRow, standIns := [], harness := (true, "454b3f877a7de4939d537b33b3e794c87c486880e154f13cba617ab2283d52d5"), looks := true }, kinds := [], alts := [], laidByText := true, laidKinds := [.handle, .data], laidTests := true, laidLooks := .later }
def JournalOpensCardSaid : Prop := Claim7.holds Tryz.pinned (.plain (OpenSpec.ofChange journalOpensSpec)) journalOpensCard

/-- THE TIED CARD OF 'modalitylaw2.JournalKeeps'. -/
def journalKeepsCard : Claim7 := { stood := { row := journalKeepsRow, standIns := [], harness := (true, "454b3f877a7de4939d537b33b3e794c87c486880e154f13cba617ab2283d52d5"), looks := true }, kinds := [], alts := [], laidByText := true, laidKinds := [.handle, .data], laidTests := true, laidLooks := .later }
def JournalKeepsCardSaid : Prop := Claim7.holds Tryz.pinned (.plain (OpenSpec.ofChange journalKeepsSpec)) journalKeepsCard

/-- THE TIED CARD OF 'modalitylaw2.JournalPlays'. -/
def journalPlaysCard : Claim7 := { stood := { row := journalPlaysRow, standIns := [], harness := (true, "454b3f877a7de4939d537b33b3e794c87c486880e154f13cba617ab2283d52d5"), looks := true }, kinds := [], alts := [], laidByText := true, laidKinds := [.handle, .data], laidTests := true, laidLooks := .later }
def JournalPlaysCardSaid : Prop := Claim7.holds Tryz.pinned (.plain (OpenSpec.ofChange journalPlaysSpec)) journalPlaysCard

/-- THE SECOND FORM's CARD OF 'modalitylaw2.JournalNobody'. -/
def journalNobodyUptoCard : Claim7 := { stood := { row := journalNobodyUptoRow, standIns := [], harness := (true, "454b3f877a7de4939d537b33b3e794c87c486880e154f13cba617ab2283d52d5"), looks := true }, kinds := [], alts := [], laidByText := true, laidKinds := [.handle, .data], laidTests := true, laidLooks := .later }
def JournalNobodyUptoCardSaid : Prop := Claim7.holds Tryz.pinned (.plain (OpenSpec.upto journalNobodySpec)) journalNobodyUptoCard

/-- THE SECOND FORM's CARD OF 'modalitylaw2.JournalFresh'. -/
def journalFreshUptoCard : Claim7 := { stood := { row := journalFreshUptoRow, standIns := [], harness := (true, "454b3f877a7de4939d537b33b3e794c87c486880e154f13cba617ab2283d52d5"), looks := true }, kinds := [], alts := [], laidByText := true, laidKinds := [.handle, .data], laidTests := true, laidLooks := .later }
def JournalFreshUptoCardSaid : Prop := Claim7.holds Tryz.pinned (.plain (OpenSpec.upto journalFreshSpec)) journalFreshUptoCard

/-- THE SECOND FORM's CARD OF 'modalitylaw2.JournalRooms'. -/
def journalRoomsUptoCard : Claim7 := { stood := { row := journalRoomsUptoRow, standIns := [], harness := (true, "454b3f877a7de4939d537b33b3e794c87c486880e154f13cba617ab2283d52d5"), looks := true }, kinds := [], alts := [], laidByText := true, laidKinds := [.handle, .data], laidTests := true, laidLooks := .later }
def JournalRoomsUptoCardSaid : Prop := Claim7.holds Tryz.pinned (.plain (OpenSpec.upto journalRoomsSpec)) journalRoomsUptoCard

/-- THE SECOND FORM's CARD OF 'modalitylaw2.JournalOpens'. -/
def journalOpensUptoCard : Claim7 := { stood := { row := journalOpensUptoRow, standIns := [], harness := (true, "454b3f877a7de4939d537b33b3e794c87c486880e154f13cba617ab2283d52d5"), looks := true }, kinds := [], alts := [], laidByText := true, laidKinds := [.handle, .data], laidTests := true, laidLooks := .later }
def JournalOpensUptoCardSaid : Prop := Claim7.holds Tryz.pinned (.plain (OpenSpec.upto journalOpensSpec)) journalOpensUptoCard

/-- THE SECOND FORM's CARD OF 'modalitylaw2.JournalKeeps'. -/
def journalKeepsUptoCard : Claim7 := { stood := { row := journalKeepsUptoRow, standIns := [], harness := (true, "454b3f877a7de4939d537b33b3e794c87c486880e154f13cba617ab2283d52d5"), looks := true }, kinds := [], alts := [], laidByText := true, laidKinds := [.handle, .data], laidTests := true, laidLooks := .later }
def JournalKeepsUptoCardSaid : Prop := Claim7.holds Tryz.pinned (.plain (OpenSpec.upto journalKeepsSpec)) journalKeepsUptoCard

/-- THE SECOND FORM's CARD OF 'modalitylaw2.JournalPlays'. -/
def journalPlaysUptoCard : Claim7 := { stood := { row := journalPlaysUptoRow, standIns := [], harness := (true, "454b3f877a7de4939d537b33b3e794c87c486880e154f13cba617ab2283d52d5"), looks := true }, kinds := [], alts := [], laidByText := true, laidKinds := [.handle, .data], laidTests := true, laidLooks := .later }
def JournalPlaysUptoCardSaid : Prop := Claim7.holds Tryz.pinned (.plain (OpenSpec.upto journalPlaysSpec)) journalPlaysUptoCard
end Rows
end Go.Proofs.YtbedfillgdhaaaaGreatDoor

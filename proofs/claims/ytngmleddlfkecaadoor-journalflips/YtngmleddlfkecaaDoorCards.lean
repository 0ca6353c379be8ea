/-
  DERIVED. GIVEN WITH THE SEED: THE CARDS: each row of YtngmleddlfkecaaDoorRows.lean that lists a variable, with what it lists TIED to the program's text (the seventh form; the later family's looks); each row that meets fmt, with fmt's text TOLD by the authors' own Lean function (tested against real Go, not proved from fmt's source: count such statements apart). THE CARD IS WHAT COUNTS. Prove the row's statement (the work); the ties are given (YtngmleddlfkecaaDoorTie.lean); close each card by the builder's one call (the guide's Derived/Test/ToyasCard.lean, 'card_holds'). Laid BY PROGRAM, IN A SANDBOX (cutbox-door.mjs). By AI agents, Wed Nov 11 2026. No macro, syntax, notation, axiom, sorry.
-/
import Derived.Test.YtngmleddlfkecaaDoorRows
import GoSem.ClaimSeven
namespace Go.Proofs.YtngmleddlfkecaaDoor
namespace Rows

/-- THE TIED CARD OF 'modalitylaw2.JournalFlips'. -/
def journalFlipsCard : Claim7 := { stood := { row := journalFlipsRow, standIns := [], harness := (true, "12e513800c9fed64ab809356c7d39ffe8b134fcb26ff4fdf9106011507302467"), looks := true }, kinds := [], alts := [], laidByText := true, laidKinds := [.data], laidTests := true, laidLooks := .later }
def JournalFlipsCardSaid : Prop := Claim7.holds Tryd.pinned (.plain (OpenSpec.ofChange journalFlipsSpec)) journalFlipsCard

/-- THE TIED CARD OF 'modalitylaw2.JournalScans'. -/
def journalScansCard : Claim7 := { stood := { row := journalScansRow, standIns := [], harness := (true, "12e513800c9fed64ab809356c7d39ffe8b134fcb26ff4fdf9106011507302467"), looks := true }, kinds := [], alts := [], laidByText := true, laidKinds := [.data], laidTests := true, laidLooks := .later }
def JournalScansCardSaid : Prop := Claim7.holds Tryd.pinned (.plain (OpenSpec.ofChange journalScansSpec)) journalScansCard

/-- THE TIED CARD OF 'modalitylaw2.JournalForms'. -/
def journalFormsCard : Claim7 := { stood := { row := journalFormsRow, standIns := [], harness := (true, "12e513800c9fed64ab809356c7d39ffe8b134fcb26ff4fdf9106011507302467"), looks := true }, kinds := [], alts := [], laidByText := true, laidKinds := [.data], laidTests := true, laidLooks := .later }
def JournalFormsCardSaid : Prop := Claim7.holds Tryd.pinned (.plain (OpenSpec.ofChange journalFormsSpec)) journalFormsCard

/-- THE SECOND FORM's CARD OF 'modalitylaw2.JournalFlips'. -/
def journalFlipsUptoCard : Claim7 := { stood := { row := journalFlipsUptoRow, standIns := [], harness := (true, "12e513800c9fed64ab809356c7d39ffe8b134fcb26ff4fdf9106011507302467"), looks := true }, kinds := [], alts := [], laidByText := true, laidKinds := [.data], laidTests := true, laidLooks := .later }
def JournalFlipsUptoCardSaid : Prop := Claim7.holds Tryd.pinned (.plain (OpenSpec.upto journalFlipsSpec)) journalFlipsUptoCard

/-- THE SECOND FORM's CARD OF 'modalitylaw2.JournalScans'. -/
def journalScansUptoCard : Claim7 := { stood := { row := journalScansUptoRow, standIns := [], harness := (true, "12e513800c9fed64ab809356c7d39ffe8b134fcb26ff4fdf9106011507302467"), looks := true }, kinds := [], alts := [], laidByText := true, laidKinds := [.data], laidTests := true, laidLooks := .later }
def JournalScansUptoCardSaid : Prop := Claim7.holds Tryd.pinned (.plain (OpenSpec.upto journalScansSpec)) journalScansUptoCard

/-- THE SECOND FORM's CARD OF 'modalitylaw2.JournalForms'. -/
def journalFormsUptoCard : Claim7 := { stood := { row := journalFormsUptoRow, standIns := [], harness := (true, "12e513800c9fed64ab809356c7d39ffe8b134fcb26ff4fdf9106011507302467"), looks := true }, kinds := [], alts := [], laidByText := true, laidKinds := [.data], laidTests := true, laidLooks := .later }
def JournalFormsUptoCardSaid : Prop := Claim7.holds Tryd.pinned (.plain (OpenSpec.upto journalFormsSpec)) journalFormsUptoCard
end Rows
end Go.Proofs.YtngmleddlfkecaaDoor

/-
  DERIVED. GIVEN WITH THE SEED: THE CARDS: each row of YtehgeninocbpeaaDoorRows.lean that lists a variable, with what it lists TIED to the program's text (the seventh form; the later family's looks); each row that meets fmt, with fmt's text TOLD by the authors' own Lean function (tested against real Go, not proved from fmt's source: count such statements apart). THE CARD IS WHAT COUNTS. Prove the row's statement (the work); the ties are given (YtehgeninocbpeaaDoorTie.lean); close each card by the builder's one call (the guide's Derived/Test/ToyasCard.lean, 'card_holds'). Laid BY PROGRAM, IN A SANDBOX (cutbox-door.mjs). By AI agents, Wed Nov 11 2026. No macro, syntax, notation, axiom, sorry.
-/
import Derived.Test.YtehgeninocbpeaaDoorRows
import GoSem.ClaimSeven
namespace Go.Proofs.YtehgeninocbpeaaDoor
namespace Rows

/-- THE TIED CARD OF 'modalitylaw5.ValueSpans'. -/
def valueSpansCard : Claim7 := { stood := { row := valueSpansRow, standIns := [], harness := (true, "7e006ee413981aba73004a3f12dfec8611e52e7b182252662e8885d4125c0331"), looks := true }, kinds := [], alts := [], laidByText := true, laidKinds := [.data, .data, .data], laidTests := true, laidLooks := .later }
def ValueSpansCardSaid : Prop := Claim7.holds Tryd.pinned (.plain (OpenSpec.ofChange valueSpansSpec)) valueSpansCard

/-- THE SECOND FORM's CARD OF 'modalitylaw5.ValueSpans'. -/
def valueSpansUptoCard : Claim7 := { stood := { row := valueSpansUptoRow, standIns := [], harness := (true, "7e006ee413981aba73004a3f12dfec8611e52e7b182252662e8885d4125c0331"), looks := true }, kinds := [], alts := [], laidByText := true, laidKinds := [.data, .data, .data], laidTests := true, laidLooks := .later }
def ValueSpansUptoCardSaid : Prop := Claim7.holds Tryd.pinned (.plain (OpenSpec.upto valueSpansSpec)) valueSpansUptoCard
end Rows
end Go.Proofs.YtehgeninocbpeaaDoor

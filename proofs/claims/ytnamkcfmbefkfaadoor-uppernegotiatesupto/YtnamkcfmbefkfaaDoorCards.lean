/-
  DERIVED. GIVEN WITH THE SEED: THE CARDS: each row of YtnamkcfmbefkfaaDoorRows.lean that lists a variable, with what it lists TIED to the program's text (the seventh form; the later family's looks); each row that meets fmt, with fmt's text TOLD by the authors' own Lean function (tested against real Go, not proved from fmt's source: count such statements apart). THE CARD IS WHAT COUNTS. Prove the row's statement (the work); the ties are given (YtnamkcfmbefkfaaDoorTie.lean); close each card by the builder's one call (the guide's Derived/Test/ToyasCard.lean, 'card_holds'). Laid BY PROGRAM, IN A SANDBOX (cutbox-door.mjs). By AI agents, Wed Nov 11 2026. No macro, syntax, notation, axiom, sorry.
-/
import Derived.Test.YtnamkcfmbefkfaaDoorRows
import GoSem.ClaimSeven
namespace Go.Proofs.YtnamkcfmbefkfaaDoor
namespace Rows

/-- THE TIED CARD OF 'modalitylaw9.UpperNegotiates'. -/
def upperNegotiatesCard : Claim7 := { stood := { row := upperNegotiatesRow, standIns := [], harness := (true, "99a774e17ffa801cae38add52bd9c4a66187080ef0f976da7b4dc05f182bab39"), looks := false }, kinds := [], alts := [], laidByText := true, laidKinds := [.data, .pinned], laidTests := true, laidLooks := .later }
def UpperNegotiatesCardSaid : Prop := Claim7.holds Tryd.pinned (.plain (OpenSpec.ofChange upperNegotiatesSpec)) upperNegotiatesCard

/-- THE SECOND FORM's CARD OF 'modalitylaw9.UpperNegotiates'. -/
def upperNegotiatesUptoCard : Claim7 := { stood := { row := upperNegotiatesUptoRow, standIns := [], harness := (true, "99a774e17ffa801cae38add52bd9c4a66187080ef0f976da7b4dc05f182bab39"), looks := false }, kinds := [], alts := [], laidByText := true, laidKinds := [.data, .pinned], laidTests := true, laidLooks := .later }
def UpperNegotiatesUptoCardSaid : Prop := Claim7.holds Tryd.pinned (.plain (OpenSpec.upto upperNegotiatesSpec)) upperNegotiatesUptoCard
end Rows
end Go.Proofs.YtnamkcfmbefkfaaDoor

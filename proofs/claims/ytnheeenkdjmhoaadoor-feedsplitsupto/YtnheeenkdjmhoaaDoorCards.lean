/-
  DERIVED. GIVEN WITH THE SEED: THE CARDS: each row of YtnheeenkdjmhoaaDoorRows.lean that lists a variable, with what it lists TIED to the program's text (the seventh form; the later family's looks); each row that meets fmt, with fmt's text TOLD by the authors' own Lean function (tested against real Go, not proved from fmt's source: count such statements apart). THE CARD IS WHAT COUNTS. Prove the row's statement (the work); the ties are given (YtnheeenkdjmhoaaDoorTie.lean); close each card by the builder's one call (the guide's Derived/Test/ToyasCard.lean, 'card_holds'). Laid BY PROGRAM, IN A SANDBOX (cutbox-door.mjs). By AI agents, Wed Nov 11 2026. No macro, syntax, notation, axiom, sorry.
-/
import Derived.Test.YtnheeenkdjmhoaaDoorRows
import GoSem.ClaimSeven
namespace Go.Proofs.YtnheeenkdjmhoaaDoor
namespace Rows

/-- THE TIED CARD OF 'modalitylaw11.FeedAnswers'. -/
def feedAnswersCard : Claim7 := { stood := { row := feedAnswersRow, standIns := [], harness := (true, "a66e4d0ff506c0d1da1eb5115b1077d17e9026ec219c5e68805ba4fd95a8efe0"), looks := true }, kinds := [], alts := [], laidByText := true, laidKinds := [.data, .data, .data, .sentinel, .sentinel], laidTests := true, laidLooks := .later }
def FeedAnswersCardSaid : Prop := Claim7.holds Tryd.pinned (.plain (OpenSpec.ofChange feedAnswersSpec)) feedAnswersCard

/-- THE TIED CARD OF 'modalitylaw11.FeedSplits'. -/
def feedSplitsCard : Claim7 := { stood := { row := feedSplitsRow, standIns := [], harness := (true, "a66e4d0ff506c0d1da1eb5115b1077d17e9026ec219c5e68805ba4fd95a8efe0"), looks := true }, kinds := [], alts := [], laidByText := true, laidKinds := [.data, .data, .data, .sentinel, .sentinel], laidTests := true, laidLooks := .later }
def FeedSplitsCardSaid : Prop := Claim7.holds Tryd.pinned (.plain (OpenSpec.ofChange feedSplitsSpec)) feedSplitsCard

/-- THE SECOND FORM's CARD OF 'modalitylaw11.FeedAnswers'. -/
def feedAnswersUptoCard : Claim7 := { stood := { row := feedAnswersUptoRow, standIns := [], harness := (true, "a66e4d0ff506c0d1da1eb5115b1077d17e9026ec219c5e68805ba4fd95a8efe0"), looks := true }, kinds := [], alts := [], laidByText := true, laidKinds := [.data, .data, .data, .sentinel, .sentinel], laidTests := true, laidLooks := .later }
def FeedAnswersUptoCardSaid : Prop := Claim7.holds Tryd.pinned (.plain (OpenSpec.upto feedAnswersSpec)) feedAnswersUptoCard

/-- THE SECOND FORM's CARD OF 'modalitylaw11.FeedSplits'. -/
def feedSplitsUptoCard : Claim7 := { stood := { row := feedSplitsUptoRow, standIns := [], harness := (true, "a66e4d0ff506c0d1da1eb5115b1077d17e9026ec219c5e68805ba4fd95a8efe0"), looks := true }, kinds := [], alts := [], laidByText := true, laidKinds := [.data, .data, .data, .sentinel, .sentinel], laidTests := true, laidLooks := .later }
def FeedSplitsUptoCardSaid : Prop := Claim7.holds Tryd.pinned (.plain (OpenSpec.upto feedSplitsSpec)) feedSplitsUptoCard
end Rows
end Go.Proofs.YtnheeenkdjmhoaaDoor

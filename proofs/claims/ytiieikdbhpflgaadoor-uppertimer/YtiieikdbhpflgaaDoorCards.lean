/-
  DERIVED. GIVEN WITH THE SEED: THE CARDS: each row of YtiieikdbhpflgaaDoorRows.lean that lists a variable, with what it lists TIED to the program's text (the seventh form; the later family's looks); each row that meets fmt, with fmt's text TOLD by the authors' own Lean function (tested against real Go, not proved from fmt's source: count such statements apart). THE CARD IS WHAT COUNTS. Prove the row's statement (the work); the ties are given (YtiieikdbhpflgaaDoorTie.lean); close each card by the builder's one call (the guide's Derived/Test/ToyasCard.lean, 'card_holds'). Laid BY PROGRAM, IN A SANDBOX (cutbox-door.mjs). By AI agents, Wed Nov 11 2026. No macro, syntax, notation, axiom, sorry.
-/
import Derived.Test.YtiieikdbhpflgaaDoorRows
import GoSem.ClaimSeven
namespace Go.Proofs.YtiieikdbhpflgaaDoor
namespace Rows

/-- THE TIED CARD OF 'modalitylaw9.UpperTable'. -/
def upperTableCard : Claim7 := { stood := { row := upperTableRow, standIns := [], harness := (true, "86eda8fc41bf0221035996db402aa5bab5b6e8c8ac58f79ac938afd7ba92e4c3"), looks := true }, kinds := [], alts := [], laidByText := true, laidKinds := [.data], laidTests := true, laidLooks := .later }
def UpperTableCardSaid : Prop := Claim7.holds Tryd.pinned (.plain (OpenSpec.ofChange upperTableSpec)) upperTableCard

/-- THE TIED CARD OF 'modalitylaw9.UpperNobody'. -/
def upperNobodyCard : Claim7 := { stood := { row := upperNobodyRow, standIns := [], harness := (true, "86eda8fc41bf0221035996db402aa5bab5b6e8c8ac58f79ac938afd7ba92e4c3"), looks := true }, kinds := [], alts := [], laidByText := true, laidKinds := [.data, .data], laidTests := true, laidLooks := .later }
def UpperNobodyCardSaid : Prop := Claim7.holds Tryd.pinned (.plain (OpenSpec.ofChange upperNobodySpec)) upperNobodyCard

/-- THE TIED CARD OF 'modalitylaw9.UpperTimer'. -/
def upperTimerCard : Claim7 := { stood := { row := upperTimerRow, standIns := [], harness := (true, "86eda8fc41bf0221035996db402aa5bab5b6e8c8ac58f79ac938afd7ba92e4c3"), looks := true }, kinds := [], alts := [], laidByText := true, laidKinds := [.data, .data], laidTests := true, laidLooks := .later }
def UpperTimerCardSaid : Prop := Claim7.holds Tryd.pinned (.plain (OpenSpec.ofChange upperTimerSpec)) upperTimerCard

/-- THE TIED CARD OF 'modalitylaw9.UpperBeside'. -/
def upperBesideCard : Claim7 := { stood := { row := upperBesideRow, standIns := [], harness := (true, "86eda8fc41bf0221035996db402aa5bab5b6e8c8ac58f79ac938afd7ba92e4c3"), looks := true }, kinds := [], alts := [], laidByText := true, laidKinds := [.data, .data], laidTests := true, laidLooks := .later }
def UpperBesideCardSaid : Prop := Claim7.holds Tryd.pinned (.plain (OpenSpec.ofChange upperBesideSpec)) upperBesideCard

/-- THE TIED CARD OF 'modalitylaw9.UpperNegotiates'. -/
def upperNegotiatesCard : Claim7 := { stood := { row := upperNegotiatesRow, standIns := [], harness := (true, "86eda8fc41bf0221035996db402aa5bab5b6e8c8ac58f79ac938afd7ba92e4c3"), looks := true }, kinds := [], alts := [], laidByText := true, laidKinds := [.data, .pinned], laidTests := true, laidLooks := .later }
def UpperNegotiatesCardSaid : Prop := Claim7.holds Tryd.pinned (.plain (OpenSpec.ofChange upperNegotiatesSpec)) upperNegotiatesCard

/-- THE SECOND FORM's CARD OF 'modalitylaw9.UpperTable'. -/
def upperTableUptoCard : Claim7 := { stood := { row := upperTableUptoRow, standIns := [], harness := (true, "86eda8fc41bf0221035996db402aa5bab5b6e8c8ac58f79ac938afd7ba92e4c3"), looks := true }, kinds := [], alts := [], laidByText := true, laidKinds := [.data], laidTests := true, laidLooks := .later }
def UpperTableUptoCardSaid : Prop := Claim7.holds Tryd.pinned (.plain (OpenSpec.upto upperTableSpec)) upperTableUptoCard

/-- THE SECOND FORM's CARD OF 'modalitylaw9.UpperNobody'. -/
def upperNobodyUptoCard : Claim7 := { stood := { row := upperNobodyUptoRow, standIns := [], harness := (true, "86eda8fc41bf0221035996db402aa5bab5b6e8c8ac58f79ac938afd7ba92e4c3"), looks := true }, kinds := [], alts := [], laidByText := true, laidKinds := [.data, .data], laidTests := true, laidLooks := .later }
def UpperNobodyUptoCardSaid : Prop := Claim7.holds Tryd.pinned (.plain (OpenSpec.upto upperNobodySpec)) upperNobodyUptoCard

/-- THE SECOND FORM's CARD OF 'modalitylaw9.UpperTimer'. -/
def upperTimerUptoCard : Claim7 := { stood := { row := upperTimerUptoRow, standIns := [], harness := (true, "86eda8fc41bf0221035996db402aa5bab5b6e8c8ac58f79ac938afd7ba92e4c3"), looks := true }, kinds := [], alts := [], laidByText := true, laidKinds := [.data, .data], laidTests := true, laidLooks := .later }
def UpperTimerUptoCardSaid : Prop := Claim7.holds Tryd.pinned (.plain (OpenSpec.upto upperTimerSpec)) upperTimerUptoCard

/-- THE SECOND FORM's CARD OF 'modalitylaw9.UpperBeside'. -/
def upperBesideUptoCard : Claim7 := { stood := { row := upperBesideUptoRow, standIns := [], harness := (true, "86eda8fc41bf0221035996db402aa5bab5b6e8c8ac58f79ac938afd7ba92e4c3"), looks := true }, kinds := [], alts := [], laidByText := true, laidKinds := [.data, .data], laidTests := true, laidLooks := .later }
def UpperBesideUptoCardSaid : Prop := Claim7.holds Tryd.pinned (.plain (OpenSpec.upto upperBesideSpec)) upperBesideUptoCard

/-- THE SECOND FORM's CARD OF 'modalitylaw9.UpperNegotiates'. -/
def upperNegotiatesUptoCard : Claim7 := { stood := { row := upperNegotiatesUptoRow, standIns := [], harness := (true, "86eda8fc41bf0221035996db402aa5bab5b6e8c8ac58f79ac938afd7ba92e4c3"), looks := true }, kinds := [], alts := [], laidByText := true, laidKinds := [.data, .pinned], laidTests := true, laidLooks := .later }
def UpperNegotiatesUptoCardSaid : Prop := Claim7.holds Tryd.pinned (.plain (OpenSpec.upto upperNegotiatesSpec)) upperNegotiatesUptoCard
end Rows
end Go.Proofs.YtiieikdbhpflgaaDoor

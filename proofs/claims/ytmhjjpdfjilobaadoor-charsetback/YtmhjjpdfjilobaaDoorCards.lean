/-
  DERIVED. GIVEN WITH THE SEED: THE CARDS: each row of YtmhjjpdfjilobaaDoorRows.lean that lists a variable, with what it lists TIED to the program's text (the seventh form; the later family's looks); each row that meets fmt, with fmt's text TOLD by the authors' own Lean function (tested against real Go, not proved from fmt's source: count such statements apart). THE CARD IS WHAT COUNTS. Prove the row's statement (the work); the ties are given (YtmhjjpdfjilobaaDoorTie.lean); close each card by the builder's one call (the guide's Derived/Test/ToyasCard.lean, 'card_holds'). Laid BY PROGRAM, IN A SANDBOX (cutbox-door.mjs). By AI agents, Wed Nov 11 2026. No macro, syntax, notation, axiom, sorry.
-/
import Derived.Test.YtmhjjpdfjilobaaDoorRows
import GoSem.ClaimSeven
namespace Go.Proofs.YtmhjjpdfjilobaaDoor
namespace Rows

/-- THE TIED CARD OF 'modalitylaw4.CharsetBegins'. -/
def charsetBeginsCard : Claim7 := { stood := { row := charsetBeginsRow, standIns := [], harness := (true, "064139b27e93a422d77657eee59da0e1a45811eae7528e0364e61b76f49c859a"), looks := true }, kinds := [], alts := [], laidByText := true, laidKinds := [.data, .data, .data, .data, .pinned], laidTests := true, laidLooks := .later }
def CharsetBeginsCardSaid : Prop := Claim7.holds Tryd.pinned (.plain (OpenSpec.ofChange charsetBeginsSpec)) charsetBeginsCard

/-- THE TIED CARD OF 'modalitylaw4.CharsetHas'. -/
def charsetHasCard : Claim7 := { stood := { row := charsetHasRow, standIns := [], harness := (true, "064139b27e93a422d77657eee59da0e1a45811eae7528e0364e61b76f49c859a"), looks := true }, kinds := [], alts := [], laidByText := true, laidKinds := [.data, .data, .data, .data, .data, .data, .pinned], laidTests := true, laidLooks := .later }
def CharsetHasCardSaid : Prop := Claim7.holds Tryd.pinned (.plain (OpenSpec.ofChange charsetHasSpec)) charsetHasCard

/-- THE TIED CARD OF 'modalitylaw4.CharsetPieces'. -/
def charsetPiecesCard : Claim7 := { stood := { row := charsetPiecesRow, standIns := [], harness := (true, "064139b27e93a422d77657eee59da0e1a45811eae7528e0364e61b76f49c859a"), looks := true }, kinds := [], alts := [], laidByText := true, laidKinds := [.data, .data, .data, .data, .data, .pinned], laidTests := true, laidLooks := .later }
def CharsetPiecesCardSaid : Prop := Claim7.holds Tryd.pinned (.plain (OpenSpec.ofChange charsetPiecesSpec)) charsetPiecesCard

/-- THE TIED CARD OF 'modalitylaw4.CharsetBack'. -/
def charsetBackCard : Claim7 := { stood := { row := charsetBackRow, standIns := [], harness := (true, "064139b27e93a422d77657eee59da0e1a45811eae7528e0364e61b76f49c859a"), looks := true }, kinds := [], alts := [], laidByText := true, laidKinds := [.data, .data, .data, .data, .data, .pinned], laidTests := true, laidLooks := .later }
def CharsetBackCardSaid : Prop := Claim7.holds Tryd.pinned (.plain (OpenSpec.ofChange charsetBackSpec)) charsetBackCard

/-- THE TIED CARD OF 'modalitylaw4.CharsetNobody'. -/
def charsetNobodyCard : Claim7 := { stood := { row := charsetNobodyRow, standIns := [], harness := (true, "064139b27e93a422d77657eee59da0e1a45811eae7528e0364e61b76f49c859a"), looks := true }, kinds := [], alts := [], laidByText := true, laidKinds := [.data, .data, .data, .data, .data, .pinned], laidTests := true, laidLooks := .later }
def CharsetNobodyCardSaid : Prop := Claim7.holds Tryd.pinned (.plain (OpenSpec.ofChange charsetNobodySpec)) charsetNobodyCard

/-- THE SECOND FORM's CARD OF 'modalitylaw4.CharsetBegins'. -/
def charsetBeginsUptoCard : Claim7 := { stood := { row := charsetBeginsUptoRow, standIns := [], harness := (true, "064139b27e93a422d77657eee59da0e1a45811eae7528e0364e61b76f49c859a"), looks := true }, kinds := [], alts := [], laidByText := true, laidKinds := [.data, .data, .data, .data, .pinned], laidTests := true, laidLooks := .later }
def CharsetBeginsUptoCardSaid : Prop := Claim7.holds Tryd.pinned (.plain (OpenSpec.upto charsetBeginsSpec)) charsetBeginsUptoCard

/-- THE SECOND FORM's CARD OF 'modalitylaw4.CharsetHas'. -/
def charsetHasUptoCard : Claim7 := { stood := { row := charsetHasUptoRow, standIns := [], harness := (true, "064139b27e93a422d77657eee59da0e1a45811eae7528e0364e61b76f49c859a"), looks := true }, kinds := [], alts := [], laidByText := true, laidKinds := [.data, .data, .data, .data, .data, .data, .pinned], laidTests := true, laidLooks := .later }
def CharsetHasUptoCardSaid : Prop := Claim7.holds Tryd.pinned (.plain (OpenSpec.upto charsetHasSpec)) charsetHasUptoCard

/-- THE SECOND FORM's CARD OF 'modalitylaw4.CharsetPieces'. -/
def charsetPiecesUptoCard : Claim7 := { stood := { row := charsetPiecesUptoRow, standIns := [], harness := (true, "064139b27e93a422d77657eee59da0e1a45811eae7528e0364e61b76f49c859a"), looks := true }, kinds := [], alts := [], laidByText := true, laidKinds := [.data, .data, .data, .data, .data, .pinned], laidTests := true, laidLooks := .later }
def CharsetPiecesUptoCardSaid : Prop := Claim7.holds Tryd.pinned (.plain (OpenSpec.upto charsetPiecesSpec)) charsetPiecesUptoCard

/-- THE SECOND FORM's CARD OF 'modalitylaw4.CharsetBack'. -/
def charsetBackUptoCard : Claim7 := { stood := { row := charsetBackUptoRow, standIns := [], harness := (true, "064139b27e93a422d77657eee59da0e1a45811eae7528e0364e61b76f49c859a"), looks := true }, kinds := [], alts := [], laidByText := true, laidKinds := [.data, .data, .data, .data, .data, .pinned], laidTests := true, laidLooks := .later }
def CharsetBackUptoCardSaid : Prop := Claim7.holds Tryd.pinned (.plain (OpenSpec.upto charsetBackSpec)) charsetBackUptoCard

/-- THE SECOND FORM's CARD OF 'modalitylaw4.CharsetNobody'. -/
def charsetNobodyUptoCard : Claim7 := { stood := { row := charsetNobodyUptoRow, standIns := [], harness := (true, "064139b27e93a422d77657eee59da0e1a45811eae7528e0364e61b76f49c859a"), looks := true }, kinds := [], alts := [], laidByText := true, laidKinds := [.data, .data, .data, .data, .data, .pinned], laidTests := true, laidLooks := .later }
def CharsetNobodyUptoCardSaid : Prop := Claim7.holds Tryd.pinned (.plain (OpenSpec.upto charsetNobodySpec)) charsetNobodyUptoCard
end Rows
end Go.Proofs.YtmhjjpdfjilobaaDoor

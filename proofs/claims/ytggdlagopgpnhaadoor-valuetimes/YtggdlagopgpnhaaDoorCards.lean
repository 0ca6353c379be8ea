/-
  DERIVED. GIVEN WITH THE SEED: THE CARDS: each row of YtggdlagopgpnhaaDoorRows.lean that lists a variable, with what it lists TIED to the program's text (the seventh form; the later family's looks); each row that meets fmt, with fmt's text TOLD by the authors' own Lean function (tested against real Go, not proved from fmt's source: count such statements apart). THE CARD IS WHAT COUNTS. Prove the row's statement (the work); the ties are given (YtggdlagopgpnhaaDoorTie.lean); close each card by the builder's one call (the guide's Derived/Test/ToyasCard.lean, 'card_holds'). Laid BY PROGRAM, IN A SANDBOX (cutbox-door.mjs). By AI agents, Wed Nov 11 2026. No macro, syntax, notation, axiom, sorry.
-/
import Derived.Test.YtggdlagopgpnhaaDoorRows
import GoSem.ClaimSeven
namespace Go.Proofs.YtggdlagopgpnhaaDoor
namespace Rows

/-- THE TIED CARD OF 'modalitylaw5.ValueCalendar'. -/
def valueCalendarCard : Claim7 := { stood := { row := valueCalendarRow, standIns := [], harness := (true, "afd258e6d69532d4109add0cc95090e3c06116f3342344479e383c36bc8935b2"), looks := true }, kinds := [], alts := [], laidByText := true, laidKinds := [.data, .data, .data, .data], laidTests := true, laidLooks := .later }
def ValueCalendarCardSaid : Prop := Claim7.holds Tryd.pinned (.plain (OpenSpec.ofChange valueCalendarSpec)) valueCalendarCard

/-- THE TIED CARD OF 'modalitylaw5.ValueDates'. -/
def valueDatesCard : Claim7 := { stood := { row := valueDatesRow, standIns := [], harness := (true, "afd258e6d69532d4109add0cc95090e3c06116f3342344479e383c36bc8935b2"), looks := true }, kinds := [], alts := [], laidByText := true, laidKinds := [.data, .data, .data, .data], laidTests := true, laidLooks := .later }
def ValueDatesCardSaid : Prop := Claim7.holds Tryd.pinned (.plain (OpenSpec.ofChange valueDatesSpec)) valueDatesCard

/-- THE TIED CARD OF 'modalitylaw5.ValueTimes'. -/
def valueTimesCard : Claim7 := { stood := { row := valueTimesRow, standIns := [], harness := (true, "afd258e6d69532d4109add0cc95090e3c06116f3342344479e383c36bc8935b2"), looks := true }, kinds := [], alts := [], laidByText := true, laidKinds := [.data, .data, .data, .data, .data], laidTests := true, laidLooks := .later }
def ValueTimesCardSaid : Prop := Claim7.holds Tryd.pinned (.plain (OpenSpec.ofChange valueTimesSpec)) valueTimesCard

/-- THE SECOND FORM's CARD OF 'modalitylaw5.ValueCalendar'. -/
def valueCalendarUptoCard : Claim7 := { stood := { row := valueCalendarUptoRow, standIns := [], harness := (true, "afd258e6d69532d4109add0cc95090e3c06116f3342344479e383c36bc8935b2"), looks := true }, kinds := [], alts := [], laidByText := true, laidKinds := [.data, .data, .data, .data], laidTests := true, laidLooks := .later }
def ValueCalendarUptoCardSaid : Prop := Claim7.holds Tryd.pinned (.plain (OpenSpec.upto valueCalendarSpec)) valueCalendarUptoCard

/-- THE SECOND FORM's CARD OF 'modalitylaw5.ValueDates'. -/
def valueDatesUptoCard : Claim7 := { stood := { row := valueDatesUptoRow, standIns := [], harness := (true, "afd258e6d69532d4109add0cc95090e3c06116f3342344479e383c36bc8935b2"), looks := true }, kinds := [], alts := [], laidByText := true, laidKinds := [.data, .data, .data, .data], laidTests := true, laidLooks := .later }
def ValueDatesUptoCardSaid : Prop := Claim7.holds Tryd.pinned (.plain (OpenSpec.upto valueDatesSpec)) valueDatesUptoCard

/-- THE SECOND FORM's CARD OF 'modalitylaw5.ValueTimes'. -/
def valueTimesUptoCard : Claim7 := { stood := { row := valueTimesUptoRow, standIns := [], harness := (true, "afd258e6d69532d4109add0cc95090e3c06116f3342344479e383c36bc8935b2"), looks := true }, kinds := [], alts := [], laidByText := true, laidKinds := [.data, .data, .data, .data, .data], laidTests := true, laidLooks := .later }
def ValueTimesUptoCardSaid : Prop := Claim7.holds Tryd.pinned (.plain (OpenSpec.upto valueTimesSpec)) valueTimesUptoCard
end Rows
end Go.Proofs.YtggdlagopgpnhaaDoor

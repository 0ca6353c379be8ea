/-
  DERIVED. GIVEN WITH THE SEED: THE PROGRAM's TIES (one call each: nine closed facts by the kernel) AND EACH ROW's TIE, after the 31st guide's Derived/Test/Toyas{Tie, Card}.lean. No idea stands in it: it is a product of the set-up. Laid BY PROGRAM, IN A SANDBOX (cutbox-door.mjs). By AI agents, Wed Nov 11 2026. No macro, syntax, notation, axiom, sorry.
-/
import Derived.Test.YtehgeninocbpeaaDoorRows
import Derived.LaidByTextLater
import Derived.SevenTiedAt
import Derived.LaidSub
import Derived.LaidOnce
namespace Go.Proofs.YtehgeninocbpeaaDoor
open Go
set_option maxRecDepth 100000
theorem seatTie1 : Tryd.prog.laidByTextLater [("modality/value.monthDays", Rows.laid_modality_value_monthDays), ("modality/value.rules", Rows.laid_modality_value_rules), ("modality/value.openTicks", Rows.laid_modality_value_openTicks)] [.data, .data, .data] true :=
  Program.laidByTextLater_by_one 52 8 59 (by kernel_rfl) (by kernel_rfl) (by kernel_rfl) (by kernel_rfl) (by kernel_rfl) (by kernel_rfl) (fun _ _ => by kernel_rfl)
theorem noOwnUnsafe : Tryd.pinned.checked.prog.headLifts.contains "ownunsafe" = false := by kernel_rfl
theorem tie : Tryd.prog.laidByTextLater [("modality/value.monthDays", Rows.laid_modality_value_monthDays), ("modality/value.rules", Rows.laid_modality_value_rules), ("modality/value.openTicks", Rows.laid_modality_value_openTicks)] [.data, .data, .data] true :=
  Program.laidByTextLater.sub seatTie1 ["modality/value.monthDays", "modality/value.rules", "modality/value.openTicks"] (by kernel_rfl) (by kernel_rfl)
theorem valueSpans_row_tie : Rows.valueSpansRow.laidByTextAt .later Tryd.pinned [.data, .data, .data] true :=
  OpenClaim.laidByTextAt_later rfl rfl tie noOwnUnsafe
theorem valueSpansUpto_row_tie : Rows.valueSpansUptoRow.laidByTextAt .later Tryd.pinned [.data, .data, .data] true :=
  OpenClaim.laidByTextAt_later rfl rfl tie noOwnUnsafe
end Go.Proofs.YtehgeninocbpeaaDoor

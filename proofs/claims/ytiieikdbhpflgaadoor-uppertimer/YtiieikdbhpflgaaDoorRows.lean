/-
  NARROWER THAN 'FOR EVERY INPUT', by the rows' own cells (each row's printed sentence says how): UpperTable: laid · UpperNobody: laid · UpperTimer: laid · UpperBeside: laid · UpperNegotiates: laid.
  DERIVED. THE GIVEN ROWS OF THIS SEAT. 5 by the template 'for every input the law returns true; each argument reads behind the call as it read before'; 0 by the template 'total and deterministic' (their statements: YtiieikdbhpflgaaDoorTotals.lean).
  GIVEN WITH THE SEED: the statements are not yours to turn. If you find one false, say at which input.
  Laid BY PROGRAM, IN A SANDBOX (cutbox-rows.mjs): the forced cells as the released guide's own fill.sh prints them over the translation cd3c5a206ef88484… (all of the seat's roots in one cut). By AI agents, Wed Nov 11 2026. No macro, syntax, notation, axiom, sorry.
-/
import Derived.Test.YtiieikdbhpflgaaDoorChecked
import GoSem.PinnedTables
import GoSem.Claim
import GoSem.ClaimJoined
import GoSem.ClaimMapViews
import Derived.JoinedTies
import Derived.KernelRfl
namespace Go.Proofs.YtiieikdbhpflgaaDoor
/- THE CELL 'sum', in the pinned program and in every row, IS THE sha256 OF THE DUMP (.gsa) THAT YtiieikdbhpflgaaDoorProg.lean LOADS. Nothing in Lean hashes anything: it is a label: what it is worth is what the hold of that sum in a sandbox is worth. -/
noncomputable def Tryd.pinned : Pinned := { name := "ytiieikdbhpflgaadoor", sum := "cd3c5a206ef884848b1b3a6619372e21093abbce65629957a295d43ad2f42c0b", checked := Tryd.checked }
namespace Rows
def none {H : Type} : Left H := { results := [], args := [] }

/- WHAT THE LISTED PACKAGE-LEVEL VARIABLES READ AS WHEN THE CALL BEGINS. Each datum BY PROGRAM (the guide's laid-datum.mjs) off the statement by which the dump's own 'gosem.cut.vars' lays the variable. In a bare row this is a premise. The card (YtiieikdbhpflgaaDoorCards.lean) ties it to the program's text. -/
def laid_modality_upper_table {H : Type} : DataW H := .agg [.agg [.lit (.int .u8 1), .lit (.int .u8 0), .lit (.int .u8 0), .lit (.int .u8 0), .lit (.int .u8 0), .lit (.int .u8 0), .lit (.int .u8 0), .lit (.int .u8 0), .lit (.int .u8 0), .lit (.int .u8 0), .lit (.int .u8 0), .lit (.int .u8 0), .lit (.int .u8 0)], .agg [.lit (.int .u8 0), .lit (.int .u8 0), .lit (.int .u8 0), .lit (.int .u8 2), .lit (.int .u8 0), .lit (.int .u8 0), .lit (.int .u8 0), .lit (.int .u8 0), .lit (.int .u8 0), .lit (.int .u8 0), .lit (.int .u8 0), .lit (.int .u8 0), .lit (.int .u8 0)], .agg [.lit (.int .u8 0), .lit (.int .u8 21), .lit (.int .u8 28), .lit (.int .u8 0), .lit (.int .u8 3), .lit (.int .u8 28), .lit (.int .u8 28), .lit (.int .u8 28), .lit (.int .u8 28), .lit (.int .u8 28), .lit (.int .u8 28), .lit (.int .u8 28), .lit (.int .u8 26)], .agg [.lit (.int .u8 0), .lit (.int .u8 21), .lit (.int .u8 28), .lit (.int .u8 0), .lit (.int .u8 4), .lit (.int .u8 28), .lit (.int .u8 28), .lit (.int .u8 28), .lit (.int .u8 28), .lit (.int .u8 28), .lit (.int .u8 28), .lit (.int .u8 28), .lit (.int .u8 26)], .agg [.lit (.int .u8 5), .lit (.int .u8 0), .lit (.int .u8 0), .lit (.int .u8 0), .lit (.int .u8 0), .lit (.int .u8 0), .lit (.int .u8 0), .lit (.int .u8 0), .lit (.int .u8 0), .lit (.int .u8 0), .lit (.int .u8 0), .lit (.int .u8 0), .lit (.int .u8 0)], .agg [.lit (.int .u8 0), .lit (.int .u8 6), .lit (.int .u8 28), .lit (.int .u8 0), .lit (.int .u8 28), .lit (.int .u8 28), .lit (.int .u8 28), .lit (.int .u8 28), .lit (.int .u8 28), .lit (.int .u8 28), .lit (.int .u8 28), .lit (.int .u8 28), .lit (.int .u8 27)], .agg [.lit (.int .u8 0), .lit (.int .u8 0), .lit (.int .u8 7), .lit (.int .u8 0), .lit (.int .u8 0), .lit (.int .u8 0), .lit (.int .u8 0), .lit (.int .u8 0), .lit (.int .u8 0), .lit (.int .u8 0), .lit (.int .u8 0), .lit (.int .u8 0), .lit (.int .u8 0)], .agg [.lit (.int .u8 0), .lit (.int .u8 0), .lit (.int .u8 8), .lit (.int .u8 0), .lit (.int .u8 0), .lit (.int .u8 0), .lit (.int .u8 0), .lit (.int .u8 0), .lit (.int .u8 0), .lit (.int .u8 0), .lit (.int .u8 0), .lit (.int .u8 0), .lit (.int .u8 0)], .agg [.lit (.int .u8 0), .lit (.int .u8 0), .lit (.int .u8 0), .lit (.int .u8 0), .lit (.int .u8 0), .lit (.int .u8 9), .lit (.int .u8 0), .lit (.int .u8 17), .lit (.int .u8 0), .lit (.int .u8 0), .lit (.int .u8 0), .lit (.int .u8 0), .lit (.int .u8 0)], .agg [.lit (.int .u8 0), .lit (.int .u8 21), .lit (.int .u8 28), .lit (.int .u8 0), .lit (.int .u8 28), .lit (.int .u8 10), .lit (.int .u8 16), .lit (.int .u8 28), .lit (.int .u8 28), .lit (.int .u8 28), .lit (.int .u8 28), .lit (.int .u8 28), .lit (.int .u8 26)], .agg [.lit (.int .u8 0), .lit (.int .u8 0), .lit (.int .u8 0), .lit (.int .u8 0), .lit (.int .u8 0), .lit (.int .u8 11), .lit (.int .u8 0), .lit (.int .u8 0), .lit (.int .u8 0), .lit (.int .u8 0), .lit (.int .u8 0), .lit (.int .u8 0), .lit (.int .u8 0)], .agg [.lit (.int .u8 0), .lit (.int .u8 21), .lit (.int .u8 28), .lit (.int .u8 0), .lit (.int .u8 28), .lit (.int .u8 12), .lit (.int .u8 18), .lit (.int .u8 28), .lit (.int .u8 28), .lit (.int .u8 28), .lit (.int .u8 28), .lit (.int .u8 28), .lit (.int .u8 26)], .agg [.lit (.int .u8 0), .lit (.int .u8 21), .lit (.int .u8 28), .lit (.int .u8 0), .lit (.int .u8 28), .lit (.int .u8 28), .lit (.int .u8 13), .lit (.int .u8 28), .lit (.int .u8 28), .lit (.int .u8 20), .lit (.int .u8 13), .lit (.int .u8 28), .lit (.int .u8 26)], .agg [.lit (.int .u8 0), .lit (.int .u8 0), .lit (.int .u8 0), .lit (.int .u8 0), .lit (.int .u8 0), .lit (.int .u8 0), .lit (.int .u8 0), .lit (.int .u8 14), .lit (.int .u8 19), .lit (.int .u8 0), .lit (.int .u8 0), .lit (.int .u8 14), .lit (.int .u8 0)], .agg [.lit (.int .u8 0), .lit (.int .u8 0), .lit (.int .u8 21), .lit (.int .u8 22), .lit (.int .u8 21), .lit (.int .u8 21), .lit (.int .u8 21), .lit (.int .u8 21), .lit (.int .u8 21), .lit (.int .u8 21), .lit (.int .u8 21), .lit (.int .u8 21), .lit (.int .u8 0)], .agg [.lit (.int .u8 0), .lit (.int .u8 22), .lit (.int .u8 23), .lit (.int .u8 0), .lit (.int .u8 23), .lit (.int .u8 23), .lit (.int .u8 23), .lit (.int .u8 23), .lit (.int .u8 23), .lit (.int .u8 23), .lit (.int .u8 23), .lit (.int .u8 23), .lit (.int .u8 22)], .agg [.lit (.int .u8 0), .lit (.int .u8 25), .lit (.int .u8 24), .lit (.int .u8 24), .lit (.int .u8 24), .lit (.int .u8 24), .lit (.int .u8 24), .lit (.int .u8 24), .lit (.int .u8 24), .lit (.int .u8 24), .lit (.int .u8 24), .lit (.int .u8 24), .lit (.int .u8 15)], .agg [.lit (.int .u8 0), .lit (.int .u8 22), .lit (.int .u8 0), .lit (.int .u8 0), .lit (.int .u8 0), .lit (.int .u8 0), .lit (.int .u8 0), .lit (.int .u8 0), .lit (.int .u8 0), .lit (.int .u8 0), .lit (.int .u8 0), .lit (.int .u8 0), .lit (.int .u8 22)], .agg [.lit (.int .u8 0), .lit (.int .u8 21), .lit (.int .u8 28), .lit (.int .u8 0), .lit (.int .u8 28), .lit (.int .u8 28), .lit (.int .u8 28), .lit (.int .u8 28), .lit (.int .u8 28), .lit (.int .u8 28), .lit (.int .u8 28), .lit (.int .u8 28), .lit (.int .u8 27)]]
def laid_modality_upper_needs {H : Type} : DataW H := .agg [.lit (.int .u8 0), .lit (.int .u8 1), .lit (.int .u8 0), .lit (.int .u8 2), .lit (.int .u8 3), .lit (.int .u8 0), .lit (.int .u8 1), .lit (.int .u8 2), .lit (.int .u8 3), .lit (.int .u8 4), .lit (.int .u8 4), .lit (.int .u8 0), .lit (.int .u8 5), .lit (.int .u8 6), .lit (.int .u8 0), .lit (.int .u8 0), .lit (.int .u8 7), .lit (.int .u8 0), .lit (.int .u8 0), .lit (.int .u8 0)]
def laid_modality_upper_comes {H : Type} : DataW H := .agg [.lit (.int .u8 0), .lit (.int .u8 6), .lit (.int .u8 3), .lit (.int .u8 4), .lit (.int .u8 10), .lit (.int .u8 12), .lit (.int .u8 13), .lit (.int .u8 16)]
def laid_unicode_utf8_acceptRanges {H : Type} : DataW H := .agg [.agg [.lit (.int .u8 128), .lit (.int .u8 191)], .agg [.lit (.int .u8 160), .lit (.int .u8 191)], .agg [.lit (.int .u8 128), .lit (.int .u8 159)], .agg [.lit (.int .u8 144), .lit (.int .u8 191)], .agg [.lit (.int .u8 128), .lit (.int .u8 143)], .agg [.lit (.int .u8 0), .lit (.int .u8 0)], .agg [.lit (.int .u8 0), .lit (.int .u8 0)], .agg [.lit (.int .u8 0), .lit (.int .u8 0)], .agg [.lit (.int .u8 0), .lit (.int .u8 0)], .agg [.lit (.int .u8 0), .lit (.int .u8 0)], .agg [.lit (.int .u8 0), .lit (.int .u8 0)], .agg [.lit (.int .u8 0), .lit (.int .u8 0)], .agg [.lit (.int .u8 0), .lit (.int .u8 0)], .agg [.lit (.int .u8 0), .lit (.int .u8 0)], .agg [.lit (.int .u8 0), .lit (.int .u8 0)], .agg [.lit (.int .u8 0), .lit (.int .u8 0)]]
/-- One of Go's own tables, pinned by name: the form's constant. -/
def laid_unicode_utf8_first : DataW Unit := Go.Pinned.utf8First

/-- 'modalitylaw9.UpperTable': WHATEVER THE INPUT: true; the input reads as it did. -/
def upperTableSpec : ChangeSpec := { name := "upperTable", fn := fun _ => fun
  | [] => { results := [.lit (.bool true)], args := [] }
  | _ => none }
def upperTableRow : OpenClaim := { program := "ytiieikdbhpflgaadoor", sum := "cd3c5a206ef884848b1b3a6619372e21093abbce65629957a295d43ad2f42c0b", func := "modality/modalitylaw9.UpperTable", spec := "upperTable", named := ["modality/upper.table"], apart := false, laid := [("modality/upper.table", laid_modality_upper_table)] }
def UpperTableSaid : Prop := upperTableRow.holds Tryd.pinned (OpenSpec.ofChange upperTableSpec)

/-- ITS FALSE NEIGHBOUR: 'it returns false'. Refute it at one input. -/
def upperTableWrong : ChangeSpec := { name := "upperTable", fn := fun _ => fun
  | [] => { results := [.lit (.bool false)], args := [] }
  | _ => none }
def UpperTableWrongFalsely : Prop := upperTableRow.holds Tryd.pinned (OpenSpec.ofChange upperTableWrong)

/-- 'modalitylaw9.UpperNobody': WHATEVER THE INPUT: true; the input reads as it did. -/
def upperNobodySpec : ChangeSpec := { name := "upperNobody", fn := fun _ => fun
  | [d1, d2] => { results := [.lit (.bool true)], args := [d1, d2] }
  | _ => none }
def upperNobodyRow : OpenClaim := { program := "ytiieikdbhpflgaadoor", sum := "cd3c5a206ef884848b1b3a6619372e21093abbce65629957a295d43ad2f42c0b", func := "modality/modalitylaw9.UpperNobody", spec := "upperNobody", unfollowed := true, recurses := true, named := ["modality/upper.table", "modality/upper.needs"], apart := false, laid := [("modality/upper.table", laid_modality_upper_table), ("modality/upper.needs", laid_modality_upper_needs)] }
def UpperNobodySaid : Prop := upperNobodyRow.holds Tryd.pinned (OpenSpec.ofChange upperNobodySpec)

/-- ITS FALSE NEIGHBOUR: 'it returns false'. Refute it at one input. -/
def upperNobodyWrong : ChangeSpec := { name := "upperNobody", fn := fun _ => fun
  | [d1, d2] => { results := [.lit (.bool false)], args := [d1, d2] }
  | _ => none }
def UpperNobodyWrongFalsely : Prop := upperNobodyRow.holds Tryd.pinned (OpenSpec.ofChange upperNobodyWrong)

/-- 'modalitylaw9.UpperTimer': WHATEVER THE INPUT: true; the input reads as it did. -/
def upperTimerSpec : ChangeSpec := { name := "upperTimer", fn := fun _ => fun
  | [d1, d2] => { results := [.lit (.bool true)], args := [d1, d2] }
  | _ => none }
def upperTimerRow : OpenClaim := { program := "ytiieikdbhpflgaadoor", sum := "cd3c5a206ef884848b1b3a6619372e21093abbce65629957a295d43ad2f42c0b", func := "modality/modalitylaw9.UpperTimer", spec := "upperTimer", unfollowed := true, recurses := true, named := ["modality/upper.table", "modality/upper.needs"], apart := false, laid := [("modality/upper.table", laid_modality_upper_table), ("modality/upper.needs", laid_modality_upper_needs)] }
def UpperTimerSaid : Prop := upperTimerRow.holds Tryd.pinned (OpenSpec.ofChange upperTimerSpec)

/-- ITS FALSE NEIGHBOUR: 'it returns false'. Refute it at one input. -/
def upperTimerWrong : ChangeSpec := { name := "upperTimer", fn := fun _ => fun
  | [d1, d2] => { results := [.lit (.bool false)], args := [d1, d2] }
  | _ => none }
def UpperTimerWrongFalsely : Prop := upperTimerRow.holds Tryd.pinned (OpenSpec.ofChange upperTimerWrong)

/-- 'modalitylaw9.UpperBeside': WHATEVER THE INPUT: true; the input reads as it did. -/
def upperBesideSpec : ChangeSpec := { name := "upperBeside", fn := fun _ => fun
  | [d1, d2, d3, d4, d5, d6, d7] => { results := [.lit (.bool true)], args := [d1, d2, d3, d4, d5, d6, d7] }
  | _ => none }
def upperBesideRow : OpenClaim := { program := "ytiieikdbhpflgaadoor", sum := "cd3c5a206ef884848b1b3a6619372e21093abbce65629957a295d43ad2f42c0b", func := "modality/modalitylaw9.UpperBeside", spec := "upperBeside", named := ["modality/upper.table", "modality/upper.comes"], apart := false, laid := [("modality/upper.table", laid_modality_upper_table), ("modality/upper.comes", laid_modality_upper_comes)] }
def UpperBesideSaid : Prop := upperBesideRow.holds Tryd.pinned (OpenSpec.ofChange upperBesideSpec)

/-- ITS FALSE NEIGHBOUR: 'it returns false'. Refute it at one input. -/
def upperBesideWrong : ChangeSpec := { name := "upperBeside", fn := fun _ => fun
  | [d1, d2, d3, d4, d5, d6, d7] => { results := [.lit (.bool false)], args := [d1, d2, d3, d4, d5, d6, d7] }
  | _ => none }
def UpperBesideWrongFalsely : Prop := upperBesideRow.holds Tryd.pinned (OpenSpec.ofChange upperBesideWrong)

/-- 'modalitylaw9.UpperNegotiates': WHATEVER THE INPUT: true; the input reads as it did. -/
def upperNegotiatesSpec : ChangeSpec := { name := "upperNegotiates", fn := fun _ => fun
  | [d1, d2, d3] => { results := [.lit (.bool true)], args := [d1, d2, d3] }
  | _ => none }
def upperNegotiatesRow : OpenClaim := { program := "ytiieikdbhpflgaadoor", sum := "cd3c5a206ef884848b1b3a6619372e21093abbce65629957a295d43ad2f42c0b", func := "modality/modalitylaw9.UpperNegotiates", spec := "upperNegotiates", inPlace := ["internal/bytealg.IndexByteString", "internal/bytealg.IndexString"], named := ["unicode/utf8.first", "unicode/utf8.acceptRanges", "internal/bytealg.MaxLen"], apart := false, laid := [("unicode/utf8.acceptRanges", laid_unicode_utf8_acceptRanges), ("unicode/utf8.first", laid_unicode_utf8_first)] }
def UpperNegotiatesSaid : Prop := upperNegotiatesRow.holds Tryd.pinned (OpenSpec.ofChange upperNegotiatesSpec)

/-- ITS FALSE NEIGHBOUR: 'it returns false'. Refute it at one input. -/
def upperNegotiatesWrong : ChangeSpec := { name := "upperNegotiates", fn := fun _ => fun
  | [d1, d2, d3] => { results := [.lit (.bool false)], args := [d1, d2, d3] }
  | _ => none }
def UpperNegotiatesWrongFalsely : Prop := upperNegotiatesRow.holds Tryd.pinned (OpenSpec.ofChange upperNegotiatesWrong)

/- THE SECOND FORM. 'bulk': how many values and letters a reading holds, each counted each time it is reached (what is shared counts as often as it is met; a slice's spare places count too). A statement '..UptoSaid' is the law's where the arguments, and the package variables that the reading takes, are together of bulk at most 1048576: NARROWER than '..Said'. Prove '..Said' where nothing that the law and all that it calls make is longer than what came in: it says more and counts as full. Else prove '..UptoSaid'. A law counts once. -/
mutual
def uptoBulk {H : Type} : DataW H → Nat
  | .lit (.string bytes) => bytes.length + 1
  | .lit _ => 1
  | .nil => 1
  | .ptr d => uptoBulk d + 1
  | .slice elems spare => uptoBulkAll elems + uptoBulkAll spare + 1
  | .agg parts => uptoBulkAll parts + 1
  | .iface _ d => uptoBulk d + 1
  | .map entries => uptoBulkEntries entries + 1
  | .held _ => 1
def uptoBulkAll {H : Type} : List (DataW H) → Nat
  | [] => 0
  | d :: r => uptoBulk d + uptoBulkAll r
def uptoBulkEntries {H : Type} : List (Lit × DataW H) → Nat
  | [] => 0
  | x :: r => uptoBulkEntry x + uptoBulkEntries r
def uptoBulkEntry {H : Type} : Lit × DataW H → Nat
  | (.string bytes, d) => bytes.length + uptoBulk d + 1
  | (_, d) => uptoBulk d + 1
 end
def uptoSmall : (H : Type) → List (DataW H) → Bool := fun _ ds => decide (uptoBulkAll ds ≤ 1048576)
def OpenSpec.upto (s : _root_.Go.ChangeSpec) : _root_.Go.OpenSpec := { _root_.Go.OpenSpec.ofChange s with cond := some uptoSmall }

/-- 'modalitylaw9.UpperTable', WHERE WHAT IT READS IS OF BULK AT MOST 1048576: true; the input reads as it did. -/
def upperTableUptoRow : OpenClaim := { program := "ytiieikdbhpflgaadoor", sum := "cd3c5a206ef884848b1b3a6619372e21093abbce65629957a295d43ad2f42c0b", func := "modality/modalitylaw9.UpperTable", spec := "upperTable", named := ["modality/upper.table"], apart := false, laid := [("modality/upper.table", laid_modality_upper_table)], narrowed := true }
def UpperTableUptoSaid : Prop := upperTableUptoRow.holds Tryd.pinned (OpenSpec.upto upperTableSpec)

/-- 'modalitylaw9.UpperNobody', WHERE WHAT IT READS IS OF BULK AT MOST 1048576: true; the input reads as it did. -/
def upperNobodyUptoRow : OpenClaim := { program := "ytiieikdbhpflgaadoor", sum := "cd3c5a206ef884848b1b3a6619372e21093abbce65629957a295d43ad2f42c0b", func := "modality/modalitylaw9.UpperNobody", spec := "upperNobody", unfollowed := true, recurses := true, named := ["modality/upper.table", "modality/upper.needs"], apart := false, laid := [("modality/upper.table", laid_modality_upper_table), ("modality/upper.needs", laid_modality_upper_needs)], narrowed := true }
def UpperNobodyUptoSaid : Prop := upperNobodyUptoRow.holds Tryd.pinned (OpenSpec.upto upperNobodySpec)

/-- 'modalitylaw9.UpperTimer', WHERE WHAT IT READS IS OF BULK AT MOST 1048576: true; the input reads as it did. -/
def upperTimerUptoRow : OpenClaim := { program := "ytiieikdbhpflgaadoor", sum := "cd3c5a206ef884848b1b3a6619372e21093abbce65629957a295d43ad2f42c0b", func := "modality/modalitylaw9.UpperTimer", spec := "upperTimer", unfollowed := true, recurses := true, named := ["modality/upper.table", "modality/upper.needs"], apart := false, laid := [("modality/upper.table", laid_modality_upper_table), ("modality/upper.needs", laid_modality_upper_needs)], narrowed := true }
def UpperTimerUptoSaid : Prop := upperTimerUptoRow.holds Tryd.pinned (OpenSpec.upto upperTimerSpec)

/-- 'modalitylaw9.UpperBeside', WHERE WHAT IT READS IS OF BULK AT MOST 1048576: true; the input reads as it did. -/
def upperBesideUptoRow : OpenClaim := { program := "ytiieikdbhpflgaadoor", sum := "cd3c5a206ef884848b1b3a6619372e21093abbce65629957a295d43ad2f42c0b", func := "modality/modalitylaw9.UpperBeside", spec := "upperBeside", named := ["modality/upper.table", "modality/upper.comes"], apart := false, laid := [("modality/upper.table", laid_modality_upper_table), ("modality/upper.comes", laid_modality_upper_comes)], narrowed := true }
def UpperBesideUptoSaid : Prop := upperBesideUptoRow.holds Tryd.pinned (OpenSpec.upto upperBesideSpec)

/-- 'modalitylaw9.UpperNegotiates', WHERE WHAT IT READS IS OF BULK AT MOST 1048576: true; the input reads as it did. -/
def upperNegotiatesUptoRow : OpenClaim := { program := "ytiieikdbhpflgaadoor", sum := "cd3c5a206ef884848b1b3a6619372e21093abbce65629957a295d43ad2f42c0b", func := "modality/modalitylaw9.UpperNegotiates", spec := "upperNegotiates", inPlace := ["internal/bytealg.IndexByteString", "internal/bytealg.IndexString"], named := ["unicode/utf8.first", "unicode/utf8.acceptRanges", "internal/bytealg.MaxLen"], apart := false, laid := [("unicode/utf8.acceptRanges", laid_unicode_utf8_acceptRanges), ("unicode/utf8.first", laid_unicode_utf8_first)], narrowed := true }
def UpperNegotiatesUptoSaid : Prop := upperNegotiatesUptoRow.holds Tryd.pinned (OpenSpec.upto upperNegotiatesSpec)

end Rows
end Go.Proofs.YtiieikdbhpflgaaDoor

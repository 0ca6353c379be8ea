/-
  NARROWER THAN 'FOR EVERY INPUT', by the rows' own cells (each row's printed sentence says how): JournalNobody: laid · JournalFresh: laid · JournalRooms: laid · JournalOpens: laid · JournalKeeps: laid · JournalPlays: laid.
  DERIVED. THE GIVEN ROWS OF THIS SEAT. 6 by the template 'for every input the law returns true; each argument reads behind the call as it read before'; 0 by the template 'total and deterministic' (their statements: YtbedfillgdhaaaaGreatDoorTotals.lean).
  GIVEN WITH THE SEED: the statements are not yours to turn. If you find one false, say at which input.
  Laid BY PROGRAM, IN A SANDBOX (cutbox-rows.mjs): the forced cells as the released guide's own fill.sh prints them over the translation 9a207e94a68c9ca4… (all of the seat's roots in one cut). By AI agents, Wed Nov 11 2026. No macro, syntax, notation, axiom, sorry.
-/
import Derived.Test.YtbedfillgdhaaaaGreatDoorChecked
import GoSem.Claim
import GoSem.ClaimJoined
import GoSem.ClaimMapViews
import Derived.JoinedTies
import Derived.KernelRfl
namespace Go.Proofs.YtbedfillgdhaaaaGreatDoor
/- THE CELL 'sum', in the pinned program and in every row, IS THE sha256 OF THE DUMP (.gsa) THAT YtbedfillgdhaaaaGreatDoorProg.lean LOADS. Nothing in Lean hashes anything: it is a label: what it is worth is what the hold of that sum in a sandbox is worth. -/
noncomputable def Tryz.pinned : Pinned := { name := "ytbedfillgdhaaaagreatdoor", sum := "9a207e94a68c9ca49d4f63f21a20506e2255e7028e873a343ae199c23b1f84e3", checked := Tryz.checked }
namespace Rows
def none {H : Type} : Left H := { results := [], args := [] }

/- WHAT THE LISTED PACKAGE-LEVEL VARIABLES READ AS WHEN THE CALL BEGINS. Each datum BY PROGRAM (the guide's laid-datum.mjs) off the statement by which the dump's own 'gosem.cut.vars' lays the variable. In a bare row this is a premise. The card (YtbedfillgdhaaaaGreatDoorCards.lean) ties it to the program's text. -/
def laid_errors_errorType {H : Type} : DataW H := .iface "internal/reflectlite.rtype" (.agg [.ptr (.lit (.string [101, 114, 114, 111, 114]))])
def laid_modality_journal_nibbleSums {H : Type} : DataW H := .agg [.lit (.int .u32 0), .lit (.int .u32 498536548), .lit (.int .u32 997073096), .lit (.int .u32 651767980), .lit (.int .u32 1994146192), .lit (.int .u32 1802195444), .lit (.int .u32 1303535960), .lit (.int .u32 1342533948), .lit (.int .u32 3988292384), .lit (.int .u32 4027552580), .lit (.int .u32 3604390888), .lit (.int .u32 3412177804), .lit (.int .u32 2607071920), .lit (.int .u32 2262029012), .lit (.int .u32 2685067896), .lit (.int .u32 3183342108)]

/-- 'modalitylaw2.JournalNobody': WHATEVER THE INPUT: true; the input reads as it did. -/
def journalNobodySpec : ChangeSpec := { name := "journalNobody", fn := fun _ => fun
  | [d1, d2] => { results := [.lit (.bool true)], args := [d1, d2] }
  | _ => none }
def journalNobodyRow : OpenClaim := { program := "ytbedfillgdhaaaagreatdoor", sum := "9a207e94a68c9ca49d4f63f21a20506e2255e7028e873a343ae199c23b1f84e3", func := "modality/modalitylaw2.JournalNobody", spec := "journalNobody", inPlace := ["internal/reflectlite.ValueOf", "(internal/reflectlite.Value).Type", "(internal/reflectlite.Value).IsNil", "internal/reflectlite.TypeOf", "(internal/reflectlite.Value).Elem", "(internal/reflectlite.Value).Set"], unfollowed := true, recurses := true, named := ["modality/journal.nibbleSums", "errors.errorType"], apart := false, laid := [("errors.errorType", laid_errors_errorType), ("modality/journal.nibbleSums", laid_modality_journal_nibbleSums)] }
def JournalNobodySaid : Prop := journalNobodyRow.holds Tryz.pinned (OpenSpec.ofChange journalNobodySpec)

/-- ITS FALSE NEIGHBOUR: 'it returns false'. Refute it at one input. -/
def journalNobodyWrong : ChangeSpec := { name := "journalNobody", fn := fun _ => fun
  | [d1, d2] => { results := [.lit (.bool false)], args := [d1, d2] }
  | _ => none }
def JournalNobodyWrongFalsely : Prop := journalNobodyRow.holds Tryz.pinned (OpenSpec.ofChange journalNobodyWrong)

/-- 'modalitylaw2.JournalFresh': WHATEVER THE INPUT: true; the input reads as it did. -/
def journalFreshSpec : ChangeSpec := { name := "journalFresh", fn := fun _ => fun
  | [d1, d2] => { results := [.lit (.bool true)], args := [d1, d2] }
  | _ => none }
def journalFreshRow : OpenClaim := { program := "ytbedfillgdhaaaagreatdoor", sum := "9a207e94a68c9ca49d4f63f21a20506e2255e7028e873a343ae199c23b1f84e3", func := "modality/modalitylaw2.JournalFresh", spec := "journalFresh", inPlace := ["internal/reflectlite.ValueOf", "(internal/reflectlite.Value).Type", "(internal/reflectlite.Value).IsNil", "internal/reflectlite.TypeOf", "(internal/reflectlite.Value).Elem", "(internal/reflectlite.Value).Set"], unfollowed := true, recurses := true, named := ["modality/journal.nibbleSums", "errors.errorType"], apart := false, laid := [("errors.errorType", laid_errors_errorType), ("modality/journal.nibbleSums", laid_modality_journal_nibbleSums)] }
def JournalFreshSaid : Prop := journalFreshRow.holds Tryz.pinned (OpenSpec.ofChange journalFreshSpec)

/-- ITS FALSE NEIGHBOUR: 'it returns false'. Refute it at one input. -/
def journalFreshWrong : ChangeSpec := { name := "journalFresh", fn := fun _ => fun
  | [d1, d2] => { results := [.lit (.bool false)], args := [d1, d2] }
  | _ => none }
def JournalFreshWrongFalsely : Prop := journalFreshRow.holds Tryz.pinned (OpenSpec.ofChange journalFreshWrong)

/-- 'modalitylaw2.JournalRooms': WHATEVER THE INPUT: true; the input reads as it did. -/
def journalRoomsSpec : ChangeSpec := { name := "journalRooms", fn := fun _ => fun
  | [d1, d2] => { results := [.lit (.bool true)], args := [d1, d2] }
  | _ => none }
def journalRoomsRow : OpenClaim := { program := "ytbedfillgdhaaaagreatdoor", sum := "9a207e94a68c9ca49d4f63f21a20506e2255e7028e873a343ae199c23b1f84e3", func := "modality/modalitylaw2.JournalRooms", spec := "journalRooms", inPlace := ["internal/reflectlite.ValueOf", "(internal/reflectlite.Value).Type", "(internal/reflectlite.Value).IsNil", "internal/reflectlite.TypeOf", "(internal/reflectlite.Value).Elem", "(internal/reflectlite.Value).Set"], unfollowed := true, recurses := true, named := ["modality/journal.nibbleSums", "errors.errorType"], apart := false, laid := [("errors.errorType", laid_errors_errorType), ("modality/journal.nibbleSums", laid_modality_journal_nibbleSums)] }
def JournalRoomsSaid : Prop := journalRoomsRow.holds Tryz.pinned (OpenSpec.ofChange journalRoomsSpec)

/-- ITS FALSE NEIGHBOUR: 'it returns false'. Refute it at one input. -/
def journalRoomsWrong : ChangeSpec := { name := "journalRooms", fn := fun _ => fun
  | [d1, d2] => { results := [.lit (.bool false)], args := [d1, d2] }
  | _ => none }
def JournalRoomsWrongFalsely : Prop := journalRoomsRow.holds Tryz.pinned (OpenSpec.ofChange journalRoomsWrong)

/-- 'modalitylaw2.JournalOpens': WHATEVER THE INPUT: true; the input reads as it did. -/
def journalOpensSpec : ChangeSpec := { name := "journalOpens", fn := fun _ => fun
  | [d1, d2, d3, d4, d5, d6] => { results := [.lit (.bool true)], args := [d1, d2, d3, d4, d5, d6] }
  | _ => none }
def journalOpensRow : OpenClaim := { program := "ytbedfillgdhaaaagreatdoor", sum := "9a207e94a68c9ca49d4f63f21a20506e2255e7028e873a343ae199c23b1f84e3", func := "modality/modalitylaw2.JournalOpens", spec := "journalOpens", inPlace := ["internal/reflectlite.ValueOf", "(internal/reflectlite.Value).Type", "(internal/reflectlite.Value).IsNil", "internal/reflectlite.TypeOf", "(internal/reflectlite.Value).Elem", "(internal/reflectlite.Value).Set"], unfollowed := true, recurses := true, named := ["modality/journal.nibbleSums", "errors.errorType"], apart := false, laid := [("errors.errorType", laid_errors_errorType), ("modality/journal.nibbleSums", laid_modality_journal_nibbleSums)] }
def JournalOpensSaid : Prop := journalOpensRow.holds Tryz.pinned (OpenSpec.ofChange journalOpensSpec)

/-- ITS FALSE NEIGHBOUR: 'it returns false'. Refute it at one input. -/
def journalOpensWrong : ChangeSpec := { name := "journalOpens", fn := fun _ => fun
  | [d1, d2, d3, d4, d5, d6] => { results := [.lit (.bool false)], args := [d1, d2, d3, d4, d5, d6] }
  | _ => none }
def JournalOpensWrongFalsely : Prop := journalOpensRow.holds Tryz.pinned (OpenSpec.ofChange journalOpensWrong)

/-- 'modalitylaw2.JournalKeeps': WHATEVER THE INPUT: true; the input reads as it did. -/
def journalKeepsSpec : ChangeSpec := { name := "journalKeeps", fn := fun _ => fun
  | [d1, d2] => { results := [.lit (.bool true)], args := [d1, d2] }
  | _ => none }
def journalKeepsRow : OpenClaim := { program := "ytbedfillgdhaaaagreatdoor", sum := "9a207e94a68c9ca49d4f63f21a20506e2255e7028e873a343ae199c23b1f84e3", func := "modality/modalitylaw2.JournalKeeps", spec := "journalKeeps", inPlace := ["internal/reflectlite.ValueOf", "(internal/reflectlite.Value).Type", "(internal/reflectlite.Value).IsNil", "internal/reflectlite.TypeOf", "(internal/reflectlite.Value).Elem", "(internal/reflectlite.Value).Set"], unfollowed := true, recurses := true, named := ["modality/journal.nibbleSums", "errors.errorType"], apart := false, laid := [("errors.errorType", laid_errors_errorType), ("modality/journal.nibbleSums", laid_modality_journal_nibbleSums)] }
def JournalKeepsSaid : Prop := journalKeepsRow.holds Tryz.pinned (OpenSpec.ofChange journalKeepsSpec)

/-- ITS FALSE NEIGHBOUR: 'it returns false'. Refute it at one input. -/
def journalKeepsWrong : ChangeSpec := { name := "journalKeeps", fn := fun _ => fun
  | [d1, d2] => { results := [.lit (.bool false)], args := [d1, d2] }
  | _ => none }
def JournalKeepsWrongFalsely : Prop := journalKeepsRow.holds Tryz.pinned (OpenSpec.ofChange journalKeepsWrong)

/-- 'modalitylaw2.JournalPlays': WHATEVER THE INPUT: true; the input reads as it did. -/
def journalPlaysSpec : ChangeSpec := { name := "journalPlays", fn := fun _ => fun
  | [d1, d2] => { results := [.lit (.bool true)], args := [d1, d2] }
  | _ => none }
def journalPlaysRow : OpenClaim := { program := "ytbedfillgdhaaaagreatdoor", sum := "9a207e94a68c9ca49d4f63f21a20506e2255e7028e873a343ae199c23b1f84e3", func := "modality/modalitylaw2.JournalPlays", spec := "journalPlays", inPlace := ["internal/reflectlite.ValueOf", "(internal/reflectlite.Value).Type", "(internal/reflectlite.Value).IsNil", "internal/reflectlite.TypeOf", "(internal/reflectlite.Value).Elem", "(internal/reflectlite.Value).Set"], unfollowed := true, recurses := true, named := ["modality/journal.nibbleSums", "errors.errorType"], apart := false, laid := [("errors.errorType", laid_errors_errorType), ("modality/journal.nibbleSums", laid_modality_journal_nibbleSums)] }
def JournalPlaysSaid : Prop := journalPlaysRow.holds Tryz.pinned (OpenSpec.ofChange journalPlaysSpec)

/-- ITS FALSE NEIGHBOUR: 'it returns false'. Refute it at one input. -/
def journalPlaysWrong : ChangeSpec := { name := "journalPlays", fn := fun _ => fun
  | [d1, d2] => { results := [.lit (.bool false)], args := [d1, d2] }
  | _ => none }
def JournalPlaysWrongFalsely : Prop := journalPlaysRow.holds Tryz.pinned (OpenSpec.ofChange journalPlaysWrong)

/- THE SECOND FORM. 'bulk': how many values and letters a reading holds, each counted each time it is reached (what is shared counts as often as it is met; a slice's spare places count too). A statement '..UptoSaid' is the law's where the arguments, and the package variables that the reading takes, are together of bulk at most 1048576: NARROWER than '..Said'. Prove '..Said' where nothing that the law and all that it calls make is longer than what came in: it says more and counts as full. Else prove '..UptoSaid'. A law counts once. -/
mutual
def uptoBulk {H : Type} : DataW H → Nat
  | .lit (.string bytes) => bytes.length + 1
  | .lit _ => 1
  | .nil => 1
  | .ptr d => uptoBulk d + 1
  | .slice elems spare => uptoBulkAll elems + uptoBulkAll spare + 1
  | .agg parts => uptoBulkAll parts + 1
  | .iface _ d => uptoBulk d + 1
  | .map entries => uptoBulkEntries entries + 1
  | .held _ => 1
def uptoBulkAll {H : Type} : List (DataW H) → Nat
  | [] => 0
  | d :: r => uptoBulk d + uptoBulkAll r
def uptoBulkEntries {H : Type} : List (Lit × DataW H) → Nat
  | [] => 0
  | x :: r => uptoBulkEntry x + uptoBulkEntries r
def uptoBulkEntry {H : Type} : Lit × DataW H → Nat
  | (.string bytes, d) => bytes.length + uptoBulk d + 1
  | (_, d) => uptoBulk d + 1
 end
def uptoSmall : (H : Type) → List (DataW H) → Bool := fun _ ds => decide (uptoBulkAll ds ≤ 1048576)
def OpenSpec.upto (s : _root_.Go.ChangeSpec) : _root_.Go.OpenSpec := { _root_.Go.OpenSpec.ofChange s with cond := some uptoSmall }

/-- 'modalitylaw2.JournalNobody', WHERE WHAT IT READS IS OF BULK AT MOST 1048576: true; the input reads as it did. -/
def journalNobodyUptoRow : OpenClaim := { program := "ytbedfillgdhaaaagreatdoor", sum := "9a207e94a68c9ca49d4f63f21a20506e2255e7028e873a343ae199c23b1f84e3", func := "modality/modalitylaw2.JournalNobody", spec := "journalNobody", inPlace := ["internal/reflectlite.ValueOf", "(internal/reflectlite.Value).Type", "(internal/reflectlite.Value).IsNil", "internal/reflectlite.TypeOf", "(internal/reflectlite.Value).Elem", "(internal/reflectlite.Value).Set"], unfollowed := true, recurses := true, named := ["modality/journal.nibbleSums", "errors.errorType"], apart := false, laid := [("errors.errorType", laid_errors_errorType), ("modality/journal.nibbleSums", laid_modality_journal_nibbleSums)], narrowed := true }
def JournalNobodyUptoSaid : Prop := journalNobodyUptoRow.holds Tryz.pinned (OpenSpec.upto journalNobodySpec)

/-- 'modalitylaw2.JournalFresh', WHERE WHAT IT READS IS OF BULK AT MOST 1048576: true; the input reads as it did. -/
def journalFreshUptoRow : OpenClaim := { program := "ytbedfillgdhaaaagreatdoor", sum := "9a207e94a68c9ca49d4f63f21a20506e2255e7028e873a343ae199c23b1f84e3", func := "modality/modalitylaw2.JournalFresh", spec := "journalFresh", inPlace := ["internal/reflectlite.ValueOf", "(internal/reflectlite.Value).Type", "(internal/reflectlite.Value).IsNil", "internal/reflectlite.TypeOf", "(internal/reflectlite.Value).Elem", "(internal/reflectlite.Value).Set"], unfollowed := true, recurses := true, named := ["modality/journal.nibbleSums", "errors.errorType"], apart := false, laid := [("errors.errorType", laid_errors_errorType), ("modality/journal.nibbleSums", laid_modality_journal_nibbleSums)], narrowed := true }
def JournalFreshUptoSaid : Prop := journalFreshUptoRow.holds Tryz.pinned (OpenSpec.upto journalFreshSpec)

/-- 'modalitylaw2.JournalRooms', WHERE WHAT IT READS IS OF BULK AT MOST 1048576: true; the input reads as it did. -/
def journalRoomsUptoRow : OpenClaim := { program := "ytbedfillgdhaaaagreatdoor", sum := "9a207e94a68c9ca49d4f63f21a20506e2255e7028e873a343ae199c23b1f84e3", func := "modality/modalitylaw2.JournalRooms", spec := "journalRooms", inPlace := ["internal/reflectlite.ValueOf", "(internal/reflectlite.Value).Type", "(internal/reflectlite.Value).IsNil", "internal/reflectlite.TypeOf", "(internal/reflectlite.Value).Elem", "(internal/reflectlite.Value).Set"], unfollowed := true, recurses := true, named := ["modality/journal.nibbleSums", "errors.errorType"], apart := false, laid := [("errors.errorType", laid_errors_errorType), ("modality/journal.nibbleSums", laid_modality_journal_nibbleSums)], narrowed := true }
def JournalRoomsUptoSaid : Prop := journalRoomsUptoRow.holds Tryz.pinned (OpenSpec.upto journalRoomsSpec)

/-- 'modalitylaw2.JournalOpens', WHERE WHAT IT READS IS OF BULK AT MOST 1048576: true; the input reads as it did. -/
def journalOpensUptoRow : OpenClaim := { program := "ytbedfillgdhaaaagreatdoor", sum := "9a207e94a68c9ca49d4f63f21a20506e2255e7028e873a343ae199c23b1f84e3", func := "modality/modalitylaw2.JournalOpens", spec := "journalOpens", inPlace := ["internal/reflectlite.ValueOf", "(internal/reflectlite.Value).Type", "(internal/reflectlite.Value).IsNil", "internal/reflectlite.TypeOf", "(internal/reflectlite.Value).Elem", "(internal/reflectlite.Value).Set"], unfollowed := true, recurses := true, named := ["modality/journal.nibbleSums", "errors.errorType"], apart := false, laid := [("errors.errorType", laid_errors_errorType), ("modality/journal.nibbleSums", laid_modality_journal_nibbleSums)], narrowed := true }
def JournalOpensUptoSaid : Prop := journalOpensUptoRow.holds Tryz.pinned (OpenSpec.upto journalOpensSpec)

/-- 'modalitylaw2.JournalKeeps', WHERE WHAT IT READS IS OF BULK AT MOST 1048576: true; the input reads as it did. -/
def journalKeepsUptoRow : OpenClaim := { program := "ytbedfillgdhaaaagreatdoor", sum := "9a207e94a68c9ca49d4f63f21a20506e2255e7028e873a343ae199c23b1f84e3", func := "modality/modalitylaw2.JournalKeeps", spec := "journalKeeps", inPlace := ["internal/reflectlite.ValueOf", "(internal/reflectlite.Value).Type", "(internal/reflectlite.Value).IsNil", "internal/reflectlite.TypeOf", "(internal/reflectlite.Value).Elem", "(internal/reflectlite.Value).Set"], unfollowed := true, recurses := true, named := ["modality/journal.nibbleSums", "errors.errorType"], apart := false, laid := [("errors.errorType", laid_errors_errorType), ("modality/journal.nibbleSums", laid_modality_journal_nibbleSums)], narrowed := true }
def JournalKeepsUptoSaid : Prop := journalKeepsUptoRow.holds Tryz.pinned (OpenSpec.upto journalKeepsSpec)

/-- 'modalitylaw2.JournalPlays', WHERE WHAT IT READS IS OF BULK AT MOST 1048576: true; the input reads as it did. -/
def journalPlaysUptoRow : OpenClaim := { program := "ytbedfillgdhaaaagreatdoor", sum := "9a207e94a68c9ca49d4f63f21a20506e2255e7028e873a343ae199c23b1f84e3", func := "modality/modalitylaw2.JournalPlays", spec := "journalPlays", inPlace := ["internal/reflectlite.ValueOf", "(internal/reflectlite.Value).Type", "(internal/reflectlite.Value).IsNil", "internal/reflectlite.TypeOf", "(internal/reflectlite.Value).Elem", "(internal/reflectlite.Value).Set"], unfollowed := true, recurses := true, named := ["modality/journal.nibbleSums", "errors.errorType"], apart := false, laid := [("errors.errorType", laid_errors_errorType), ("modality/journal.nibbleSums", laid_modality_journal_nibbleSums)], narrowed := true }
def JournalPlaysUptoSaid : Prop := journalPlaysUptoRow.holds Tryz.pinned (OpenSpec.upto journalPlaysSpec)

end Rows
end Go.Proofs.YtbedfillgdhaaaaGreatDoor

/-
  No cell of these rows narrows 'for every input' (looked for: loops, veiled, ifaces, maps, wideKeys, modest, calm, conditions, laid).
  DERIVED. THE GIVEN ROWS OF THIS SEAT. 4 by the template 'for every input the law returns true; each argument reads behind the call as it read before'; 0 by the template 'total and deterministic' (their statements: YtfjcmniicbppdaaTotals.lean).
  GIVEN WITH THE SEED: the statements are not yours to turn. If you find one false, say at which input.
  Laid BY PROGRAM, IN A SANDBOX (cutbox-rows.mjs): the forced cells as the released guide's own fill.sh prints them over the translation b3984441b58f7783… (all of the seat's roots in one cut). By AI agents, Wed Nov 11 2026. No macro, syntax, notation, axiom, sorry.
-/
import Derived.Test.YtfjcmniicbppdaaChecked
import GoSem.Claim
import GoSem.ClaimJoined
import GoSem.ClaimMapViews
import Derived.JoinedTies
import Derived.KernelRfl
namespace Go.Proofs.Ytfjcmniicbppdaa
/- THE CELL 'sum', in the pinned program and in every row, IS THE sha256 OF THE DUMP (.gsa) THAT YtfjcmniicbppdaaProg.lean LOADS. Nothing in Lean hashes anything: it is a label: what it is worth is what the hold of that sum in a sandbox is worth. -/
noncomputable def Try.pinned : Pinned := { name := "ytfjcmniicbppdaa", sum := "b3984441b58f7783b8f1829b094c9ac30dc26ad1fb7b482c82d55c3087a89607", checked := Try.checked }
namespace Rows
def none {H : Type} : Left H := { results := [], args := [] }

/-- 'modalitylaw11.FeedNobody': WHATEVER THE INPUT: true; the input reads as it did. -/
def feedNobodySpec : ChangeSpec := { name := "feedNobody", fn := fun _ => fun
  | [d] => { results := [.lit (.bool true)], args := [d] }
  | _ => none }
def feedNobodyRow : OpenClaim := { program := "ytfjcmniicbppdaa", sum := "b3984441b58f7783b8f1829b094c9ac30dc26ad1fb7b482c82d55c3087a89607", func := "modality/modalitylaw11.FeedNobody", spec := "feedNobody", apart := false }
def FeedNobodySaid : Prop := feedNobodyRow.holds Try.pinned (OpenSpec.ofChange feedNobodySpec)

/-- ITS FALSE NEIGHBOUR: 'it returns false'. Refute it at one input. -/
def feedNobodyWrong : ChangeSpec := { name := "feedNobody", fn := fun _ => fun
  | [d] => { results := [.lit (.bool false)], args := [d] }
  | _ => none }
def FeedNobodyWrongFalsely : Prop := feedNobodyRow.holds Try.pinned (OpenSpec.ofChange feedNobodyWrong)

/-- 'modalitylaw11.FeedCuts': WHATEVER THE INPUT: true; the input reads as it did. -/
def feedCutsSpec : ChangeSpec := { name := "feedCuts", fn := fun _ => fun
  | [d1, d2, d3] => { results := [.lit (.bool true)], args := [d1, d2, d3] }
  | _ => none }
def feedCutsRow : OpenClaim := { program := "ytfjcmniicbppdaa", sum := "b3984441b58f7783b8f1829b094c9ac30dc26ad1fb7b482c82d55c3087a89607", func := "modality/modalitylaw11.FeedCuts", spec := "feedCuts", apart := false }
def FeedCutsSaid : Prop := feedCutsRow.holds Try.pinned (OpenSpec.ofChange feedCutsSpec)

/-- ITS FALSE NEIGHBOUR: 'it returns false'. Refute it at one input. -/
def feedCutsWrong : ChangeSpec := { name := "feedCuts", fn := fun _ => fun
  | [d1, d2, d3] => { results := [.lit (.bool false)], args := [d1, d2, d3] }
  | _ => none }
def FeedCutsWrongFalsely : Prop := feedCutsRow.holds Try.pinned (OpenSpec.ofChange feedCutsWrong)

/-- 'modalitylaw11.FeedFrames': WHATEVER THE INPUT: true; the input reads as it did. -/
def feedFramesSpec : ChangeSpec := { name := "feedFrames", fn := fun _ => fun
  | [d1, d2] => { results := [.lit (.bool true)], args := [d1, d2] }
  | _ => none }
def feedFramesRow : OpenClaim := { program := "ytfjcmniicbppdaa", sum := "b3984441b58f7783b8f1829b094c9ac30dc26ad1fb7b482c82d55c3087a89607", func := "modality/modalitylaw11.FeedFrames", spec := "feedFrames", apart := false }
def FeedFramesSaid : Prop := feedFramesRow.holds Try.pinned (OpenSpec.ofChange feedFramesSpec)

/-- ITS FALSE NEIGHBOUR: 'it returns false'. Refute it at one input. -/
def feedFramesWrong : ChangeSpec := { name := "feedFrames", fn := fun _ => fun
  | [d1, d2] => { results := [.lit (.bool false)], args := [d1, d2] }
  | _ => none }
def FeedFramesWrongFalsely : Prop := feedFramesRow.holds Try.pinned (OpenSpec.ofChange feedFramesWrong)

/-- 'modalitylaw11.FeedAcks': WHATEVER THE INPUT: true; the input reads as it did. -/
def feedAcksSpec : ChangeSpec := { name := "feedAcks", fn := fun _ => fun
  | [d1, d2, d3] => { results := [.lit (.bool true)], args := [d1, d2, d3] }
  | _ => none }
def feedAcksRow : OpenClaim := { program := "ytfjcmniicbppdaa", sum := "b3984441b58f7783b8f1829b094c9ac30dc26ad1fb7b482c82d55c3087a89607", func := "modality/modalitylaw11.FeedAcks", spec := "feedAcks", inPlace := ["internal/bytealg.IndexByteString", "internal/bytealg.IndexString", "internal/abi.NoEscape"], named := ["internal/bytealg.MaxLen"], apart := false }
def FeedAcksSaid : Prop := feedAcksRow.holds Try.pinned (OpenSpec.ofChange feedAcksSpec)

/-- ITS FALSE NEIGHBOUR: 'it returns false'. Refute it at one input. -/
def feedAcksWrong : ChangeSpec := { name := "feedAcks", fn := fun _ => fun
  | [d1, d2, d3] => { results := [.lit (.bool false)], args := [d1, d2, d3] }
  | _ => none }
def FeedAcksWrongFalsely : Prop := feedAcksRow.holds Try.pinned (OpenSpec.ofChange feedAcksWrong)

/- THE SECOND FORM. 'bulk': how many values and letters a reading holds, each counted each time it is reached (what is shared counts as often as it is met; a slice's spare places count too). A statement '..UptoSaid' is the law's where the arguments, and the package variables that the reading takes, are together of bulk at most 1048576: NARROWER than '..Said'. Prove '..Said' where nothing that the law and all that it calls make is longer than what came in: it says more and counts as full. Else prove '..UptoSaid'. A law counts once. -/
mutual
def uptoBulk {H : Type} : DataW H → Nat
  | .lit (.string bytes) => bytes.length + 1
  | .lit _ => 1
  | .nil => 1
  | .ptr d => uptoBulk d + 1
  | .slice elems spare => uptoBulkAll elems + uptoBulkAll spare + 1
  | .agg parts => uptoBulkAll parts + 1
  | .iface _ d => uptoBulk d + 1
  | .map entries => uptoBulkEntries entries + 1
  | .held _ => 1
def uptoBulkAll {H : Type} : List (DataW H) → Nat
  | [] => 0
  | d :: r => uptoBulk d + uptoBulkAll r
def uptoBulkEntries {H : Type} : List (Lit × DataW H) → Nat
  | [] => 0
  | x :: r => uptoBulkEntry x + uptoBulkEntries r
def uptoBulkEntry {H : Type} : Lit × DataW H → Nat
  | (.string bytes, d) => bytes.length + uptoBulk d + 1
  | (_, d) => uptoBulk d + 1
 end
def uptoSmall : (H : Type) → List (DataW H) → Bool := fun _ ds => decide (uptoBulkAll ds ≤ 1048576)
def OpenSpec.upto (s : _root_.Go.ChangeSpec) : _root_.Go.OpenSpec := { _root_.Go.OpenSpec.ofChange s with cond := some uptoSmall }

/-- 'modalitylaw11.FeedNobody', WHERE WHAT IT READS IS OF BULK AT MOST 1048576: true; the input reads as it did. -/
def feedNobodyUptoRow : OpenClaim := { program := "ytfjcmniicbppdaa", sum := "b3984441b58f7783b8f1829b094c9ac30dc26ad1fb7b482c82d55c3087a89607", func := "modality/modalitylaw11.FeedNobody", spec := "feedNobody", apart := false, narrowed := true }
def FeedNobodyUptoSaid : Prop := feedNobodyUptoRow.holds Try.pinned (OpenSpec.upto feedNobodySpec)

/-- 'modalitylaw11.FeedCuts', WHERE WHAT IT READS IS OF BULK AT MOST 1048576: true; the input reads as it did. -/
def feedCutsUptoRow : OpenClaim := { program := "ytfjcmniicbppdaa", sum := "b3984441b58f7783b8f1829b094c9ac30dc26ad1fb7b482c82d55c3087a89607", func := "modality/modalitylaw11.FeedCuts", spec := "feedCuts", apart := false, narrowed := true }
def FeedCutsUptoSaid : Prop := feedCutsUptoRow.holds Try.pinned (OpenSpec.upto feedCutsSpec)

/-- 'modalitylaw11.FeedFrames', WHERE WHAT IT READS IS OF BULK AT MOST 1048576: true; the input reads as it did. -/
def feedFramesUptoRow : OpenClaim := { program := "ytfjcmniicbppdaa", sum := "b3984441b58f7783b8f1829b094c9ac30dc26ad1fb7b482c82d55c3087a89607", func := "modality/modalitylaw11.FeedFrames", spec := "feedFrames", apart := false, narrowed := true }
def FeedFramesUptoSaid : Prop := feedFramesUptoRow.holds Try.pinned (OpenSpec.upto feedFramesSpec)

/-- 'modalitylaw11.FeedAcks', WHERE WHAT IT READS IS OF BULK AT MOST 1048576: true; the input reads as it did. -/
def feedAcksUptoRow : OpenClaim := { program := "ytfjcmniicbppdaa", sum := "b3984441b58f7783b8f1829b094c9ac30dc26ad1fb7b482c82d55c3087a89607", func := "modality/modalitylaw11.FeedAcks", spec := "feedAcks", inPlace := ["internal/bytealg.IndexByteString", "internal/bytealg.IndexString", "internal/abi.NoEscape"], named := ["internal/bytealg.MaxLen"], apart := false, narrowed := true }
def FeedAcksUptoSaid : Prop := feedAcksUptoRow.holds Try.pinned (OpenSpec.upto feedAcksSpec)

end Rows
end Go.Proofs.Ytfjcmniicbppdaa

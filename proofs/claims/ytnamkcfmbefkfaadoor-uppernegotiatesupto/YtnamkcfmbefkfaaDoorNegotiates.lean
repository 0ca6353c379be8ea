import Derived.Test.YtnamkcfmbefkfaaDoorRows
import Derived.Test.YtnamkcfmbefkfaaDoorTie
import Derived.Test.YtnamkcfmbefkfaaDoorCards
import Derived.Test.YtnamkcfmbefkfaaDoorOr
import Derived.ProofKit
import Derived.LaidMore
import Derived.LaidSub
import Derived.Lay
import Derived.OpenShut
import Derived.ShutString
import Derived.SizedLaws
import Derived.ChangeOld
import Derived.ChangeMaps5
import Derived.ChangeArms
import Derived.Deep.Strs
import Derived.SevenTiedAt
import Derived.Stop.Joined
import Derived.JoinedCond
import Derived.Deep.DeepHandedRow
namespace Go.Proofs.YtnamkcfmbefkfaaDoor.negotiates
open Go.ChangeShapes Go.WideShapes Go.ChangeAt Go.WideMaps Go.WideElems Go.RowKit Go.ChangeMaps

theorem own : ownKnob Tryd.prog.godebug = none := by kernel_rfl
theorem laidOut : laidOutB Tryd.prog = true := by kernel_rfl
theorem cells33 : Tryd.prog.cellsOf 33 = 19 := by kernel_rfl
theorem cells36 : Tryd.prog.cellsOf 36 = 5 := by kernel_rfl

set_option maxRecDepth 100000 in
theorem contract (H : Type) (enc : TypeId × Value → H) (W : World) (base : Nat) (args : Array Value) (ds gs : List (DataW H)) (before : List MemPlace)
    (hval0 : ∀ (j : Nat) t v, Tryd.f3.params[j]? = some t → args[j]? = some v → Value.okWide Tryd.prog W .any base t v)
    (hW : DataW.Whole enc Tryd.prog Tryd.f3.params.toList Rows.upperNegotiatesSpec.vars false W args.toList ds gs before) (hk : Rows.uptoSmall H (ds ++ gs) = true) :
    Calls Tryd.prog 3 args W fun e W' => ∃ v, e = .returned v ∧ Rows.upperNegotiatesSpec.post enc Tryd.prog Tryd.f3 false true false false W args v W' := by
  have hval := hval0
  have hW' := hW
  obtain ⟨p, q, hA0, hV, rfl, hfz, hnd⟩ := hW
  have hA : DataW.TrodAll enc Tryd.prog W 0 (fun _ => true) true Tryd.f3.params.toList args.toList ds p := hA0
  rw [Tryd.params3] at hA hval
  obtain ⟨v0, vs0, d0, ds0, p0, q0, hargs, rfl, rfl, h0, r0⟩ := trodAll_cons hA
  obtain ⟨v1, vs1, d1, ds1, p1, q1, rfl, rfl, rfl, h1, r1⟩ := trodAll_cons r0
  obtain ⟨v2, vs2, d2, ds2, p2, q2, rfl, rfl, rfl, h2, r2⟩ := trodAll_cons r1
  obtain ⟨rfl, rfl, rfl⟩ := trodAll_nil r2
  obtain rfl : args = #[v0, v1, v2] := by cases args; simp_all
  obtain ⟨rfl, rfl⟩ := trodVars_none hV
  have k0 := h0
  have k1 := h1
  have k2 := h2
  have lt0 : ∀ x ∈ p0, x.block < W.heap.size := by obtain ⟨m, hm⟩ := k0; exact DataW.trod_lt m _ _ _ hm
  have lt1 : ∀ x ∈ p1, x.block < W.heap.size := by obtain ⟨m, hm⟩ := k1; exact DataW.trod_lt m _ _ _ hm
  have lt2 : ∀ x ∈ p2, x.block < W.heap.size := by obtain ⟨m, hm⟩ := k2; exact DataW.trod_lt m _ _ _ hm
  have hb0 : Rows.uptoBulk d0 ≤ 1048576 := by
    have h := of_decide_eq_true hk
    simp only [List.cons_append, List.nil_append, Rows.uptoBulkAll] at h
    omega
  have hb1 : Rows.uptoBulk d1 ≤ 1048576 := by
    have h := of_decide_eq_true hk
    simp only [List.cons_append, List.nil_append, Rows.uptoBulkAll] at h
    omega
  obtain ⟨cs0, rfl, hl0⟩ := okWide_struct Tryd.underlying33 (hval 0 33 v0 rfl rfl)
  rw [cells33] at hl0
  obtain ⟨cs1, rfl, hl1⟩ := okWide_struct Tryd.underlying36 (hval 1 36 v1 rfl rfl)
  rw [cells36] at hl1
  obtain ⟨z2, rfl, _⟩ := open_int Tryd.underlying3 (hval 2 3 v2 rfl rfl) h2
  have R0 : Rd enc W 0 (fun _ => true) true 33 cs0.toList := by
    obtain ⟨fuel, hf⟩ := h0
    exact ⟨fuel, d0, _, by simpa only [Value.cells] using hf, hb0⟩
  have R1 : Rd enc W 0 (fun _ => true) true 36 cs1.toList := by
    obtain ⟨fuel, hf⟩ := h1
    exact ⟨fuel, d1, _, by simpa only [Value.cells] using hf, hb1⟩
  obtain ⟨k, c, D, e0, hX, -, hS⟩ := rd_pduX R0 (by rw [Array.length_toList]; exact hl0)
  rw [e0] at R0
  obtain ⟨r, hr, hrs, hrm⟩ := rd_rq R0 hX.one
  have hT := rd_ty R0
  obtain ⟨s, cv, a1, a2, e1, hTR, hs1, hs2⟩ := rd_sv R1 (by rw [Array.length_toList]; exact hl1)
  obtain rfl : cs0 = Pd k c := Array.toList_inj.1 e0
  obtain rfl : cs1 = cfA s cv a1 a2 := Array.toList_inj.1 e1
  clear hA0 hval0 hval
  simp only [List.append_nil] at hW'
  refine (law_any W k c D cv a1 a2 r s z2 ⟨hr, hX, hS, hT, hTR, ⟨hrs, hs1, hs2⟩, hrm⟩).mono fun e W' ⟨he, bel⟩ => ?_
  subst he
  exact ⟨_, rfl, _, _, _, [], _, [], hW', trodAll_mk1 (shut_bool Tryd.underlying4 _), (trodAll_cons_mk (Below.trod laidOut (by kernel_rfl) (of_decide_eq_true (by kernel_rfl)) k0 bel lt0) (trodAll_cons_mk (Below.trod laidOut (by kernel_rfl) (of_decide_eq_true (by kernel_rfl)) k1 bel lt1) (trodAll_cons_mk (Below.trod laidOut (by kernel_rfl) (of_decide_eq_true (by kernel_rfl)) k2 bel lt2) trodAll_mk0))), rfl, bel.frame _, fun h => by cases h⟩

def zq : Array Value := #[.int .i64 0, .int .u16 0, .string ⟨#[]⟩, .string ⟨#[]⟩, .string ⟨#[]⟩, .slice none 0 0, .bool false, .int .u32 0, .string ⟨#[]⟩, .string ⟨#[]⟩, .bool false, .int .u16 0, .int .u16 0, .slice none 0 0, .slice none 0 0, .int .u8 0, .int .u8 0, .int .u8 0, .slice none 0 0]
def zf : Array Value := #[.string ⟨#[]⟩, .slice none 0 0, .int .i64 0, .int .i64 0, .int .i64 0]
def dq (H : Type) : DataW H := .agg [.lit (.int .i64 0), .agg [.lit (.int .u16 0), .lit (.string []), .lit (.string []), .lit (.string []), .nil, .agg [.lit (.bool false), .lit (.int .u32 0), .lit (.string []), .lit (.string []), .lit (.bool false), .lit (.int .u16 0), .lit (.int .u16 0), .nil, .nil]], .lit (.int .u8 0), .lit (.int .u8 0), .lit (.int .u8 0), .nil]
def df (H : Type) : DataW H := .agg [.lit (.string []), .nil, .lit (.int .i64 0), .lit (.int .i64 0), .lit (.int .i64 0)]

def laid : List (String × DataW Unit) := Rows.upperNegotiatesUptoRow.laid

theorem reads (os : Os) {H : Type} (enc : TypeId × Value → H) : ∃ places, DataW.whole enc Tryd.prog ((World.laidAll Tryd.prog os laid).forCall (fun _ _ => 0) ⟨#[], #[.agg zq, .agg zf, .int .i64 0], []⟩).memory Tryd.f3.params.toList Rows.upperNegotiatesSpec.vars false #[Value.agg zq, .agg zf, .int .i64 0].toList 8 = some ([dq H, df H, .lit (.int .i64 0)], [], places) :=
  ⟨[], by kernel_rfl⟩

set_option maxRecDepth 100000 in
theorem liftedUpto (os : Os) (started : os.Started) (H : Type) (enc : TypeId × Value → H) (F : Stop.Interp) :
    ReturnsInHanded {} Tryd.checked os 3 .any ((Rows.OpenSpec.upto Rows.upperNegotiatesSpec).preRow enc Tryd.prog Tryd.f3 Rows.upperNegotiatesUptoRow.domain false Rows.upperNegotiatesUptoRow.laid) (((Rows.OpenSpec.upto Rows.upperNegotiatesSpec).at F).post enc Tryd.prog Tryd.f3 false true false false) := by
  obtain ⟨places, hx⟩ := reads os enc
  refine returnsInHanded_of_row (C := Tryd.checked) (s := Rows.OpenSpec.upto Rows.upperNegotiatesSpec) own started (by kernel_rfl) Tryd.func3
    (witness_row_at (enc := enc) (C := Tryd.checked) false (World.laidAll Tryd.prog os laid) #[.agg zq, .agg zf, .int .i64 0] (World.laidAll_os _ _ _) (by kernel_rfl) (by kernel_rfl) (by kernel_rfl)
      (OpenSpec.preRow_of_cond 8 hx (by kernel_rfl) (fun k hk => by cases hk; kernel_rfl) (by kernel_rfl) (laidMet_laidAll _ (by kernel_rfl) (by kernel_rfl)))) ?_
  intro W base args ds gs before hval hW _ hcond _ hL _ _
  exact contract H enc W base args ds gs before hval hW (hcond _ rfl)

theorem saidUpto : Rows.UpperNegotiatesUptoSaid :=
  OpenClaim.holds_of_cond 3 Tryd.f3 rfl rfl rfl rfl rfl rfl rfl ⟨rfl, rfl, rfl, rfl, rfl⟩ rfl rfl rfl rfl rfl (by kernel_rfl) Tryd.func3 (by kernel_rfl)
    (of_decide_eq_true (by kernel_rfl)) (by unfold Func.isWrapper; first | (rw [if_pos (by decide +kernel)]; kernel_rfl) | (rw [if_neg (by decide +kernel)]; exact ⟨rfl, rfl⟩))
    (fun os started H enc _ F => by rw [OpenClaim.pre_eq_preRow]; exact liftedUpto os started H enc F)
end Go.Proofs.YtnamkcfmbefkfaaDoor.negotiates

namespace Go.Proofs.YtnamkcfmbefkfaaDoor
theorem upperNegotiates_holds : Rows.UpperNegotiatesUptoCardSaid :=
  Claim7.holds_tied_plain_at .later [] [.data, .pinned] true (true, "99a774e17ffa801cae38add52bd9c4a66187080ef0f976da7b4dc05f182bab39") false
    negotiates.saidUpto (fun _ h => by cases h) (by kernel_rfl) (fun _ h => by cases h) upperNegotiatesUpto_row_tie rfl ⟨rfl, rfl⟩ (by kernel_rfl) rfl
    (fun f fn hf hfn => by
      obtain rfl : f = 3 := Option.some.inj ((show Tryd.prog.funcNamed "modality/modalitylaw9.UpperNegotiates" = some 3 by kernel_rfl).symm.trans hf) |>.symm
      obtain rfl : fn = Tryd.f3 := (Option.some.inj (Tryd.func3.symm.trans hfn)).symm
      exact ⟨by kernel_rfl, fun j t ht => by
        rw [Tryd.params3] at ht
        have hm : t ∈ [33, 36, 3] := by simpa using Array.mem_of_getElem? ht
        have hall : ([33, 36, 3].all fun u => !Tryd.prog.wantsStandIn u) = true := by kernel_rfl
        exact (show Tryd.prog.wantsStandIn t = false by simpa using List.all_eq_true.1 hall t hm)⟩)
    (by kernel_rfl)
#print axioms upperNegotiates_holds
end Go.Proofs.YtnamkcfmbefkfaaDoor

import Derived.Test.YtohojghndnfgdaaDoorRows
import Derived.Test.YtohojghndnfgdaaDoorTie
import Derived.Test.YtohojghndnfgdaaDoorCards
import Derived.Test.YtohojghndnfgdaaDoorPr
import Derived.ProofKit
import Derived.LaidSub
import Derived.Lay
import Derived.OpenShut
import Derived.ShutString
import Derived.SizedLaws
import Derived.ChangeOld
import Derived.ChangeMaps5
import Derived.Deep.Strs
import Derived.SevenTiedAt
import Derived.Stop.Joined
import Derived.JoinedCond
import Derived.Deep.DeepHandedRow
namespace Go.Proofs.YtohojghndnfgdaaDoor.persons
open Go.ChangeShapes Go.WideShapes Go.ChangeAt Go.WideMaps Go.WideElems Go.RowKit Go.ChangeMaps

theorem own : ownKnob Tryd.prog.godebug = none := by kernel_rfl
theorem laidOut : laidOutB Tryd.prog = true := by kernel_rfl

def laid : List (String × DataW Unit) := Rows.valuePersonsUptoRow.laid

theorem cells25 : Tryd.prog.cellsOf 25 = 15 := by kernel_rfl
theorem cells23 : Tryd.prog.cellsOf 23 = 15 := by kernel_rfl

def sl (s : ByteArray) {H : Type} : DataW H := .lit (.string s.data.toList)
theorem row5 {H : Type} {enc : TypeId × Value → H} {W : World} {b : Nat} {spare : Nat → Bool} {held : Bool} {fuel : Nat} {c0 c1 c2 c3 c4 : Value} {x : DataW H × List MemPlace}
    (h : DataW.trod enc Tryd.prog W b spare held fuel 22 [c0, c1, c2, c3, c4] = some x) :
    ∃ s0 s1 s2 s3 s4 : ByteArray, c0 = .string s0 ∧ c1 = .string s1 ∧ c2 = .string s2 ∧ c3 = .string s3 ∧ c4 = .string s4 ∧ x = (.agg [sl s0, sl s1, sl s2, sl s3, sl s4], []) := by
  obtain ⟨xs, m, _, rfl, _, hxl, hall⟩ := DataW.trod_array Tryd.underlying22 h
  match xs, hxl with
  | [y0, y1, y2, y3, y4], _ =>
    rw [cel9] at hall
    obtain ⟨s0, e0, rfl, _⟩ := DataW.trod_string Tryd.underlying9 (hall 0 (by omega))
    obtain ⟨s1, e1, rfl, _⟩ := DataW.trod_string Tryd.underlying9 (hall 1 (by omega))
    obtain ⟨s2, e2, rfl, _⟩ := DataW.trod_string Tryd.underlying9 (hall 2 (by omega))
    obtain ⟨s3, e3, rfl, _⟩ := DataW.trod_string Tryd.underlying9 (hall 3 (by omega))
    obtain ⟨s4, e4, rfl, _⟩ := DataW.trod_string Tryd.underlying9 (hall 4 (by omega))
    simp at e0 e1 e2 e3 e4
    exact ⟨s0, s1, s2, s3, s4, e0, e1, e2, e3, e4, rfl⟩

theorem three (Q : ByteArray → Prop) (L0 L1 L2 : List ByteArray) (h : ∀ L ∈ [L0, L1, L2], ∀ s ∈ L, Q s) (hz : Q ⟨#[]⟩) (g j : Nat) : Q (t5 ([L0, L1, L2].getD g []) j) := by
  have hL : ∀ L : List ByteArray, (∀ s ∈ L, Q s) → Q (t5 L j) := fun L hL => by
    unfold t5
    rw [List.getD_eq_getElem?_getD]
    cases hj : L[j]? with
    | none => exact hz
    | some s => exact hL s (List.mem_of_getElem? hj)
  apply hL
  rw [List.getD_eq_getElem?_getD]
  cases hg : [L0, L1, L2][g]? with
  | none => intro s hs; cases hs
  | some L => exact h L (List.mem_of_getElem? hg)

set_option maxRecDepth 100000 in
theorem open_name {H : Type} {enc : TypeId × Value → H} {W : World} {b base : Nat} {spare : Nat → Bool} {held : Bool} {v : Value} {d : DataW H} {ps : List MemPlace} (hval : Value.okWide Tryd.prog W .any base 25 v)
    (h : DataW.Trod enc Tryd.prog W b spare held 25 v d ps) (hd : Rows.uptoBulk d ≤ 1048576) : ∃ P : List (List ByteArray), v = .agg (a15 P) ∧ ps = [] ∧ P.length = 3 ∧ ∀ g j, j < 5 → (t5 (P.getD g []) j).size ≤ 1048576 := by
  obtain ⟨cs, rfl, hl⟩ := okWide_struct Tryd.underlying25 hval
  rw [cells25] at hl
  obtain ⟨l⟩ := cs
  match l, hl with
  | [c0, c1, c2, c3, c4, c5, c6, c7, c8, c9, c10, c11, c12, c13, c14], _ =>
    obtain ⟨fuel, hf⟩ := h
    obtain ⟨y, n, hx, _, h0⟩ := trod_struct1 Tryd.underlying25 hf
    rw [show ∀ t : TypeId, t = 23 → Tryd.prog.cellsOf t = 15 from fun t e => e ▸ cells23] at h0
    · obtain ⟨xs, m, _, rfl, _, hxl, hall⟩ := DataW.trod_array Tryd.underlying23 h0
      match xs, hxl with
      | [y0, y1, y2], _ =>
        rw [cel22] at hall
        have a0 := hall 0 (by omega)
        have a1 := hall 1 (by omega)
        have a2 := hall 2 (by omega)
        obtain ⟨s0, s1, s2, s3, s4, rfl, rfl, rfl, rfl, rfl, rfl⟩ := row5 a0
        obtain ⟨s5, s6, s7, s8, s9, rfl, rfl, rfl, rfl, rfl, rfl⟩ := row5 a1
        obtain ⟨s10, s11, s12, s13, s14, rfl, rfl, rfl, rfl, rfl, rfl⟩ := row5 a2
        simp only [Prod.mk.injEq] at hx
        obtain ⟨rfl, rfl⟩ := hx
        refine ⟨[[s0, s1, s2, s3, s4], [s5, s6, s7, s8, s9], [s10, s11, s12, s13, s14]], rfl, rfl, rfl, fun g j _ => three (fun s => s.size ≤ 1048576) _ _ _ ?_ (by decide) g j⟩
        have e : ∀ s : ByteArray, s.data.toList.length = s.size := fun s => by rw [Array.length_toList]; rfl
        simp only [List.map_cons, List.map_nil, Rows.uptoBulk, Rows.uptoBulkAll, sl, e] at hd
        intro L hL s hs
        simp only [List.mem_cons, List.not_mem_nil, or_false] at hL
        rcases hL with rfl | rfl | rfl <;> (simp only [List.mem_cons, List.not_mem_nil, or_false] at hs; rcases hs with rfl | rfl | rfl | rfl | rfl <;> omega)
    · rfl

set_option maxRecDepth 100000 in
theorem contract (H : Type) (enc : TypeId × Value → H) (W : World) (base : Nat) (args : Array Value) (ds gs : List (DataW H)) (before : List MemPlace)
    (hval0 : ∀ (j : Nat) t v, Tryd.f3.params[j]? = some t → args[j]? = some v → Value.okWide Tryd.prog W .any base t v)
    (hW : DataW.Whole enc Tryd.prog Tryd.f3.params.toList Rows.valuePersonsSpec.vars false W args.toList ds gs before) (hk : Rows.uptoSmall H (ds ++ gs) = true) :
    Calls Tryd.prog 3 args W fun e W' => ∃ v, e = .returned v ∧ Rows.valuePersonsSpec.post enc Tryd.prog Tryd.f3 false true false false W args v W' := by
  have hval := hval0
  have hW' := hW
  obtain ⟨p, q, hA0, hV, rfl, hfz, hnd⟩ := hW
  have hA : DataW.TrodAll enc Tryd.prog W 0 (fun _ => true) true Tryd.f3.params.toList args.toList ds p := hA0
  rw [Tryd.params3] at hA hval
  obtain ⟨v0, vs0, d0, ds0, p0, q0, hargs, rfl, rfl, h0, r0⟩ := trodAll_cons hA
  obtain ⟨v1, vs1, d1, ds1, p1, q1, rfl, rfl, rfl, h1, r1⟩ := trodAll_cons r0
  obtain ⟨rfl, rfl, rfl⟩ := trodAll_nil r1
  obtain rfl : args = #[v0, v1] := by cases args; simp_all
  obtain ⟨rfl, rfl⟩ := trodVars_none hV
  have k0 := h0
  have k1 := h1
  have lt0 : ∀ x ∈ p0, x.block < W.heap.size := by obtain ⟨m, hm⟩ := k0; exact DataW.trod_lt m _ _ _ hm
  have lt1 : ∀ x ∈ p1, x.block < W.heap.size := by obtain ⟨m, hm⟩ := k1; exact DataW.trod_lt m _ _ _ hm
  obtain ⟨c, rfl, rfl, rfl, wc⟩ := open_string Tryd.underlying9 (hval 0 9 v0 rfl rfl) h0
  have hb : c.size ≤ 1048576 ∧ Rows.uptoBulk d1 ≤ 1048576 := by
    have h := of_decide_eq_true hk
    simp only [List.cons_append, List.nil_append, Rows.uptoBulkAll, Rows.uptoBulk] at h
    have e1 : c.data.toList.length = c.size := by rw [Array.length_toList]; rfl
    omega
  obtain ⟨P, rfl, rfl, hP3, hP⟩ := open_name (hval 1 25 v1 rfl rfl) h1 hb.2
  clear hA0 hval0 hval
  simp only [List.append_nil] at hW'
  refine (persons_any W c hb.1 P hP3 hP).mono fun e W' ⟨he, bel⟩ => ?_
  subst he
  exact ⟨_, rfl, _, _, _, [], _, [], hW', trodAll_mk1 (shut_bool Tryd.underlying4 _), (trodAll_cons_mk (Below.trod laidOut (by kernel_rfl) (of_decide_eq_true (by kernel_rfl)) k0 bel lt0) (trodAll_cons_mk (Below.trod laidOut (by kernel_rfl) (of_decide_eq_true (by kernel_rfl)) k1 bel lt1) trodAll_mk0)), rfl, bel.frame _, fun h => by cases h⟩

theorem reads (os : Os) {H : Type} (enc : TypeId × Value → H) : ∃ places, DataW.whole enc Tryd.prog ((World.laidAll Tryd.prog os laid).forCall (fun _ _ => 0) ⟨#[], #[.string ⟨#[]⟩, .agg z15], []⟩).memory Tryd.f3.params.toList Rows.valuePersonsSpec.vars false #[Value.string ⟨#[]⟩, .agg z15].toList 8 = some ([.lit (.string []), .agg [.agg [.agg [.lit (.string []), .lit (.string []), .lit (.string []), .lit (.string []), .lit (.string [])], .agg [.lit (.string []), .lit (.string []), .lit (.string []), .lit (.string []), .lit (.string [])], .agg [.lit (.string []), .lit (.string []), .lit (.string []), .lit (.string []), .lit (.string [])]]]], [], places) :=
  ⟨[], by kernel_rfl⟩

set_option maxRecDepth 100000 in
theorem liftedUpto (os : Os) (started : os.Started) (H : Type) (enc : TypeId × Value → H) (F : Stop.Interp) :
    ReturnsInHanded {} Tryd.checked os 3 .any ((Rows.OpenSpec.upto Rows.valuePersonsSpec).preRow enc Tryd.prog Tryd.f3 Rows.valuePersonsUptoRow.domain false Rows.valuePersonsUptoRow.laid) (((Rows.OpenSpec.upto Rows.valuePersonsSpec).at F).post enc Tryd.prog Tryd.f3 false true false false) := by
  obtain ⟨places, hx⟩ := reads os enc
  refine returnsInHanded_of_row (C := Tryd.checked) (s := Rows.OpenSpec.upto Rows.valuePersonsSpec) own started (by kernel_rfl) Tryd.func3
    (witness_row_at (enc := enc) (C := Tryd.checked) false (World.laidAll Tryd.prog os laid) #[.string ⟨#[]⟩, .agg z15] (World.laidAll_os _ _ _) (by kernel_rfl) (by kernel_rfl) (by kernel_rfl)
      (OpenSpec.preRow_of_cond 8 hx (by kernel_rfl) (fun k hk => by cases hk; kernel_rfl) (by kernel_rfl) (laidMet_laidAll _ (by kernel_rfl) (by kernel_rfl)))) ?_
  intro W base args ds gs before hval hW _ hcond _ _ _ _
  exact contract H enc W base args ds gs before hval hW (hcond _ rfl)

theorem saidUpto : Rows.ValuePersonsUptoSaid :=
  OpenClaim.holds_of_cond 3 Tryd.f3 rfl rfl rfl rfl rfl rfl rfl ⟨rfl, rfl, rfl, rfl, rfl⟩ rfl rfl rfl rfl rfl (by kernel_rfl) Tryd.func3 (by kernel_rfl)
    (of_decide_eq_true (by kernel_rfl)) (by unfold Func.isWrapper; first | (rw [if_pos (by decide +kernel)]; kernel_rfl) | (rw [if_neg (by decide +kernel)]; exact ⟨rfl, rfl⟩))
    (fun os started H enc _ F => by rw [OpenClaim.pre_eq_preRow]; exact liftedUpto os started H enc F)
end Go.Proofs.YtohojghndnfgdaaDoor.persons

namespace Go.Proofs.YtohojghndnfgdaaDoor
theorem valuePersons_holds : Rows.ValuePersonsUptoCardSaid :=
  Claim7.holds_tied_plain_at .later [] [.data, .pinned] true (true, "f6218d71c971b81863ce3fd717ad59dfeb95cf43123bb857116b1174c8a59fa6") true
    persons.saidUpto (fun _ h => by cases h) (by kernel_rfl) (fun _ h => by cases h) valuePersonsUpto_row_tie rfl ⟨rfl, rfl⟩ (by kernel_rfl) rfl
    (fun f fn hf hfn => by
      obtain rfl : f = 3 := Option.some.inj ((show Tryd.prog.funcNamed "modality/modalitylaw5.ValuePersons" = some 3 by kernel_rfl).symm.trans hf) |>.symm
      obtain rfl : fn = Tryd.f3 := (Option.some.inj (Tryd.func3.symm.trans hfn)).symm
      exact ⟨by kernel_rfl, fun j t ht => by
        rw [Tryd.params3] at ht
        have hm : t ∈ [9, 25] := by simpa using Array.mem_of_getElem? ht
        have hall : ([9, 25].all fun u => !Tryd.prog.wantsStandIn u) = true := by kernel_rfl
        exact (show Tryd.prog.wantsStandIn t = false by simpa using List.all_eq_true.1 hall t hm)⟩)
    (by kernel_rfl)
#print axioms valuePersons_holds
end Go.Proofs.YtohojghndnfgdaaDoor

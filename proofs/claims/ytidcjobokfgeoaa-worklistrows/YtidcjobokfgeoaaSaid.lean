import Derived.Test.YtidcjobokfgeoaaRows
import Derived.Test.YtidcjobokfgeoaaR
import Derived.Deep.Strs
import Derived.ProofKit
import Derived.OpenShut
import Derived.ShutString
import Derived.ChangeOld
import Derived.ChangeMaps5
import Derived.ChangeArms
namespace Go.Proofs.Ytidcjobokfgeoaa.rows
open Go.ChangeShapes Go.WideShapes Go.ChangeAt Go.RowKit Go.Deep

theorem own : ownKnob Try.prog.godebug = none := by kernel_rfl
theorem laidOut : laidOutB Try.prog = true := by kernel_rfl
theorem cells3 : Try.prog.cellsOf 3 = 1 := by kernel_rfl
theorem cells9 : Try.prog.cellsOf 9 = 1 := by kernel_rfl
theorem cells23 : Try.prog.cellsOf 23 = 20 := by kernel_rfl

set_option maxRecDepth 100000 in
set_option maxHeartbeats 2000000 in
theorem open_step {H : Type} {enc : TypeId × Value → H} {W : World} {b base : Nat} {spare : Nat → Bool} {held : Bool} {v : Value} {d : DataW H} {ps : List MemPlace} (hval : Value.okWide Try.prog W .any base 23 v)
    (h : DataW.Trod enc Try.prog W b spare held 23 v d ps) : ∃ x z, v = .agg (SP x z) := by
  obtain ⟨cs, rfl, hl⟩ := okWide_struct Try.underlying23 hval
  rw [cells23] at hl
  obtain ⟨l⟩ := cs
  match l, hl with
  | [c0, c1, c2, c3, c4, c5, c6, c7, c8, c9, c10, c11, c12, c13, c14, c15, c16, c17, c18, c19], _ =>
    obtain ⟨fuel, hf0⟩ := h
    obtain ⟨xs, n, -, -, -, hn, hf⟩ := DataW.trod_struct Try.underlying23 hf0
    simp only [Value.cells] at hf
    obtain ⟨s0, e0, -, -⟩ := DataW.trod_string Try.underlying9 ((hf 0 _ rfl).trans (List.getElem?_eq_getElem (by rw [hn]; decide)))
    simp [cells9] at e0
    subst e0
    obtain ⟨s1, e1, -, -⟩ := DataW.trod_string Try.underlying9 ((hf 1 _ rfl).trans (List.getElem?_eq_getElem (by rw [hn]; decide)))
    simp [cells9] at e1
    subst e1
    obtain ⟨s2, e2, -, -⟩ := DataW.trod_string Try.underlying9 ((hf 2 _ rfl).trans (List.getElem?_eq_getElem (by rw [hn]; decide)))
    simp [cells9] at e2
    subst e2
    obtain ⟨s3, e3, -, -⟩ := DataW.trod_string Try.underlying9 ((hf 3 _ rfl).trans (List.getElem?_eq_getElem (by rw [hn]; decide)))
    simp [cells9] at e3
    subst e3
    obtain ⟨s4, e4, -, -⟩ := DataW.trod_string Try.underlying9 ((hf 4 _ rfl).trans (List.getElem?_eq_getElem (by rw [hn]; decide)))
    simp [cells9] at e4
    subst e4
    obtain ⟨s5, e5, -, -⟩ := DataW.trod_string Try.underlying9 ((hf 5 _ rfl).trans (List.getElem?_eq_getElem (by rw [hn]; decide)))
    simp [cells9] at e5
    subst e5
    obtain ⟨s6, e6, -, -⟩ := DataW.trod_string Try.underlying9 ((hf 6 _ rfl).trans (List.getElem?_eq_getElem (by rw [hn]; decide)))
    simp [cells9] at e6
    subst e6
    obtain ⟨s7, e7, -, -⟩ := DataW.trod_string Try.underlying9 ((hf 7 _ rfl).trans (List.getElem?_eq_getElem (by rw [hn]; decide)))
    simp [cells9] at e7
    subst e7
    obtain ⟨s8, e8, -, -⟩ := DataW.trod_string Try.underlying9 ((hf 8 _ rfl).trans (List.getElem?_eq_getElem (by rw [hn]; decide)))
    simp [cells9] at e8
    subst e8
    obtain ⟨s9, e9, -, -⟩ := DataW.trod_string Try.underlying9 ((hf 9 _ rfl).trans (List.getElem?_eq_getElem (by rw [hn]; decide)))
    simp [cells9] at e9
    subst e9
    obtain ⟨s10, e10, -, -⟩ := DataW.trod_string Try.underlying9 ((hf 10 _ rfl).trans (List.getElem?_eq_getElem (by rw [hn]; decide)))
    simp [cells9] at e10
    subst e10
    obtain ⟨s11, e11, -, -⟩ := DataW.trod_string Try.underlying9 ((hf 11 _ rfl).trans (List.getElem?_eq_getElem (by rw [hn]; decide)))
    simp [cells9] at e11
    subst e11
    obtain ⟨s12, e12, -, -⟩ := DataW.trod_string Try.underlying9 ((hf 12 _ rfl).trans (List.getElem?_eq_getElem (by rw [hn]; decide)))
    simp [cells9] at e12
    subst e12
    obtain ⟨s13, e13, -, -⟩ := DataW.trod_string Try.underlying9 ((hf 13 _ rfl).trans (List.getElem?_eq_getElem (by rw [hn]; decide)))
    simp [cells9] at e13
    subst e13
    obtain ⟨s14, e14, -, -⟩ := DataW.trod_string Try.underlying9 ((hf 14 _ rfl).trans (List.getElem?_eq_getElem (by rw [hn]; decide)))
    simp [cells9] at e14
    subst e14
    obtain ⟨s15, e15, -, -⟩ := DataW.trod_string Try.underlying9 ((hf 15 _ rfl).trans (List.getElem?_eq_getElem (by rw [hn]; decide)))
    simp [cells9] at e15
    subst e15
    obtain ⟨s16, e16, -, -⟩ := DataW.trod_string Try.underlying9 ((hf 16 _ rfl).trans (List.getElem?_eq_getElem (by rw [hn]; decide)))
    simp [cells9] at e16
    subst e16
    obtain ⟨s17, e17, -, -⟩ := DataW.trod_string Try.underlying9 ((hf 17 _ rfl).trans (List.getElem?_eq_getElem (by rw [hn]; decide)))
    simp [cells9] at e17
    subst e17
    obtain ⟨s18, e18, -, -⟩ := DataW.trod_string Try.underlying9 ((hf 18 _ rfl).trans (List.getElem?_eq_getElem (by rw [hn]; decide)))
    simp [cells9] at e18
    subst e18
    obtain ⟨z, e19, -, -⟩ := DataW.trod_int Try.underlying3 ((hf 19 _ rfl).trans (List.getElem?_eq_getElem (by rw [hn]; decide)))
    simp [cells3] at e19
    subst e19
    exact ⟨fun i => match i with | 0 => s0 | 1 => s1 | 2 => s2 | 3 => s3 | 4 => s4 | 5 => s5 | 6 => s6 | 7 => s7 | 8 => s8 | 9 => s9 | 10 => s10 | 11 => s11 | 12 => s12 | 13 => s13 | 14 => s14 | 15 => s15 | 16 => s16 | 17 => s17 | 18 => s18 | _ => ⟨#[]⟩, z, rfl⟩

set_option maxRecDepth 100000 in
theorem lifted (os : Os) (started : os.Started) (H : Type) (enc : TypeId × Value → H) :
    ReturnsInHanded {} Try.checked os 3 .any (Rows.worklistRowsSpec.pre6 enc Try.prog Try.f3 Rows.worklistRowsRow.domain false) (Rows.worklistRowsSpec.post enc Try.prog Try.f3 false true false false) := by
  refine returnsInHanded_of_change (C := Try.checked) own started (by kernel_rfl) Try.func3
    (ChangeSpec.witness6 (enc := enc) (C := Try.checked) false ⟨#[], #[.agg #[.string ⟨#[]⟩, .string ⟨#[]⟩, .string ⟨#[]⟩, .string ⟨#[]⟩, .string ⟨#[]⟩, .string ⟨#[]⟩, .string ⟨#[]⟩, .string ⟨#[]⟩, .string ⟨#[]⟩, .string ⟨#[]⟩, .string ⟨#[]⟩, .string ⟨#[]⟩, .string ⟨#[]⟩, .string ⟨#[]⟩, .string ⟨#[]⟩, .string ⟨#[]⟩, .string ⟨#[]⟩, .string ⟨#[]⟩, .string ⟨#[]⟩, .int .i64 0]], []⟩ 8 (by kernel_rfl) (by kernel_rfl) (by kernel_rfl) (by kernel_rfl)) ?_
  intro W base args ds gs before hval0 hW _ _
  have hval : ∀ (j : Nat) t v, Try.f3.params[j]? = some t → args[j]? = some v → Value.okWide Try.prog W .any base t v := hval0
  have hW' := hW
  obtain ⟨p, q, hA0, hV, rfl, hfz, hnd⟩ := hW
  have hA : DataW.TrodAll enc Try.prog W 0 (fun _ => true) true Try.f3.params.toList args.toList ds p := hA0
  rw [Try.params3] at hA hval
  obtain ⟨v0, vs0, d0, ds0, p0, q0, hargs, rfl, rfl, h0, r0⟩ := trodAll_cons hA
  obtain ⟨rfl, rfl, rfl⟩ := trodAll_nil r0
  obtain rfl : args = #[v0] := by cases args; simp_all
  obtain ⟨rfl, rfl⟩ := trodVars_none hV
  have k0 := h0
  have lt0 : ∀ x ∈ p0, x.block < W.heap.size := by obtain ⟨m, hm⟩ := k0; exact DataW.trod_lt m _ _ _ hm
  obtain ⟨x, z, rfl⟩ := open_step (hval 0 23 v0 rfl rfl) h0
  clear hA0 hval0 hval
  simp only [List.append_nil] at hW'
  refine (rows_law W x z).mono fun e W' ⟨he, bel⟩ => ?_
  subst he
  exact ⟨_, rfl, _, _, _, [], _, [], hW', trodAll_mk1 (shut_bool Try.underlying4 _), (trodAll_cons_mk (Below.trod laidOut (by kernel_rfl) (of_decide_eq_true (by kernel_rfl)) k0 bel lt0) trodAll_mk0), rfl, bel.frame _, fun h => by cases h⟩
end Go.Proofs.Ytidcjobokfgeoaa.rows

namespace Go.Proofs.Ytidcjobokfgeoaa
theorem worklistRows_holds : Rows.WorklistRowsSaid :=
  OpenClaim.holds_of_wide 3 Try.f3 rfl rfl rfl rfl rfl rfl rfl ⟨rfl, rfl, rfl, rfl, rfl⟩ rfl rfl rfl rfl rfl (by kernel_rfl) Try.func3 (by kernel_rfl)
    (of_decide_eq_true (by kernel_rfl)) (by unfold Func.isWrapper; first | (rw [if_pos (by decide +kernel)]; kernel_rfl) | (rw [if_neg (by decide +kernel)]; exact ⟨rfl, rfl⟩))
    (fun os started H enc _ => rows.lifted os started H enc)
#print axioms worklistRows_holds
end Go.Proofs.Ytidcjobokfgeoaa

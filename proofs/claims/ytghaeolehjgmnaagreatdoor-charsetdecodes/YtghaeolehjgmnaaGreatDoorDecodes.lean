import Derived.Test.YtghaeolehjgmnaaGreatDoorRows
import Derived.Test.YtghaeolehjgmnaaGreatDoorTie
import Derived.Test.YtghaeolehjgmnaaGreatDoorCards
import Derived.Test.YtghaeolehjgmnaaGreatDoorSd
import Derived.ProofKit
import Derived.LaidMore
import Derived.Lay
import Derived.OpenShut
import Derived.ShutString
import Derived.ChangeOld
import Derived.ChangeMaps5
import Derived.SizedLaws
import Derived.SevenTiedAt
import Derived.Stop.Joined
namespace Go.Proofs.YtghaeolehjgmnaaGreatDoor.decodes
open Go.ChangeShapes Go.WideShapes Go.ChangeAt Go.WideMaps Go.WideElems Go.RowKit Go.ChangeMaps

theorem own : ownKnob Tryz.prog.godebug = none := by kernel_rfl
theorem laidOut : laidOutB Tryz.prog = true := by kernel_rfl

def laid : List (String × DataW Unit) := Rows.charsetDecodesRow.laid

theorem spell {W : World} (h : laidMetH Tryz.prog laid W) : Spell W := by
  rw [MakeChecks.laidMetH_plain _ _ _ (by kernel_rfl)] at h
  have hm : ("modality/charset.spellings", (Rows.laid_modality_charset_spellings : DataW Unit)) ∈ laid := by
    show _ ∈ [_, _, _, _, _, _, _, _]
    simp
  exact spell_of (Lib.laidMet.reads h hm)

theorem tabs {W : World} (h : laidMetH Tryz.prog laid W) : Tabs W ∧ RTabs W := by
  rw [MakeChecks.laidMetH_plain _ _ _ (by kernel_rfl)] at h
  have m1 : ("modality/charset.table101", (Rows.laid_modality_charset_table101 : DataW Unit)) ∈ laid := by
    show _ ∈ [_, _, _, _, _, _, _, _]
    simp
  have m2 : ("modality/charset.table126", (Rows.laid_modality_charset_table126 : DataW Unit)) ∈ laid := by
    show _ ∈ [_, _, _, _, _, _, _, _]
    simp
  have m3 : ("modality/modalityref4.table101", (Rows.laid_modality_modalityref4_table101 : DataW Unit)) ∈ laid := by
    show _ ∈ [_, _, _, _, _, _, _, _]
    simp
  have m4 : ("modality/modalityref4.table126", (Rows.laid_modality_modalityref4_table126 : DataW Unit)) ∈ laid := by
    show _ ∈ [_, _, _, _, _, _, _, _]
    simp
  have r1 : Lib.VarReads Tryz.prog W "modality/charset.table101" (Lib.tabData .u16 (t101.map Int.ofNat)) := Lib.laidMet.reads h m1
  have r2 : Lib.VarReads Tryz.prog W "modality/charset.table126" (Lib.tabData .u16 (t126.map Int.ofNat)) := Lib.laidMet.reads h m2
  have r3 : Lib.VarReads Tryz.prog W "modality/modalityref4.table101" (Lib.tabData .i32 (t101.map Int.ofNat)) := Lib.laidMet.reads h m3
  have r4 : Lib.VarReads Tryz.prog W "modality/modalityref4.table126" (Lib.tabData .i32 (t126.map Int.ofNat)) := Lib.laidMet.reads h m4
  refine ⟨⟨fun i hi => ?_, fun i hi => ?_⟩, ⟨fun i hi => ?_, fun i hi => ?_⟩⟩
  · rw [tabIs_of (g := 4) (t := 142) (e := 141) (n := 96) (by kernel_rfl) (by kernel_rfl) Tryz.underlying142 Tryz.underlying141 (by kernel_rfl) (by kernel_rfl) r1 i (by simpa [t101] using hi), getD_cast]
  · rw [tabIs_of (g := 5) (t := 143) (e := 141) (n := 32) (by kernel_rfl) (by kernel_rfl) Tryz.underlying143 Tryz.underlying141 (by kernel_rfl) (by kernel_rfl) r2 i (by simpa [t126] using hi), getD_cast]
  · rw [tabIs_of (g := 2) (t := 93) (e := 21) (n := 96) (by kernel_rfl) (by kernel_rfl) Tryz.underlying93 Tryz.underlying21 (by kernel_rfl) (by kernel_rfl) r3 i (by simpa [t101] using hi), getD_cast]
  · rw [tabIs_of (g := 3) (t := 94) (e := 21) (n := 32) (by kernel_rfl) (by kernel_rfl) Tryz.underlying94 Tryz.underlying21 (by kernel_rfl) (by kernel_rfl) r4 i (by simpa [t126] using hi), getD_cast]

theorem more {W : World} (h : laidMetH Tryz.prog laid W) : Kinds W ∧ Lib.Utf8Tabs 6 7 W := by
  rw [MakeChecks.laidMetH_plain _ _ _ (by kernel_rfl)] at h
  have m1 : ("modality/charset.kinds", (Rows.laid_modality_charset_kinds : DataW Unit)) ∈ laid := by
    show _ ∈ [_, _, _, _, _, _, _, _]
    simp
  have m2 : ("unicode/utf8.first", (Rows.laid_unicode_utf8_first : DataW Unit)) ∈ laid := by
    show _ ∈ [_, _, _, _, _, _, _, _]
    simp
  have m3 : ("unicode/utf8.acceptRanges", (Rows.laid_unicode_utf8_acceptRanges : DataW Unit)) ∈ laid := by
    show _ ∈ [_, _, _, _, _, _, _, _]
    simp
  have e2 : (Rows.laid_unicode_utf8_first : DataW Unit) = Lib.firstData := by kernel_rfl
  have e3 : (Rows.laid_unicode_utf8_acceptRanges : DataW Unit) = Lib.acceptData := by kernel_rfl
  rw [e2] at m2
  rw [e3] at m3
  exact ⟨kinds_of (Lib.laidMet.reads h m1), utabs_of (Lib.laidMet.reads h m2) (Lib.laidMet.reads h m3)⟩

set_option maxRecDepth 100000 in
theorem lifted (os : Os) (started : os.Started) (H : Type) (enc : TypeId × Value → H) :
    ReturnsInHanded {} Tryz.checked os 3 .any (fun w args => (Rows.charsetDecodesSpec.pre enc Tryz.prog Tryz.f3 [] false w args ∧ laidMetH Tryz.prog laid w) ∧ sizedMet enc Tryz.prog Tryz.f3 (OpenSpec.ofChange Rows.charsetDecodesSpec) false w args)
      (Rows.charsetDecodesSpec.post enc Tryz.prog Tryz.f3 false true false false) := by
  refine returnsInHanded_of_change_and (C := Tryz.checked) (X := fun w _ => laidMetH Tryz.prog laid w) (fun _ _ _ hh h => h.of_heap hh) own started (by kernel_rfl) Tryz.func3
    (ChangeSpec.witness_shaped (enc := enc) (C := Tryz.checked) (os := os) (X := fun w _ => laidMetH Tryz.prog laid w) false (World.laidAll Tryz.prog os laid) #[.slice none 0 0, .int .i64 0, .slice none 0 0, .slice none 0 0] 8 (World.laidAll_os _ _ _)
      (World.shaped_of_ZipB (by kernel_rfl) (by kernel_rfl)) (by kernel_rfl) (by kernel_rfl) (by kernel_rfl)
      (by rw [MakeChecks.laidMetH_plain _ _ _ (by kernel_rfl)]; exact laidMet_laidAll _ (by kernel_rfl) (by kernel_rfl))) ?_
  intro W base args ds gs before hval0 hW _ hsz0 hL _
  have hsz : (DataW.weightsEach Tryz.prog (Tryz.f3.params.toList ++ Rows.charsetDecodesSpec.plain.varTypes Tryz.prog) (ds ++ gs)).all (· ≤ reachBytes) = true := hsz0
  have hval : ∀ (j : Nat) t v, Tryz.f3.params[j]? = some t → args[j]? = some v → Value.okWide Tryz.prog W .any base t v := hval0
  have hW' := hW
  obtain ⟨p, q, hA0, hV, rfl, hfz, hnd⟩ := hW
  have hA : DataW.TrodAll enc Tryz.prog W 0 (fun _ => true) true Tryz.f3.params.toList args.toList ds p := hA0
  rw [Tryz.params3] at hA hval hsz
  obtain ⟨v0, vs0, d0, ds0, p0, q0, hargs, rfl, rfl, h0, r0⟩ := trodAll_cons hA
  obtain ⟨v1, vs1, d1, ds1, p1, q1, rfl, rfl, rfl, h1, r1⟩ := trodAll_cons r0
  obtain ⟨v2, vs2, d2, ds2, p2, q2, rfl, rfl, rfl, h2, r2⟩ := trodAll_cons r1
  obtain ⟨v3, vs3, d3, ds3, p3, q3, rfl, rfl, rfl, h3, r3⟩ := trodAll_cons r2
  obtain ⟨rfl, rfl, rfl⟩ := trodAll_nil r3
  obtain rfl : args = #[v0, v1, v2, v3] := by cases args; simp_all
  obtain ⟨rfl, rfl⟩ := trodVars_none hV
  have k0 := h0
  have k1 := h1
  have k2 := h2
  have k3 := h3
  obtain ⟨z1, rfl, rfl, rfl, hz1⟩ := open_int Tryz.underlying3 (hval 1 3 v1 rfl rfl) h1
  obtain ⟨a0, len0, cap0, rfl⟩ := okWide_slice Tryz.underlying22 (hval 0 22 v0 rfl rfl)
  obtain ⟨a2, len2, cap2, rfl⟩ := okWide_slice Tryz.underlying23 (hval 2 23 v2 rfl rfl)
  obtain ⟨a3, len3, cap3, rfl⟩ := okWide_slice Tryz.underlying23 (hval 3 23 v3 rfl rfl)
  have lt0 : ∀ x ∈ p0, x.block < W.heap.size := by obtain ⟨m, hm⟩ := k0; exact DataW.trod_lt m _ _ _ hm
  have lt2 : ∀ x ∈ p2, x.block < W.heap.size := by obtain ⟨m, hm⟩ := k2; exact DataW.trod_lt m _ _ _ hm
  have lt3 : ∀ x ∈ p3, x.block < W.heap.size := by obtain ⟨m, hm⟩ := k3; exact DataW.trod_lt m _ _ _ hm
  obtain ⟨T, hlen, hTS, hes⟩ : ∃ T : List ByteArray, T.length = len0 ∧ TS W (.slice a0 len0 cap0) T ∧ (T = [] ∨ ∃ sp, d0 = .slice (strs T) sp) := by
    obtain ⟨fuel, hf⟩ := h0
    exact terms_open (by simpa [Value.cells] using hf)
  have hsm : T.length ≤ 8796093021952 ∧ ∀ s ∈ T, s.size ≤ 140737488351232 := by
    rcases hes with rfl | ⟨sp, rfl⟩
    · exact ⟨by simp, fun s hs => by simp at hs⟩
    · exact strs_sized hsz (j := 0) rfl rfl
  obtain ⟨b2, hlen2, hV2, hes2⟩ : ∃ bs : List Nat, bs.length = len2 ∧ V W (.slice a2 len2 cap2) bs ∧ (len2 = 0 ∨ ∃ es sp, d2 = .slice es sp ∧ es.length = len2) := by
    obtain ⟨fuel, hf⟩ := h2
    exact bytes_open (by simpa [Value.cells] using hf)
  have hl2 : b2.length ≤ 140737488351232 := by
    rcases hes2 with h | ⟨es, sp, rfl, he⟩
    · omega
    · have := sized_slice hsz (j := 2) (t := 23) (e := 5) (elems := es) (spare := sp) rfl rfl Tryz.underlying23
      rw [bytes5, reachIs] at this
      omega
  obtain ⟨b3, hlen3, hV3, hes3⟩ : ∃ bs : List Nat, bs.length = len3 ∧ V W (.slice a3 len3 cap3) bs ∧ (len3 = 0 ∨ ∃ es sp, d3 = .slice es sp ∧ es.length = len3) := by
    obtain ⟨fuel, hf⟩ := h3
    exact bytes_open (by simpa [Value.cells] using hf)
  have hl3 : b3.length ≤ 140737488351232 := by
    rcases hes3 with h | ⟨es, sp, rfl, he⟩
    · omega
    · have := sized_slice hsz (j := 3) (t := 23) (e := 5) (elems := es) (spare := sp) rfl rfl Tryz.underlying23
      rw [bytes5, reachIs] at this
      omega
  have hSp := spell hL
  have hMo := more hL
  have hTa := tabs hL
  clear hA0 hval0 hsz0 hsz
  refine (decodes_any W _ T z1 _ _ b2 b3 hTS hsm.1 hsm.2 hSp hTa.1 hTa.2 hMo.1 (fun w' hw => utabs_on hMo.2 hw) hV2 hl2 hV3 hl3).mono fun e W' ⟨he, bel⟩ => ?_
  subst he
  exact ⟨_, rfl, _, _, _, [], _, [], hW', trodAll_mk1 (shut_bool Tryz.underlying4 _), (trodAll_cons_mk (Below.trod laidOut (by kernel_rfl) (of_decide_eq_true (by kernel_rfl)) k0 bel lt0) (trodAll_cons_mk (Below.trod laidOut (by kernel_rfl) (of_decide_eq_true (by kernel_rfl)) k1 bel (fun x hx => by simp at hx)) (trodAll_cons_mk (Below.trod laidOut (by kernel_rfl) (of_decide_eq_true (by kernel_rfl)) k2 bel lt2) (trodAll_cons_mk (Below.trod laidOut (by kernel_rfl) (of_decide_eq_true (by kernel_rfl)) k3 bel lt3) trodAll_mk0)))), rfl, bel.frame _, fun h => by cases h⟩

theorem over : Rows.CharsetDecodesSaid :=
  OpenClaim.holds_of_wide 3 Tryz.f3 rfl rfl rfl rfl rfl rfl rfl ⟨rfl, rfl, rfl, rfl, rfl⟩ rfl rfl rfl rfl rfl (by kernel_rfl) Tryz.func3 (by kernel_rfl)
    (of_decide_eq_true (by kernel_rfl)) (by unfold Func.isWrapper; first | (rw [if_pos (by decide +kernel)]; kernel_rfl) | (rw [if_neg (by decide +kernel)]; exact ⟨rfl, rfl⟩))
    (fun os started H enc _ => lifted os started H enc)
end Go.Proofs.YtghaeolehjgmnaaGreatDoor.decodes

namespace Go.Proofs.YtghaeolehjgmnaaGreatDoor
theorem charsetDecodes_holds : Rows.CharsetDecodesCardSaid :=
  Claim7.holds_tied_plain_at .later [] [.data, .data, .data, .data, .data, .data, .data, .pinned] true (true, "8cda2d6350e82ce0b32a99c3f948ab363429ebcd99a9dadc052278bf8674eece") true
    decodes.over (fun _ h => by cases h) (by kernel_rfl) (fun _ h => by cases h) charsetDecodes_row_tie rfl ⟨rfl, rfl⟩ (by kernel_rfl) rfl
    (fun f fn hf hfn => by
      obtain rfl : f = 3 := Option.some.inj ((show Tryz.prog.funcNamed "modality/modalitylaw4.CharsetDecodes" = some 3 by kernel_rfl).symm.trans hf) |>.symm
      obtain rfl : fn = Tryz.f3 := (Option.some.inj (Tryz.func3.symm.trans hfn)).symm
      exact ⟨by kernel_rfl, fun j t ht => by
        rw [Tryz.params3] at ht
        have hm : t ∈ [22, 3, 23, 23] := by simpa using Array.mem_of_getElem? ht
        have hall : ([22, 3, 23, 23].all fun u => !Tryz.prog.wantsStandIn u) = true := by kernel_rfl
        exact (show Tryz.prog.wantsStandIn t = false by simpa using List.all_eq_true.1 hall t hm)⟩)
    (by kernel_rfl)
#print axioms charsetDecodes_holds
end Go.Proofs.YtghaeolehjgmnaaGreatDoor

import Derived.Test.YtmhjjpdfjilobaaDoorRows
import Derived.Test.YtmhjjpdfjilobaaDoorTie
import Derived.Test.YtmhjjpdfjilobaaDoorCards
import Derived.Test.YtmhjjpdfjilobaaDoorY
import Derived.Test.YtmhjjpdfjilobaaDoorOj
import Derived.ProofKit
import Derived.LaidMore
import Derived.Lay
import Derived.OpenShut
import Derived.ShutString
import Derived.ChangeOld
import Derived.ChangeMaps5
import Derived.SizedLaws
import Derived.SevenTiedAt
import Derived.Stop.Joined
namespace Go.Proofs.YtmhjjpdfjilobaaDoor.hases
open Go.ChangeShapes Go.WideShapes Go.ChangeAt Go.WideMaps Go.WideElems Go.RowKit Go.ChangeMaps

theorem own : ownKnob Tryd.prog.godebug = none := by kernel_rfl
theorem laidOut : laidOutB Tryd.prog = true := by kernel_rfl

def laid : List (String × DataW Unit) := Rows.charsetHasRow.laid

theorem spell {W : World} (h : laidMetH Tryd.prog laid W) : Spell W := by
  rw [MakeChecks.laidMetH_plain _ _ _ (by kernel_rfl)] at h
  have hm : ("modality/charset.spellings", (Rows.laid_modality_charset_spellings : DataW Unit)) ∈ laid := by
    show _ ∈ [_, _, _, _, _, _, _]
    simp
  exact spell_of (Lib.laidMet.reads h hm)

theorem tabIs_of {W : World} {name : String} {k : IntKind} {zs : List Int} {g : Nat} {t e : TypeId} {n : Nat}
    (hg : Tryd.prog.globalNamed name = some g) (hty : (Tryd.prog.globals[g]?).map (·.type) = some t) (ht : Tryd.prog.underlying t = some (.array n e)) (he : Tryd.prog.underlying e = some (.int k)) (hce : Tryd.prog.cellsOf e = 1) (hct : Tryd.prog.cellsOf t = n)
    (h : Lib.VarReads Tryd.prog W name (Lib.tabData k zs)) (i : Nat) (hi : i < zs.length) : W.cell? ⟨g, i, none⟩ = some (.int k (zs.getD i 0)) := by
  obtain ⟨g', t', cs, fuel, p, hg', hty', hvar, hd⟩ := h
  obtain rfl := Option.some.inj (hg.symm.trans hg')
  obtain rfl := Option.some.inj (hty.symm.trans hty')
  have hT : Lib.TabIs Tryd.prog W name k zs := by
    unfold Lib.TabIs
    rw [hvar, ← Lib.cells_of_tab ht he hce hct hd]
  exact hT.cell hg i hi

theorem getD_cast (l : List Nat) (i : Nat) : (l.map Int.ofNat).getD i 0 = ((l.getD i 0 : Nat) : Int) := by
  rw [List.getD_eq_getElem?_getD, List.getD_eq_getElem?_getD, List.getElem?_map]
  cases l[i]? <;> rfl

theorem tabs {W : World} (h : laidMetH Tryd.prog laid W) : Tabs W ∧ RTabs W := by
  rw [MakeChecks.laidMetH_plain _ _ _ (by kernel_rfl)] at h
  have m1 : ("modality/charset.table101", (Rows.laid_modality_charset_table101 : DataW Unit)) ∈ laid := by
    show _ ∈ [_, _, _, _, _, _, _]
    simp
  have m2 : ("modality/charset.table126", (Rows.laid_modality_charset_table126 : DataW Unit)) ∈ laid := by
    show _ ∈ [_, _, _, _, _, _, _]
    simp
  have m3 : ("modality/modalityref4.table101", (Rows.laid_modality_modalityref4_table101 : DataW Unit)) ∈ laid := by
    show _ ∈ [_, _, _, _, _, _, _]
    simp
  have m4 : ("modality/modalityref4.table126", (Rows.laid_modality_modalityref4_table126 : DataW Unit)) ∈ laid := by
    show _ ∈ [_, _, _, _, _, _, _]
    simp
  have r1 : Lib.VarReads Tryd.prog W "modality/charset.table101" (Lib.tabData .u16 (t101.map Int.ofNat)) := Lib.laidMet.reads h m1
  have r2 : Lib.VarReads Tryd.prog W "modality/charset.table126" (Lib.tabData .u16 (t126.map Int.ofNat)) := Lib.laidMet.reads h m2
  have r3 : Lib.VarReads Tryd.prog W "modality/modalityref4.table101" (Lib.tabData .i32 (t101.map Int.ofNat)) := Lib.laidMet.reads h m3
  have r4 : Lib.VarReads Tryd.prog W "modality/modalityref4.table126" (Lib.tabData .i32 (t126.map Int.ofNat)) := Lib.laidMet.reads h m4
  refine ⟨⟨fun i hi => ?_, fun i hi => ?_⟩, ⟨fun i hi => ?_, fun i hi => ?_⟩⟩
  · rw [tabIs_of (g := 4) (t := 147) (e := 146) (n := 96) (by kernel_rfl) (by kernel_rfl) Tryd.underlying147 Tryd.underlying146 (by kernel_rfl) (by kernel_rfl) r1 i (by simpa [t101] using hi), getD_cast]
  · rw [tabIs_of (g := 5) (t := 148) (e := 146) (n := 32) (by kernel_rfl) (by kernel_rfl) Tryd.underlying148 Tryd.underlying146 (by kernel_rfl) (by kernel_rfl) r2 i (by simpa [t126] using hi), getD_cast]
  · rw [tabIs_of (g := 2) (t := 121) (e := 21) (n := 96) (by kernel_rfl) (by kernel_rfl) Tryd.underlying121 Tryd.underlying21 (by kernel_rfl) (by kernel_rfl) r3 i (by simpa [t101] using hi), getD_cast]
  · rw [tabIs_of (g := 3) (t := 122) (e := 21) (n := 32) (by kernel_rfl) (by kernel_rfl) Tryd.underlying122 Tryd.underlying21 (by kernel_rfl) (by kernel_rfl) r4 i (by simpa [t126] using hi), getD_cast]

set_option maxRecDepth 100000 in
theorem lifted (os : Os) (started : os.Started) (H : Type) (enc : TypeId × Value → H) :
    ReturnsInHanded {} Tryd.checked os 4 .any (fun w args => (Rows.charsetHasSpec.pre enc Tryd.prog Tryd.f4 [] false w args ∧ laidMetH Tryd.prog laid w) ∧ sizedMet enc Tryd.prog Tryd.f4 (OpenSpec.ofChange Rows.charsetHasSpec) false w args)
      (Rows.charsetHasSpec.post enc Tryd.prog Tryd.f4 false true false false) := by
  refine returnsInHanded_of_change_and (C := Tryd.checked) (X := fun w _ => laidMetH Tryd.prog laid w) (fun _ _ _ hh h => h.of_heap hh) own started (by kernel_rfl) Tryd.func4
    (ChangeSpec.witness_shaped (enc := enc) (C := Tryd.checked) (os := os) (X := fun w _ => laidMetH Tryd.prog laid w) false (World.laidAll Tryd.prog os laid) #[.slice none 0 0, .int .i32 0] 8 (World.laidAll_os _ _ _)
      (World.shaped_of_ZipB (by kernel_rfl) (by kernel_rfl)) (by kernel_rfl) (by kernel_rfl) (by kernel_rfl)
      (by rw [MakeChecks.laidMetH_plain _ _ _ (by kernel_rfl)]; exact laidMet_laidAll _ (by kernel_rfl) (by kernel_rfl))) ?_
  intro W base args ds gs before hval0 hW _ hsz0 hL _
  have hsz : (DataW.weightsEach Tryd.prog (Tryd.f4.params.toList ++ Rows.charsetHasSpec.plain.varTypes Tryd.prog) (ds ++ gs)).all (· ≤ reachBytes) = true := hsz0
  have hval : ∀ (j : Nat) t v, Tryd.f4.params[j]? = some t → args[j]? = some v → Value.okWide Tryd.prog W .any base t v := hval0
  have hW' := hW
  obtain ⟨p, q, hA0, hV, rfl, hfz, hnd⟩ := hW
  have hA : DataW.TrodAll enc Tryd.prog W 0 (fun _ => true) true Tryd.f4.params.toList args.toList ds p := hA0
  rw [Tryd.params4] at hA hval hsz
  obtain ⟨v0, vs0, d0, ds0, p0, q0, hargs, rfl, rfl, h0, r0⟩ := trodAll_cons hA
  obtain ⟨v1, vs1, d1, ds1, p1, q1, rfl, rfl, rfl, h1, r1⟩ := trodAll_cons r0
  obtain ⟨rfl, rfl, rfl⟩ := trodAll_nil r1
  obtain rfl : args = #[v0, v1] := by cases args; simp_all
  obtain ⟨rfl, rfl⟩ := trodVars_none hV
  have k0 := h0
  have k1 := h1
  obtain ⟨z1, rfl, rfl, rfl, hz1⟩ := open_int Tryd.underlying21 (hval 1 21 v1 rfl rfl) h1
  have hzb : -2147483648 ≤ z1 ∧ z1 < 2147483648 := by
    have := hz1
    simp only [Lit.wf, Bool.and_eq_true, decide_eq_true_eq, show IntKind.i32.min = -2147483648 from rfl, show IntKind.i32.max = 2147483647 from rfl] at this
    omega
  obtain ⟨a0, len0, cap0, rfl⟩ := okWide_slice Tryd.underlying22 (hval 0 22 v0 rfl rfl)
  have lt0 : ∀ x ∈ p0, x.block < W.heap.size := by obtain ⟨m, hm⟩ := k0; exact DataW.trod_lt m _ _ _ hm
  obtain ⟨T, hlen, hTS, hes⟩ : ∃ T : List ByteArray, T.length = len0 ∧ TS W (.slice a0 len0 cap0) T ∧ (T = [] ∨ ∃ sp, d0 = .slice (strs T) sp) := by
    obtain ⟨fuel, hf⟩ := h0
    exact terms_open (by simpa [Value.cells] using hf)
  have hsm : T.length ≤ 8796093021952 ∧ ∀ s ∈ T, s.size ≤ 140737488351232 := by
    rcases hes with rfl | ⟨sp, rfl⟩
    · exact ⟨by simp, fun s hs => by simp at hs⟩
    · exact strs_sized hsz (j := 0) rfl rfl
  have hSp := spell hL
  clear hA0 hval0 hsz0 hsz
  refine (hases_any W _ T z1 hzb.1 hzb.2 hTS hsm.1 hsm.2 hSp (tabs hL).1 (tabs hL).2).mono fun e W' ⟨he, bel⟩ => ?_
  subst he
  exact ⟨_, rfl, _, _, _, [], _, [], hW', trodAll_mk1 (shut_bool Tryd.underlying4 _), (trodAll_cons_mk (Below.trod laidOut (by kernel_rfl) (of_decide_eq_true (by kernel_rfl)) k0 bel lt0) (trodAll_cons_mk (Below.trod laidOut (by kernel_rfl) (of_decide_eq_true (by kernel_rfl)) k1 bel (fun x hx => by simp at hx)) trodAll_mk0)), rfl, bel.frame _, fun h => by cases h⟩

theorem over : Rows.CharsetHasSaid :=
  OpenClaim.holds_of_wide 4 Tryd.f4 rfl rfl rfl rfl rfl rfl rfl ⟨rfl, rfl, rfl, rfl, rfl⟩ rfl rfl rfl rfl rfl (by kernel_rfl) Tryd.func4 (by kernel_rfl)
    (of_decide_eq_true (by kernel_rfl)) (by unfold Func.isWrapper; first | (rw [if_pos (by decide +kernel)]; kernel_rfl) | (rw [if_neg (by decide +kernel)]; exact ⟨rfl, rfl⟩))
    (fun os started H enc _ => lifted os started H enc)
end Go.Proofs.YtmhjjpdfjilobaaDoor.hases

namespace Go.Proofs.YtmhjjpdfjilobaaDoor
theorem charsetHas_holds : Rows.CharsetHasCardSaid :=
  Claim7.holds_tied_plain_at .later [] [.data, .data, .data, .data, .data, .data, .pinned] true (true, "064139b27e93a422d77657eee59da0e1a45811eae7528e0364e61b76f49c859a") true
    hases.over (fun _ h => by cases h) (by kernel_rfl) (fun _ h => by cases h) charsetHas_row_tie rfl ⟨rfl, rfl⟩ (by kernel_rfl) rfl
    (fun f fn hf hfn => by
      obtain rfl : f = 4 := Option.some.inj ((show Tryd.prog.funcNamed "modality/modalitylaw4.CharsetHas" = some 4 by kernel_rfl).symm.trans hf) |>.symm
      obtain rfl : fn = Tryd.f4 := (Option.some.inj (Tryd.func4.symm.trans hfn)).symm
      exact ⟨by kernel_rfl, fun j t ht => by
        rw [Tryd.params4] at ht
        have hm : t ∈ [22, 21] := by simpa using Array.mem_of_getElem? ht
        have hall : ([22, 21].all fun u => !Tryd.prog.wantsStandIn u) = true := by kernel_rfl
        exact (show Tryd.prog.wantsStandIn t = false by simpa using List.all_eq_true.1 hall t hm)⟩)
    (by kernel_rfl)
#print axioms charsetHas_holds
end Go.Proofs.YtmhjjpdfjilobaaDoor

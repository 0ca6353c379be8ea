import Derived.Test.YtiieikdbhpflgaaDoorRows
import Derived.Test.YtiieikdbhpflgaaDoorTie
import Derived.Test.YtiieikdbhpflgaaDoorCards
import Derived.Test.YtiieikdbhpflgaaDoorL
import Derived.Test.YtiieikdbhpflgaaDoorW
import Derived.ProofKit
import Derived.LaidMore
import Derived.Lay
import Derived.OpenShut
import Derived.ShutString
import Derived.ChangeOld
import Derived.ChangeMaps5
import Derived.SizedLaws
import Derived.SevenTiedAt
import Derived.Stop.Joined
import Derived.Deep.Strs
namespace Go.Proofs.YtiieikdbhpflgaaDoor.nobody
open Go.ChangeShapes Go.WideShapes Go.ChangeAt Go.WideMaps Go.WideElems Go.RowKit Go.ChangeMaps

theorem own : ownKnob Tryd.prog.godebug = none := by kernel_rfl
theorem laidOut : laidOutB Tryd.prog = true := by kernel_rfl
theorem cells3 : Tryd.prog.cellsOf 3 = 1 := by kernel_rfl
theorem cells40 : Tryd.prog.cellsOf 40 = 19 := by kernel_rfl
theorem cells142 : Tryd.prog.cellsOf 142 = 20 := by kernel_rfl
theorem under142 : Tryd.prog.underlying 142 = some (.array 20 5) := by kernel_rfl
theorem gNd : Tryd.prog.globalNamed "modality/upper.needs" = some 2 := by kernel_rfl
theorem tNd : (Tryd.prog.globals[2]?).map (·.type) = some 142 := by kernel_rfl
def ndL : List Int := [0, 1, 0, 2, 3, 0, 1, 2, 3, 4, 4, 0, 5, 6, 0, 0, 7, 0, 0, 0]

def laid : List (String × DataW Unit) := Rows.upperNobodyRow.laid

theorem tabs {W : World} (h : laidMetH Tryd.prog laid W) : Tb W ∧ W.cell? ⟨2, 5, none⟩ = some (.int .u8 0) := by
  rw [MakeChecks.laidMetH_plain _ _ _ (by kernel_rfl)] at h
  have hm : ("modality/upper.table", (Rows.laid_modality_upper_table : DataW Unit)) ∈ laid := by
    show _ ∈ [_, _]
    simp
  have hm2 : ("modality/upper.needs", (Rows.laid_modality_upper_needs : DataW Unit)) ∈ laid := by
    show _ ∈ [_, _]
    simp
  refine ⟨tb_of (Lib.laidMet.reads h hm), ?_⟩
  obtain ⟨g, t, cs, fuel, p, hg, hty, hvar, hd⟩ := Lib.laidMet.reads h hm2
  obtain rfl := Option.some.inj (gNd.symm.trans hg)
  obtain rfl := Option.some.inj (tNd.symm.trans hty)
  have hcs := Lib.cells_of_tab (zs := ndL) under142 under5 cells5 cells142 hd
  rw [World.var?_cell hg hvar 5, ← Array.getElem?_toList, hcs]
  rfl

set_option maxRecDepth 100000 in
theorem lifted (os : Os) (started : os.Started) (H : Type) (enc : TypeId × Value → H) :
    ReturnsInHanded {} Tryd.checked os 4 .any (fun w args => (Rows.upperNobodySpec.pre enc Tryd.prog Tryd.f4 [] false w args ∧ laidMetH Tryd.prog laid w) ∧ sizedMet enc Tryd.prog Tryd.f4 (OpenSpec.ofChange Rows.upperNobodySpec) false w args)
      (Rows.upperNobodySpec.post enc Tryd.prog Tryd.f4 false true false false) := by
  refine returnsInHanded_of_change_and (C := Tryd.checked) (X := fun w _ => laidMetH Tryd.prog laid w) (fun _ _ _ hh h => h.of_heap hh) own started (by kernel_rfl) Tryd.func4
    (ChangeSpec.witness_shaped (enc := enc) (C := Tryd.checked) (os := os) (X := fun w _ => laidMetH Tryd.prog laid w) false (World.laidAll Tryd.prog os laid) #[.bool false, .slice none 0 0] 8 (World.laidAll_os _ _ _)
      (World.shaped_of_ZipB (by kernel_rfl) (by kernel_rfl)) (by kernel_rfl) (by kernel_rfl) (by kernel_rfl)
      (by rw [MakeChecks.laidMetH_plain _ _ _ (by kernel_rfl)]; exact laidMet_laidAll _ (by kernel_rfl) (by kernel_rfl))) ?_
  intro W base args ds gs before hval0 hW _ hsz0 hL _
  have hsz : (DataW.weightsEach Tryd.prog (Tryd.f4.params.toList ++ Rows.upperNobodySpec.plain.varTypes Tryd.prog) (ds ++ gs)).all (· ≤ reachBytes) = true := hsz0
  have hval : ∀ (j : Nat) t v, Tryd.f4.params[j]? = some t → args[j]? = some v → Value.okWide Tryd.prog W .any base t v := hval0
  have hW' := hW
  obtain ⟨p, q, hA0, hV, rfl, hfz, hnd⟩ := hW
  have hA : DataW.TrodAll enc Tryd.prog W 0 (fun _ => true) true Tryd.f4.params.toList args.toList ds p := hA0
  rw [Tryd.params4] at hA hval hsz
  obtain ⟨v0, vs0, d0, ds0, p0, q0, hargs, rfl, rfl, h0, r0⟩ := trodAll_cons hA
  obtain ⟨v1, vs1, d1, ds1, p1, q1, rfl, rfl, rfl, h1, r1⟩ := trodAll_cons r0
  obtain ⟨rfl, rfl, rfl⟩ := trodAll_nil r1
  obtain rfl : args = #[v0, v1] := by cases args; simp_all
  obtain ⟨rfl, rfl⟩ := trodVars_none hV
  have k0 := h0
  have k1 := h1
  have lt0 : ∀ x ∈ p0, x.block < W.heap.size := by obtain ⟨m, hm⟩ := k0; exact DataW.trod_lt m _ _ _ hm
  have lt1 : ∀ x ∈ p1, x.block < W.heap.size := by obtain ⟨m, hm⟩ := k1; exact DataW.trod_lt m _ _ _ hm
  obtain ⟨b0, rfl, _, _⟩ := open_bool Tryd.underlying4 (hval 0 4 v0 rfl rfl) h0
  obtain ⟨a1, len1, cap1, rfl⟩ := okWide_slice Tryd.underlying25 (hval 1 25 v1 rfl rfl)
  obtain ⟨n, hn, hev⟩ : ∃ n, n ≤ 140737488351232 ∧ Evs W (.slice a1 len1 cap1) n := by
    obtain ⟨fuel, hf⟩ := h1
    refine Rd.evs (enc := enc) (base := 0) (spare := fun _ => true) (held := true) ⟨fuel, d1, _, by simpa [Value.cells] using hf, fun m hm => ?_⟩
    have := List.all_eq_true.1 hsz _ (DataW.weights_mem_each (j := 1) (t := 25) (d := d1) rfl rfl m hm)
    simpa using this
  have hT := tabs hL
  clear hA0 hval0 hsz0 hsz
  have hrun : Calls Tryd.prog 4 #[.bool b0, .slice a1 len1 cap1] W fun x w' => x = .returned (.bool true) ∧ Below W.heap.size W w' := by
    cases b0
    · exact nobody_nil W _ n hn hev hT.1 hT.2
    · exact nobody_plain W _ n hn hev hT.1 hT.2
  refine hrun.mono fun e W' ⟨he, bel⟩ => ?_
  subst he
  exact ⟨_, rfl, _, _, _, [], _, [], hW', trodAll_mk1 (shut_bool Tryd.underlying4 _), (trodAll_cons_mk (Below.trod laidOut (by kernel_rfl) (of_decide_eq_true (by kernel_rfl)) k0 bel lt0) (trodAll_cons_mk (Below.trod laidOut (by kernel_rfl) (of_decide_eq_true (by kernel_rfl)) k1 bel lt1) trodAll_mk0)), rfl, bel.frame _, fun h => by cases h⟩

theorem over : Rows.UpperNobodySaid :=
  OpenClaim.holds_of_wide 4 Tryd.f4 rfl rfl rfl rfl rfl rfl rfl ⟨rfl, rfl, rfl, rfl, rfl⟩ rfl rfl rfl rfl rfl (by kernel_rfl) Tryd.func4 (by kernel_rfl)
    (of_decide_eq_true (by kernel_rfl)) (by unfold Func.isWrapper; first | (rw [if_pos (by decide +kernel)]; kernel_rfl) | (rw [if_neg (by decide +kernel)]; exact ⟨rfl, rfl⟩))
    (fun os started H enc _ => lifted os started H enc)
end Go.Proofs.YtiieikdbhpflgaaDoor.nobody

namespace Go.Proofs.YtiieikdbhpflgaaDoor
theorem upperNobody_holds : Rows.UpperNobodyCardSaid :=
  Claim7.holds_tied_plain_at .later [] [.data, .data] true (true, "86eda8fc41bf0221035996db402aa5bab5b6e8c8ac58f79ac938afd7ba92e4c3") true
    nobody.over (fun _ h => by cases h) (by kernel_rfl) (fun _ h => by cases h) upperNobody_row_tie rfl ⟨rfl, rfl⟩ (by kernel_rfl) rfl
    (fun f fn hf hfn => by
      obtain rfl : f = 4 := Option.some.inj ((show Tryd.prog.funcNamed "modality/modalitylaw9.UpperNobody" = some 4 by kernel_rfl).symm.trans hf) |>.symm
      obtain rfl : fn = Tryd.f4 := (Option.some.inj (Tryd.func4.symm.trans hfn)).symm
      exact ⟨by kernel_rfl, fun j t ht => by
        rw [Tryd.params4] at ht
        have hm : t ∈ [4, 25] := by simpa using Array.mem_of_getElem? ht
        have hall : ([4, 25].all fun u => !Tryd.prog.wantsStandIn u) = true := by kernel_rfl
        exact (show Tryd.prog.wantsStandIn t = false by simpa using List.all_eq_true.1 hall t hm)⟩)
    (by kernel_rfl)
#print axioms upperNobody_holds
end Go.Proofs.YtiieikdbhpflgaaDoor

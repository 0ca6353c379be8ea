import Derived.Test.YtegfgbcimlacbaaGreatDoorRows
import Derived.Test.YtegfgbcimlacbaaGreatDoorTie
import Derived.Test.YtegfgbcimlacbaaGreatDoorCards
import Derived.Test.YtegfgbcimlacbaaGreatDoorY
import Derived.Test.YtegfgbcimlacbaaGreatDoorLc
import Derived.ProofKit
import Derived.LaidMore
import Derived.Lay
import Derived.OpenShut
import Derived.ShutString
import Derived.ChangeOld
import Derived.ChangeMaps5
import Derived.SizedLaws
import Derived.SevenTiedAt
import Derived.Stop.Joined
import Derived.JoinedCond
import Derived.Deep.DeepHandedRow
namespace Go.Proofs.YtegfgbcimlacbaaGreatDoor.encodes
open Go.ChangeShapes Go.WideShapes Go.ChangeAt Go.WideMaps Go.WideElems Go.RowKit Go.ChangeMaps

theorem own : ownKnob Tryz.prog.godebug = none := by kernel_rfl
theorem laidOut : laidOutB Tryz.prog = true := by kernel_rfl

def laid : List (String × DataW Unit) := Rows.charsetEncodesRow.laid

theorem spell {W : World} (h : laidMetH Tryz.prog laid W) : Spell W := by
  rw [MakeChecks.laidMetH_plain _ _ _ (by kernel_rfl)] at h
  have m1 : ("modality/charset.spellings", (Rows.laid_modality_charset_spellings : DataW Unit)) ∈ laid := by
    show _ ∈ [_, _, _, _, _, _, _, _]
    simp
  exact spell_of (Lib.laidMet.reads h m1)

theorem tabIs_of {W : World} {name : String} {k : IntKind} {zs : List Int} {g : Nat} {t e : TypeId} {n : Nat}
    (hg : Tryz.prog.globalNamed name = some g) (hty : (Tryz.prog.globals[g]?).map (·.type) = some t) (ht : Tryz.prog.underlying t = some (.array n e)) (he : Tryz.prog.underlying e = some (.int k)) (hce : Tryz.prog.cellsOf e = 1) (hct : Tryz.prog.cellsOf t = n)
    (h : Lib.VarReads Tryz.prog W name (Lib.tabData k zs)) (i : Nat) (hi : i < zs.length) : W.cell? ⟨g, i, none⟩ = some (.int k (zs.getD i 0)) := by
  obtain ⟨g', t', cs, fuel, p, hg', hty', hvar, hd⟩ := h
  obtain rfl := Option.some.inj (hg.symm.trans hg')
  obtain rfl := Option.some.inj (hty.symm.trans hty')
  have hT : Lib.TabIs Tryz.prog W name k zs := by
    unfold Lib.TabIs
    rw [hvar, ← Lib.cells_of_tab ht he hce hct hd]
  exact hT.cell hg i hi

theorem getD_cast (l : List Nat) (i : Nat) : (l.map Int.ofNat).getD i 0 = ((l.getD i 0 : Nat) : Int) := by
  rw [List.getD_eq_getElem?_getD, List.getD_eq_getElem?_getD, List.getElem?_map]
  cases l[i]? <;> rfl

theorem tabs {W : World} (h : laidMetH Tryz.prog laid W) : Tabs W ∧ RTabs W := by
  rw [MakeChecks.laidMetH_plain _ _ _ (by kernel_rfl)] at h
  have m1 : ("modality/charset.table101", (Rows.laid_modality_charset_table101 : DataW Unit)) ∈ laid := by
    show _ ∈ [_, _, _, _, _, _, _, _]
    simp
  have m2 : ("modality/charset.table126", (Rows.laid_modality_charset_table126 : DataW Unit)) ∈ laid := by
    show _ ∈ [_, _, _, _, _, _, _, _]
    simp
  have m3 : ("modality/modalityref4.table101", (Rows.laid_modality_modalityref4_table101 : DataW Unit)) ∈ laid := by
    show _ ∈ [_, _, _, _, _, _, _, _]
    simp
  have m4 : ("modality/modalityref4.table126", (Rows.laid_modality_modalityref4_table126 : DataW Unit)) ∈ laid := by
    show _ ∈ [_, _, _, _, _, _, _, _]
    simp
  have r1 : Lib.VarReads Tryz.prog W "modality/charset.table101" (Lib.tabData .u16 (t101.map Int.ofNat)) := Lib.laidMet.reads h m1
  have r2 : Lib.VarReads Tryz.prog W "modality/charset.table126" (Lib.tabData .u16 (t126.map Int.ofNat)) := Lib.laidMet.reads h m2
  have r3 : Lib.VarReads Tryz.prog W "modality/modalityref4.table101" (Lib.tabData .i32 (t101.map Int.ofNat)) := Lib.laidMet.reads h m3
  have r4 : Lib.VarReads Tryz.prog W "modality/modalityref4.table126" (Lib.tabData .i32 (t126.map Int.ofNat)) := Lib.laidMet.reads h m4
  refine ⟨⟨fun i hi => ?_, fun i hi => ?_⟩, ⟨fun i hi => ?_, fun i hi => ?_⟩⟩
  · rw [tabIs_of (g := 4) (t := 144) (e := 143) (n := 96) (by kernel_rfl) (by kernel_rfl) Tryz.underlying144 Tryz.underlying143 (by kernel_rfl) (by kernel_rfl) r1 i (by simpa [t101] using hi), getD_cast]
  · rw [tabIs_of (g := 5) (t := 145) (e := 143) (n := 32) (by kernel_rfl) (by kernel_rfl) Tryz.underlying145 Tryz.underlying143 (by kernel_rfl) (by kernel_rfl) r2 i (by simpa [t126] using hi), getD_cast]
  · rw [tabIs_of (g := 2) (t := 108) (e := 21) (n := 96) (by kernel_rfl) (by kernel_rfl) Tryz.underlying108 Tryz.underlying21 (by kernel_rfl) (by kernel_rfl) r3 i (by simpa [t101] using hi), getD_cast]
  · rw [tabIs_of (g := 3) (t := 109) (e := 21) (n := 32) (by kernel_rfl) (by kernel_rfl) Tryz.underlying109 Tryz.underlying21 (by kernel_rfl) (by kernel_rfl) r4 i (by simpa [t126] using hi), getD_cast]

theorem two_of {α : Type} : ∀ {l : List α}, l.length = 2 → ∃ a b, l = [a, b]
  | [a, b], _ => ⟨a, b, rfl⟩
  | [], h => by simp at h
  | [_], h => by simp at h
  | _ :: _ :: _ :: _, h => by simp at h
theorem cells85 : Tryz.prog.cellsOf 51 = 2 := by kernel_rfl
theorem gKd : Tryz.prog.globalNamed "modality/charset.kinds" = some 0 := by kernel_rfl
theorem tKd : (Tryz.prog.globals[0]?).map (·.type) = some 52 := by kernel_rfl
theorem row_two {w : World} {fuel : Nat} {cs : List Value} {a b : List UInt8} {p : List MemPlace}
    (h : DataW.trod (fun _ => ()) Tryz.prog w 0 (fun _ => true) false fuel 51 cs = some (.agg [.lit (.string a), .lit (.string b)], p)) :
    cs = [.string ⟨a.toArray⟩, .string ⟨b.toArray⟩] := by
  obtain ⟨xs, n, rfl, hx, hl, hxl, hall⟩ := DataW.trod_struct Tryz.underlying51 h
  have hxs : xs.map (·.1) = [.lit (.string a), .lit (.string b)] := by
    have := congrArg Prod.fst hx
    simpa using this.symm
  obtain ⟨x0, x1, rfl⟩ : ∃ x0 x1, xs = [x0, x1] := by
    match xs, hxl with
    | [x0, x1], _ => exact ⟨x0, x1, rfl⟩
  simp only [List.map_cons, List.map_nil, List.cons.injEq, and_true] at hxs
  obtain ⟨e0, e1⟩ := hxs
  have one : ∀ (i : Nat) (f : Field) (y : DataW Unit × List MemPlace) (s : List UInt8), DataW.trod (fun _ => ()) Tryz.prog w 0 (fun _ => true) false n 9 ((cs.drop i).take (Tryz.prog.cellsOf 9)) = some y → y.1 = .lit (.string s) → cs[i]? = some (.string ⟨s.toArray⟩) := by
    intro i f y s hy he
    obtain ⟨t, ht, rfl, _⟩ := DataW.trod_string Tryz.underlying9 hy
    simp only [DataW.lit.injEq, Lit.string.injEq] at he
    subst he
    have := congrArg (·[0]?) ht
    rw [cells9] at this
    simpa [List.getElem?_take, List.getElem?_drop] using this
  have h0 := hall 0 _ rfl
  have h1 := hall 1 _ rfl
  have c0 := one 0 default x0 a h0 e0
  have c1 := one 1 default x1 b h1 e1
  rw [cells85] at hl
  clear hall one h0 h1 h
  obtain ⟨v0, v1, rfl⟩ := two_of hl
  simp at c0 c1
  rw [c0, c1]
def kdL : List (List UInt8) := [[9, 10, 12, 13], [9, 10, 12, 13], [], [92], [], [92, 94, 61]]
def kdD : DataW Unit := .agg ((List.range 3).map fun i => .agg [.lit (.string (kdL.getD (2 * i) [])), .lit (.string (kdL.getD (2 * i + 1) []))])
theorem kd_is : ∀ i : Fin 6, kdS i.val = ⟨(kdL.getD i.val []).toArray⟩ := by decide +kernel
theorem kinds_of {W : World} (h : Lib.VarReads Tryz.prog W "modality/charset.kinds" kdD) : Kinds W := by
  obtain ⟨g, t, cs, fuel, p, hg, hty, hvar, hd⟩ := h
  obtain rfl := Option.some.inj (gKd.symm.trans hg)
  obtain rfl := Option.some.inj (tKd.symm.trans hty)
  refine ⟨fun i hi => ?_⟩
  obtain ⟨fuel', d, q, hdi, he⟩ := Lib.array_elem Tryz.underlying52 hd (i / 2) (by omega)
  simp only [List.getElem?_map, List.getElem?_range (show i / 2 < 3 by omega), Option.map_some, Option.some.injEq] at hdi
  subst hdi
  rw [cells85] at he
  have hrow := row_two he
  have := congrArg (·[i % 2]?) hrow
  simp only [List.getElem?_take, List.getElem?_drop] at this
  rw [if_pos (by omega), show i / 2 * 2 + i % 2 = i by omega] at this
  rw [World.var?_cell hg hvar i, ← Array.getElem?_toList, this, kd_is ⟨i, hi⟩]
  rcases (by omega : i % 2 = 0 ∨ i % 2 = 1) with h3 | h3
  · rw [h3]; simp only; rw [show 2 * (i / 2) = i by omega]; rfl
  · rw [h3]; simp only; rw [show 2 * (i / 2) + 1 = i by omega]; rfl

theorem more {W : World} (h : laidMetH Tryz.prog laid W) : Kinds W := by
  rw [MakeChecks.laidMetH_plain _ _ _ (by kernel_rfl)] at h
  have m1 : ("modality/charset.kinds", (Rows.laid_modality_charset_kinds : DataW Unit)) ∈ laid := by
    show _ ∈ [_, _, _, _, _, _, _, _]
    simp
  exact kinds_of (Lib.laidMet.reads h m1)

set_option maxRecDepth 100000 in
theorem lifted (os : Os) (started : os.Started) (H : Type) (enc : TypeId × Value → H) :
    ReturnsInHanded {} Tryz.checked os 3 .any (fun w args => (Rows.charsetEncodesSpec.pre enc Tryz.prog Tryz.f3 [] false w args ∧ laidMetH Tryz.prog laid w) ∧ sizedMet enc Tryz.prog Tryz.f3 (OpenSpec.ofChange Rows.charsetEncodesSpec) false w args)
      (Rows.charsetEncodesSpec.post enc Tryz.prog Tryz.f3 false true false false) := by
  refine returnsInHanded_of_change_and (C := Tryz.checked) (X := fun w _ => laidMetH Tryz.prog laid w) (fun _ _ _ hh h => h.of_heap hh) own started (by kernel_rfl) Tryz.func3
    (ChangeSpec.witness_shaped (enc := enc) (C := Tryz.checked) (os := os) (X := fun w _ => laidMetH Tryz.prog laid w) false (World.laidAll Tryz.prog os laid) #[.slice none 0 0, .int .i64 0, .string ⟨#[]⟩] 8 (World.laidAll_os _ _ _)
      (World.shaped_of_ZipB (by kernel_rfl) (by kernel_rfl)) (by kernel_rfl) (by kernel_rfl) (by kernel_rfl)
      (by rw [MakeChecks.laidMetH_plain _ _ _ (by kernel_rfl)]; exact laidMet_laidAll _ (by kernel_rfl) (by kernel_rfl))) ?_
  intro W base args ds gs before hval0 hW _ hsz0 hL _
  have hsz : (DataW.weightsEach Tryz.prog (Tryz.f3.params.toList ++ Rows.charsetEncodesSpec.plain.varTypes Tryz.prog) (ds ++ gs)).all (· ≤ reachBytes) = true := hsz0
  have hval : ∀ (j : Nat) t v, Tryz.f3.params[j]? = some t → args[j]? = some v → Value.okWide Tryz.prog W .any base t v := hval0
  have hW' := hW
  obtain ⟨p, q, hA0, hV, rfl, hfz, hnd⟩ := hW
  have hA : DataW.TrodAll enc Tryz.prog W 0 (fun _ => true) true Tryz.f3.params.toList args.toList ds p := hA0
  rw [Tryz.params3] at hA hval hsz
  obtain ⟨v0, vs0, d0, ds0, p0, q0, hargs, rfl, rfl, h0, r0⟩ := trodAll_cons hA
  obtain ⟨v1, vs1, d1, ds1, p1, q1, rfl, rfl, rfl, h1, r1⟩ := trodAll_cons r0
  obtain ⟨v2, vs2, d2, ds2, p2, q2, rfl, rfl, rfl, h2, r2⟩ := trodAll_cons r1
  obtain ⟨rfl, rfl, rfl⟩ := trodAll_nil r2
  obtain rfl : args = #[v0, v1, v2] := by cases args; simp_all
  obtain ⟨rfl, rfl⟩ := trodVars_none hV
  have k0 := h0
  have k1 := h1
  have k2 := h2
  obtain ⟨z1, rfl, rfl, rfl, hz1⟩ := open_int Tryz.underlying3 (hval 1 3 v1 rfl rfl) h1
  obtain ⟨s, rfl, rfl, rfl, _⟩ := open_string Tryz.underlying9 (hval 2 9 v2 rfl rfl) h2
  obtain ⟨a0, len0, cap0, rfl⟩ := okWide_slice Tryz.underlying22 (hval 0 22 v0 rfl rfl)
  have lt0 : ∀ x ∈ p0, x.block < W.heap.size := by obtain ⟨m, hm⟩ := k0; exact DataW.trod_lt m _ _ _ hm
  obtain ⟨T, hlen, hTS, hes⟩ : ∃ T : List ByteArray, T.length = len0 ∧ TS W (.slice a0 len0 cap0) T ∧ (T = [] ∨ ∃ sp, d0 = .slice (strs T) sp) := by
    obtain ⟨fuel, hf⟩ := h0
    exact terms_open (by simpa [Value.cells] using hf)
  have hsm : T.length ≤ 8796093021952 ∧ ∀ s ∈ T, s.size ≤ 140737488351232 := by
    rcases hes with rfl | ⟨sp, rfl⟩
    · exact ⟨by simp, fun s hs => by simp at hs⟩
    · exact strs_sized hsz (j := 0) rfl rfl
  have hEn : Env W := ⟨spell hL, (tabs hL).1, more hL⟩
  have hRT := (tabs hL).2
  clear hA0 hval0 hsz0 hsz
  have walk : Calls Tryz.prog 3 #[.slice a0 len0 cap0, .int .i64 z1, .string s] W fun e w' => e = .returned (.bool true) ∧ Below W.heap.size W w' := by
    cases hr : newS T with
    | inl ac => exact encs_no W _ T ac z1 _ hr hTS hsm.1 hsm.2 hEn
    | inr x =>
      obtain ⟨N, x⟩ := x
      exact encs_yes W _ T N x z1 _ hr hTS hsm.1 hsm.2 hEn hRT
  refine walk.mono fun e W' ⟨he, bel⟩ => ?_
  subst he
  exact ⟨_, rfl, _, _, _, [], _, [], hW', trodAll_mk1 (shut_bool Tryz.underlying4 _), (trodAll_cons_mk (Below.trod laidOut (by kernel_rfl) (of_decide_eq_true (by kernel_rfl)) k0 bel lt0) (trodAll_cons_mk (Below.trod laidOut (by kernel_rfl) (of_decide_eq_true (by kernel_rfl)) k1 bel (fun x hx => by simp at hx)) (trodAll_cons_mk (Below.trod laidOut (by kernel_rfl) (of_decide_eq_true (by kernel_rfl)) k2 bel (fun x hx => by simp at hx)) trodAll_mk0))), rfl, bel.frame _, fun h => by cases h⟩

theorem over : Rows.CharsetEncodesSaid :=
  OpenClaim.holds_of_wide 3 Tryz.f3 rfl rfl rfl rfl rfl rfl rfl ⟨rfl, rfl, rfl, rfl, rfl⟩ rfl rfl rfl rfl rfl (by kernel_rfl) Tryz.func3 (by kernel_rfl)
    (of_decide_eq_true (by kernel_rfl)) (by unfold Func.isWrapper; first | (rw [if_pos (by decide +kernel)]; kernel_rfl) | (rw [if_neg (by decide +kernel)]; exact ⟨rfl, rfl⟩))
    (fun os started H enc _ => lifted os started H enc)
end Go.Proofs.YtegfgbcimlacbaaGreatDoor.encodes

namespace Go.Proofs.YtegfgbcimlacbaaGreatDoor
theorem charsetEncodes_holds : Rows.CharsetEncodesCardSaid :=
  Claim7.holds_tied_plain_at .later [] [.data, .data, .data, .data, .data, .data, .data, .pinned] true (true, "ca89762073e601c61976d7d8e28f95c9aae32961a5ce98767a32befd9ad9df0f") true
    encodes.over (fun _ h => by cases h) (by kernel_rfl) (fun _ h => by cases h) charsetEncodes_row_tie rfl ⟨rfl, rfl⟩ (by kernel_rfl) rfl
    (fun f fn hf hfn => by
      obtain rfl : f = 3 := Option.some.inj ((show Tryz.prog.funcNamed "modality/modalitylaw4.CharsetEncodes" = some 3 by kernel_rfl).symm.trans hf) |>.symm
      obtain rfl : fn = Tryz.f3 := (Option.some.inj (Tryz.func3.symm.trans hfn)).symm
      exact ⟨by kernel_rfl, fun j t ht => by
        rw [Tryz.params3] at ht
        have hm : t ∈ [22, 3, 9] := by simpa using Array.mem_of_getElem? ht
        have hall : ([22, 3, 9].all fun u => !Tryz.prog.wantsStandIn u) = true := by kernel_rfl
        exact (show Tryz.prog.wantsStandIn t = false by simpa using List.all_eq_true.1 hall t hm)⟩)
    (by kernel_rfl)
#print axioms charsetEncodes_holds
end Go.Proofs.YtegfgbcimlacbaaGreatDoor

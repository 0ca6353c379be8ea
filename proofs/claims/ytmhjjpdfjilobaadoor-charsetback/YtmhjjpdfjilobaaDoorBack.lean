import Derived.Test.YtmhjjpdfjilobaaDoorRows
import Derived.Test.YtmhjjpdfjilobaaDoorTie
import Derived.Test.YtmhjjpdfjilobaaDoorCards
import Derived.Test.YtmhjjpdfjilobaaDoorY
import Derived.Test.YtmhjjpdfjilobaaDoorTm
import Derived.ProofKit
import Derived.LaidMore
import Derived.Lay
import Derived.OpenShut
import Derived.ShutString
import Derived.ChangeOld
import Derived.ChangeMaps5
import Derived.SizedLaws
import Derived.SevenTiedAt
import Derived.Stop.Joined
import Derived.JoinedCond
import Derived.Deep.DeepHandedRow
namespace Go.Proofs.YtmhjjpdfjilobaaDoor.back
open Go.ChangeShapes Go.WideShapes Go.ChangeAt Go.WideMaps Go.WideElems Go.RowKit Go.ChangeMaps

theorem own : ownKnob Tryd.prog.godebug = none := by kernel_rfl
theorem laidOut : laidOutB Tryd.prog = true := by kernel_rfl
theorem cells5 : Tryd.prog.cellsOf 5 = 1 := by kernel_rfl

def laid : List (String × DataW Unit) := Rows.charsetBackRow.laid

theorem spell {W : World} (h : laidMetH Tryd.prog laid W) : Spell W := by
  rw [MakeChecks.laidMetH_plain _ _ _ (by kernel_rfl)] at h
  have m1 : ("modality/charset.spellings", (Rows.laid_modality_charset_spellings : DataW Unit)) ∈ laid := by
    show _ ∈ [_, _, _, _, _, _]
    simp
  exact spell_of (Lib.laidMet.reads h m1)

theorem tabIs_of {W : World} {name : String} {k : IntKind} {zs : List Int} {g : Nat} {t e : TypeId} {n : Nat}
    (hg : Tryd.prog.globalNamed name = some g) (hty : (Tryd.prog.globals[g]?).map (·.type) = some t) (ht : Tryd.prog.underlying t = some (.array n e)) (he : Tryd.prog.underlying e = some (.int k)) (hce : Tryd.prog.cellsOf e = 1) (hct : Tryd.prog.cellsOf t = n)
    (h : Lib.VarReads Tryd.prog W name (Lib.tabData k zs)) (i : Nat) (hi : i < zs.length) : W.cell? ⟨g, i, none⟩ = some (.int k (zs.getD i 0)) := by
  obtain ⟨g', t', cs, fuel, p, hg', hty', hvar, hd⟩ := h
  obtain rfl := Option.some.inj (hg.symm.trans hg')
  obtain rfl := Option.some.inj (hty.symm.trans hty')
  have hT : Lib.TabIs Tryd.prog W name k zs := by
    unfold Lib.TabIs
    rw [hvar, ← Lib.cells_of_tab ht he hce hct hd]
  exact hT.cell hg i hi

theorem getD_cast (l : List Nat) (i : Nat) : (l.map Int.ofNat).getD i 0 = ((l.getD i 0 : Nat) : Int) := by
  rw [List.getD_eq_getElem?_getD, List.getD_eq_getElem?_getD, List.getElem?_map]
  cases l[i]? <;> rfl

theorem tabs {W : World} (h : laidMetH Tryd.prog laid W) : Tabs W := by
  rw [MakeChecks.laidMetH_plain _ _ _ (by kernel_rfl)] at h
  have m1 : ("modality/charset.table101", (Rows.laid_modality_charset_table101 : DataW Unit)) ∈ laid := by
    show _ ∈ [_, _, _, _, _, _]
    simp
  have m2 : ("modality/charset.table126", (Rows.laid_modality_charset_table126 : DataW Unit)) ∈ laid := by
    show _ ∈ [_, _, _, _, _, _]
    simp
  have r1 : Lib.VarReads Tryd.prog W "modality/charset.table101" (Lib.tabData .u16 (t101.map Int.ofNat)) := Lib.laidMet.reads h m1
  have r2 : Lib.VarReads Tryd.prog W "modality/charset.table126" (Lib.tabData .u16 (t126.map Int.ofNat)) := Lib.laidMet.reads h m2
  refine ⟨fun i hi => ?_, fun i hi => ?_⟩
  · rw [tabIs_of (g := 4) (t := 147) (e := 146) (n := 96) (by kernel_rfl) (by kernel_rfl) Tryd.underlying147 Tryd.underlying146 (by kernel_rfl) (by kernel_rfl) r1 i (by simpa [t101] using hi), getD_cast]
  · rw [tabIs_of (g := 5) (t := 148) (e := 146) (n := 32) (by kernel_rfl) (by kernel_rfl) Tryd.underlying148 Tryd.underlying146 (by kernel_rfl) (by kernel_rfl) r2 i (by simpa [t126] using hi), getD_cast]

theorem two_of {α : Type} : ∀ {l : List α}, l.length = 2 → ∃ a b, l = [a, b]
  | [a, b], _ => ⟨a, b, rfl⟩
  | [], h => by simp at h
  | [_], h => by simp at h
  | _ :: _ :: _ :: _, h => by simp at h
theorem cells85 : Tryd.prog.cellsOf 85 = 2 := by kernel_rfl
theorem gKd : Tryd.prog.globalNamed "modality/charset.kinds" = some 0 := by kernel_rfl
theorem tKd : (Tryd.prog.globals[0]?).map (·.type) = some 86 := by kernel_rfl
theorem row_two {w : World} {fuel : Nat} {cs : List Value} {a b : List UInt8} {p : List MemPlace}
    (h : DataW.trod (fun _ => ()) Tryd.prog w 0 (fun _ => true) false fuel 85 cs = some (.agg [.lit (.string a), .lit (.string b)], p)) :
    cs = [.string ⟨a.toArray⟩, .string ⟨b.toArray⟩] := by
  obtain ⟨xs, n, rfl, hx, hl, hxl, hall⟩ := DataW.trod_struct Tryd.underlying85 h
  have hxs : xs.map (·.1) = [.lit (.string a), .lit (.string b)] := by
    have := congrArg Prod.fst hx
    simpa using this.symm
  obtain ⟨x0, x1, rfl⟩ : ∃ x0 x1, xs = [x0, x1] := by
    match xs, hxl with
    | [x0, x1], _ => exact ⟨x0, x1, rfl⟩
  simp only [List.map_cons, List.map_nil, List.cons.injEq, and_true] at hxs
  obtain ⟨e0, e1⟩ := hxs
  have one : ∀ (i : Nat) (f : Field) (y : DataW Unit × List MemPlace) (s : List UInt8), DataW.trod (fun _ => ()) Tryd.prog w 0 (fun _ => true) false n 9 ((cs.drop i).take (Tryd.prog.cellsOf 9)) = some y → y.1 = .lit (.string s) → cs[i]? = some (.string ⟨s.toArray⟩) := by
    intro i f y s hy he
    obtain ⟨t, ht, rfl, _⟩ := DataW.trod_string Tryd.underlying9 hy
    simp only [DataW.lit.injEq, Lit.string.injEq] at he
    subst he
    have := congrArg (·[0]?) ht
    rw [cells9] at this
    simpa [List.getElem?_take, List.getElem?_drop] using this
  have h0 := hall 0 _ rfl
  have h1 := hall 1 _ rfl
  have c0 := one 0 default x0 a h0 e0
  have c1 := one 1 default x1 b h1 e1
  rw [cells85] at hl
  clear hall one h0 h1 h
  obtain ⟨v0, v1, rfl⟩ := two_of hl
  simp at c0 c1
  rw [c0, c1]
def kdL : List (List UInt8) := [[9, 10, 12, 13], [9, 10, 12, 13], [], [92], [], [92, 94, 61]]
def kdD : DataW Unit := .agg ((List.range 3).map fun i => .agg [.lit (.string (kdL.getD (2 * i) [])), .lit (.string (kdL.getD (2 * i + 1) []))])
theorem kd_is : ∀ i : Fin 6, kdS i.val = ⟨(kdL.getD i.val []).toArray⟩ := by decide +kernel
theorem kinds_of {W : World} (h : Lib.VarReads Tryd.prog W "modality/charset.kinds" kdD) : Kinds W := by
  obtain ⟨g, t, cs, fuel, p, hg, hty, hvar, hd⟩ := h
  obtain rfl := Option.some.inj (gKd.symm.trans hg)
  obtain rfl := Option.some.inj (tKd.symm.trans hty)
  refine ⟨fun i hi => ?_⟩
  obtain ⟨fuel', d, q, hdi, he⟩ := Lib.array_elem Tryd.underlying86 hd (i / 2) (by omega)
  simp only [List.getElem?_map, List.getElem?_range (show i / 2 < 3 by omega), Option.map_some, Option.some.injEq] at hdi
  subst hdi
  rw [cells85] at he
  have hrow := row_two he
  have := congrArg (·[i % 2]?) hrow
  simp only [List.getElem?_take, List.getElem?_drop] at this
  rw [if_pos (by omega), show i / 2 * 2 + i % 2 = i by omega] at this
  rw [World.var?_cell hg hvar i, ← Array.getElem?_toList, this, kd_is ⟨i, hi⟩]
  rcases (by omega : i % 2 = 0 ∨ i % 2 = 1) with h3 | h3
  · rw [h3]; simp only; rw [show 2 * (i / 2) = i by omega]; rfl
  · rw [h3]; simp only; rw [show 2 * (i / 2) + 1 = i by omega]; rfl

theorem utabs_of {W : World} (h3 : Lib.VarReads Tryd.prog W "unicode/utf8.first" Lib.firstData) (h4 : Lib.VarReads Tryd.prog W "unicode/utf8.acceptRanges" Lib.acceptData) : Lib.Utf8Tabs 6 7 W :=
  utf8Tabs_of_reads (ρ := decRen) { decLays with } ⟨by kernel_rfl, by kernel_rfl, by kernel_rfl, by kernel_rfl, by kernel_rfl, by kernel_rfl, by kernel_rfl⟩ h3 h4
theorem utabs_on {w w' : World} (h : Lib.Utf8Tabs 6 7 w) (hb : Below w.heap.size w w') : Lib.Utf8Tabs 6 7 w' :=
  ⟨fun c hc => (hb.cell (p := ⟨6, c, none⟩) (cell_lt (h.1 c hc))).trans (h.1 c hc), fun i hi => ⟨(hb.cell (p := ⟨7, 2 * i, none⟩) (cell_lt (h.2 i hi).1)).trans (h.2 i hi).1, (hb.cell (p := ⟨7, 2 * i + 1, none⟩) (cell_lt (h.2 i hi).2)).trans (h.2 i hi).2⟩⟩

theorem more {W : World} (h : laidMetH Tryd.prog laid W) : Kinds W ∧ Lib.Utf8Tabs 6 7 W := by
  rw [MakeChecks.laidMetH_plain _ _ _ (by kernel_rfl)] at h
  have m1 : ("modality/charset.kinds", (Rows.laid_modality_charset_kinds : DataW Unit)) ∈ laid := by
    show _ ∈ [_, _, _, _, _, _]
    simp
  have m2 : ("unicode/utf8.first", (Rows.laid_unicode_utf8_first : DataW Unit)) ∈ laid := by
    show _ ∈ [_, _, _, _, _, _]
    simp
  have m3 : ("unicode/utf8.acceptRanges", (Rows.laid_unicode_utf8_acceptRanges : DataW Unit)) ∈ laid := by
    show _ ∈ [_, _, _, _, _, _]
    simp
  have e2 : (Rows.laid_unicode_utf8_first : DataW Unit) = Lib.firstData := by kernel_rfl
  have e3 : (Rows.laid_unicode_utf8_acceptRanges : DataW Unit) = Lib.acceptData := by kernel_rfl
  rw [e2] at m2
  rw [e3] at m3
  exact ⟨kinds_of (Lib.laidMet.reads h m1), utabs_of (Lib.laidMet.reads h m2) (Lib.laidMet.reads h m3)⟩

theorem bytes_open {H : Type} {enc : TypeId × Value → H} {W : World} {base : Nat} {spare : Nat → Bool} {held : Bool} {fuel : Nat} {a0 : Option Addr} {len cap : Nat} {x : DataW H × List MemPlace}
    (hf : DataW.trod enc Tryd.prog W base spare held fuel 43 [.slice a0 len cap] = some x) : ∃ bs : List Nat, bs.length = len ∧ V W (.slice a0 len cap) bs ∧ (a0 = none → cap = 0) ∧ (len = 0 ∨ ∃ es sp, x.1 = .slice es sp ∧ es.length = len) := by
  rcases open_ints Tryd.underlying43 Tryd.underlying5 cells5 hf with ⟨hcs, _⟩ | ⟨a, len', cap', zs, hcs, _, hl, hm, hz, hx, hcell, hwz⟩
  · simp only [List.cons.injEq, and_true, Value.slice.injEq] at hcs
    obtain ⟨rfl, rfl, rfl⟩ := hcs
    exact ⟨[], rfl, .inl ⟨_, _, rfl, rfl⟩, fun _ => rfl, .inl rfl⟩
  · simp only [List.cons.injEq, and_true, Value.slice.injEq] at hcs
    obtain ⟨rfl, rfl, rfl⟩ := hcs
    by_cases h0 : len = 0
    · subst h0
      exact ⟨[], rfl, .inl ⟨_, _, rfl, rfl⟩, (fun h => by cases h), .inl rfl⟩
    · have hzl : len ≤ zs.length := by rw [hz]; split <;> omega
      obtain ⟨b, off, sp⟩ := a
      have hs : sp = none := by
        have := World.cell?_spot (hcell 0 (by omega))
        simpa [Addr.add] using this
      subst hs
      have hwf : ∀ n ∈ zs, 0 ≤ n ∧ n < 256 := by
        intro n hn
        have := hwz n hn
        simp only [Lit.wf, Bool.and_eq_true, decide_eq_true_eq, show IntKind.u8.min = 0 from rfl, show IntKind.u8.max = 255 from rfl] at this
        omega
      have hlen : ((zs.take len).map Int.toNat).length = len := by simp; omega
      refine ⟨(zs.take len).map Int.toNat, hlen, .inr ⟨b, off, cap, by rw [hlen], by omega, by omega, ?_, ?_⟩, (fun h => by cases h), .inr ⟨_, _, by rw [hx], by simp [lits]; omega⟩⟩
      · intro k hk
        rw [hlen] at hk
        have hk2 : k < zs.length := by omega
        have hc := hcell k hk2
        have hadd : (⟨b, off, none⟩ : Addr).add k = ⟨b, off + k, none⟩ := by
          unfold Addr.add
          by_cases hz : k = 0
          · rw [if_pos hz, hz]; rfl
          · rw [if_neg hz]
        rw [hadd] at hc
        rw [hc]
        have hp := hwf zs[k] (List.getElem_mem hk2)
        simp [List.getD_eq_getElem?_getD, hk, List.getElem?_eq_getElem hk2]
        omega
      · intro y hy
        rw [List.mem_map] at hy
        obtain ⟨z, hz1, rfl⟩ := hy
        have := hwf z (List.mem_of_mem_take hz1)
        omega


theorem bytes5 : Tryd.prog.bytesOf 5 = 1 := by kernel_rfl
theorem reach_eq : reachBytes = 140737488351232 := rfl

set_option maxRecDepth 100000 in
theorem lifted (os : Os) (started : os.Started) (H : Type) (enc : TypeId × Value → H) :
    ReturnsInHanded {} Tryd.checked os 6 .any (fun w args => (Rows.charsetBackSpec.pre enc Tryd.prog Tryd.f6 [] false w args ∧ laidMetH Tryd.prog laid w) ∧ sizedMet enc Tryd.prog Tryd.f6 (OpenSpec.ofChange Rows.charsetBackSpec) false w args)
      (Rows.charsetBackSpec.post enc Tryd.prog Tryd.f6 false true false false) := by
  refine returnsInHanded_of_change_and (C := Tryd.checked) (X := fun w _ => laidMetH Tryd.prog laid w) (fun _ _ _ hh h => h.of_heap hh) own started (by kernel_rfl) Tryd.func6
    (ChangeSpec.witness_shaped (enc := enc) (C := Tryd.checked) (os := os) (X := fun w _ => laidMetH Tryd.prog laid w) false (World.laidAll Tryd.prog os laid) #[.slice none 0 0, .int .i64 0, .string ⟨#[]⟩, .slice none 0 0, .slice none 0 0] 8 (World.laidAll_os _ _ _)
      (World.shaped_of_ZipB (by kernel_rfl) (by kernel_rfl)) (by kernel_rfl) (by kernel_rfl) (by kernel_rfl)
      (by rw [MakeChecks.laidMetH_plain _ _ _ (by kernel_rfl)]; exact laidMet_laidAll _ (by kernel_rfl) (by kernel_rfl))) ?_
  intro W base args ds gs before hval0 hW _ hsz0 hL _
  have hsz : (DataW.weightsEach Tryd.prog (Tryd.f6.params.toList ++ Rows.charsetBackSpec.plain.varTypes Tryd.prog) (ds ++ gs)).all (· ≤ reachBytes) = true := hsz0
  have hval : ∀ (j : Nat) t v, Tryd.f6.params[j]? = some t → args[j]? = some v → Value.okWide Tryd.prog W .any base t v := hval0
  have hW' := hW
  obtain ⟨p, q, hA0, hV, rfl, hfz, hnd⟩ := hW
  have hA : DataW.TrodAll enc Tryd.prog W 0 (fun _ => true) true Tryd.f6.params.toList args.toList ds p := hA0
  rw [Tryd.params6] at hA hval hsz
  obtain ⟨v0, vs0, d0, ds0, p0, q0, hargs, rfl, rfl, h0, r0⟩ := trodAll_cons hA
  obtain ⟨v1, vs1, d1, ds1, p1, q1, rfl, rfl, rfl, h1, r1⟩ := trodAll_cons r0
  obtain ⟨v2, vs2, d2, ds2, p2, q2, rfl, rfl, rfl, h2, r2⟩ := trodAll_cons r1
  obtain ⟨v3, vs3, d3, ds3, p3, q3, rfl, rfl, rfl, h3, r3⟩ := trodAll_cons r2
  obtain ⟨v4, vs4, d4, ds4, p4, q4, rfl, rfl, rfl, h4, r4⟩ := trodAll_cons r3
  obtain ⟨rfl, rfl, rfl⟩ := trodAll_nil r4
  obtain rfl : args = #[v0, v1, v2, v3, v4] := by cases args; simp_all
  obtain ⟨rfl, rfl⟩ := trodVars_none hV
  have k0 := h0
  have k1 := h1
  have k2 := h2
  have k3 := h3
  have k4 := h4
  obtain ⟨z1, rfl, rfl, rfl, hz1⟩ := open_int Tryd.underlying3 (hval 1 3 v1 rfl rfl) h1
  obtain ⟨s, rfl, rfl, rfl, _⟩ := open_string Tryd.underlying9 (hval 2 9 v2 rfl rfl) h2
  obtain ⟨a0, len0, cap0, rfl⟩ := okWide_slice Tryd.underlying22 (hval 0 22 v0 rfl rfl)
  obtain ⟨a3, len3, cap3, rfl⟩ := okWide_slice Tryd.underlying43 (hval 3 43 v3 rfl rfl)
  obtain ⟨a4, len4, cap4, rfl⟩ := okWide_slice Tryd.underlying43 (hval 4 43 v4 rfl rfl)
  have lt0 : ∀ x ∈ p0, x.block < W.heap.size := by obtain ⟨m, hm⟩ := k0; exact DataW.trod_lt m _ _ _ hm
  have lt3 : ∀ x ∈ p3, x.block < W.heap.size := by obtain ⟨m, hm⟩ := k3; exact DataW.trod_lt m _ _ _ hm
  have lt4 : ∀ x ∈ p4, x.block < W.heap.size := by obtain ⟨m, hm⟩ := k4; exact DataW.trod_lt m _ _ _ hm
  obtain ⟨T, hlen, hTS, hes⟩ : ∃ T : List ByteArray, T.length = len0 ∧ TS W (.slice a0 len0 cap0) T ∧ (T = [] ∨ ∃ sp, d0 = .slice (strs T) sp) := by
    obtain ⟨fuel, hf⟩ := h0
    exact terms_open (by simpa [Value.cells] using hf)
  have hsm : T.length ≤ 8796093021952 ∧ ∀ s ∈ T, s.size ≤ 140737488351232 := by
    rcases hes with rfl | ⟨sp, rfl⟩
    · exact ⟨by simp, fun s hs => by simp at hs⟩
    · exact strs_sized hsz (j := 0) rfl rfl
  obtain ⟨b3, hlen3, hV3, _, hes3⟩ : ∃ bs : List Nat, bs.length = len3 ∧ V W (.slice a3 len3 cap3) bs ∧ (a3 = none → cap3 = 0) ∧ (len3 = 0 ∨ ∃ es sp, d3 = .slice es sp ∧ es.length = len3) := by
    obtain ⟨fuel, hf⟩ := h3
    exact bytes_open (by simpa [Value.cells] using hf)
  obtain ⟨b4, hlen4, hV4, _, hes4⟩ : ∃ bs : List Nat, bs.length = len4 ∧ V W (.slice a4 len4 cap4) bs ∧ (a4 = none → cap4 = 0) ∧ (len4 = 0 ∨ ∃ es sp, d4 = .slice es sp ∧ es.length = len4) := by
    obtain ⟨fuel, hf⟩ := h4
    exact bytes_open (by simpa [Value.cells] using hf)
  have hl3 : b3.length ≤ 140737488351232 := by
    rcases hes3 with h | ⟨es, sp, rfl, he⟩
    · omega
    · have := sized_slice hsz (j := 3) (t := 43) (e := 5) (elems := es) (spare := sp) rfl rfl Tryd.underlying43
      rw [bytes5, reach_eq] at this
      omega
  have hl4 : b4.length ≤ 140737488351232 := by
    rcases hes4 with h | ⟨es, sp, rfl, he⟩
    · omega
    · have := sized_slice hsz (j := 4) (t := 43) (e := 5) (elems := es) (spare := sp) rfl rfl Tryd.underlying43
      rw [bytes5, reach_eq] at this
      omega
  have hMo := more hL
  have hEn : Env W := ⟨spell hL, tabs hL, hMo.1, fun w' hw => utabs_on hMo.2 hw⟩
  clear hA0 hval0 hsz0 hsz
  subst hlen3
  subst hlen4
  have walk : Calls Tryd.prog 6 #[.slice a0 len0 cap0, .int .i64 z1, .string s, .slice a3 b3.length cap3, .slice a4 b4.length cap4] W fun e w' => e = .returned (.bool true) ∧ Below W.heap.size W w' := by
    cases hr : newS T with
    | inl ac => exact back_no W _ T ac z1 _ _ _ hr hTS hsm.2 hEn
    | inr x =>
      obtain ⟨N, x⟩ := x
      exact back_yes W _ T N x z1 _ a3 a4 cap3 cap4 b3 b4 hr hTS hsm.2 hEn hV3 hV4 hl4 hl3
  refine walk.mono fun e W' ⟨he, bel⟩ => ?_
  subst he
  exact ⟨_, rfl, _, _, _, [], _, [], hW', trodAll_mk1 (shut_bool Tryd.underlying4 _), (trodAll_cons_mk (Below.trod laidOut (by kernel_rfl) (of_decide_eq_true (by kernel_rfl)) k0 bel lt0) (trodAll_cons_mk (Below.trod laidOut (by kernel_rfl) (of_decide_eq_true (by kernel_rfl)) k1 bel (fun x hx => by simp at hx)) (trodAll_cons_mk (Below.trod laidOut (by kernel_rfl) (of_decide_eq_true (by kernel_rfl)) k2 bel (fun x hx => by simp at hx)) (trodAll_cons_mk (Below.trod laidOut (by kernel_rfl) (of_decide_eq_true (by kernel_rfl)) k3 bel lt3) (trodAll_cons_mk (Below.trod laidOut (by kernel_rfl) (of_decide_eq_true (by kernel_rfl)) k4 bel lt4) trodAll_mk0))))), rfl, bel.frame _, fun h => by cases h⟩

theorem over : Rows.CharsetBackSaid :=
  OpenClaim.holds_of_wide 6 Tryd.f6 rfl rfl rfl rfl rfl rfl rfl ⟨rfl, rfl, rfl, rfl, rfl⟩ rfl rfl rfl rfl rfl (by kernel_rfl) Tryd.func6 (by kernel_rfl)
    (of_decide_eq_true (by kernel_rfl)) (by unfold Func.isWrapper; first | (rw [if_pos (by decide +kernel)]; kernel_rfl) | (rw [if_neg (by decide +kernel)]; exact ⟨rfl, rfl⟩))
    (fun os started H enc _ => lifted os started H enc)
end Go.Proofs.YtmhjjpdfjilobaaDoor.back

namespace Go.Proofs.YtmhjjpdfjilobaaDoor
theorem charsetBack_holds : Rows.CharsetBackCardSaid :=
  Claim7.holds_tied_plain_at .later [] [.data, .data, .data, .data, .data, .pinned] true (true, "064139b27e93a422d77657eee59da0e1a45811eae7528e0364e61b76f49c859a") true
    back.over (fun _ h => by cases h) (by kernel_rfl) (fun _ h => by cases h) charsetBack_row_tie rfl ⟨rfl, rfl⟩ (by kernel_rfl) rfl
    (fun f fn hf hfn => by
      obtain rfl : f = 6 := Option.some.inj ((show Tryd.prog.funcNamed "modality/modalitylaw4.CharsetBack" = some 6 by kernel_rfl).symm.trans hf) |>.symm
      obtain rfl : fn = Tryd.f6 := (Option.some.inj (Tryd.func6.symm.trans hfn)).symm
      exact ⟨by kernel_rfl, fun j t ht => by
        rw [Tryd.params6] at ht
        have hm : t ∈ [22, 3, 9, 43, 43] := by simpa using Array.mem_of_getElem? ht
        have hall : ([22, 3, 9, 43, 43].all fun u => !Tryd.prog.wantsStandIn u) = true := by kernel_rfl
        exact (show Tryd.prog.wantsStandIn t = false by simpa using List.all_eq_true.1 hall t hm)⟩)
    (by kernel_rfl)
#print axioms charsetBack_holds
end Go.Proofs.YtmhjjpdfjilobaaDoor

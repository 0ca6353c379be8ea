import Derived.Test.YtgdemlebohlolaaGreatDoorRows
import Derived.Test.YtgdemlebohlolaaGreatDoorTie
import Derived.Test.YtgdemlebohlolaaGreatDoorCards
import Derived.Test.YtgdemlebohlolaaGreatDoorNi
import Derived.Lib.LaidU8
import Derived.ProofKit
import Derived.LaidSub
import Derived.Lay
import Derived.OpenShut
import Derived.ShutString
import Derived.SizedLaws
import Derived.ChangeOld
import Derived.ChangeMaps5
import Derived.ChangeArms
import Derived.Lib.LaidTab
import Derived.Deep.Strs
import Derived.SevenTiedAt
import Derived.Stop.Joined
import Derived.ChangeSlices
namespace Go.Proofs.YtgdemlebohlolaaGreatDoor.rows
open Go.ChangeShapes Go.WideShapes Go.ChangeAt Go.WideMaps Go.WideElems Go.RowKit Go.ChangeMaps

theorem own : ownKnob Tryz.prog.godebug = none := by kernel_rfl
theorem laidOut : laidOutB Tryz.prog = true := by kernel_rfl
def laid : List (String × DataW Unit) := Rows.storeRowsRow.laid
theorem utabs_of {W : World} (h3 : Lib.VarReads Tryz.prog W "unicode/utf8.first" Lib.firstData) (h4 : Lib.VarReads Tryz.prog W "unicode/utf8.acceptRanges" Lib.acceptData) : Lib.Utf8Tabs 3 4 W :=
  utf8Tabs_of_reads (ρ := Ck.decRen) { Ck.decLays197 with } ⟨by kernel_rfl, by kernel_rfl, by kernel_rfl, by kernel_rfl, by kernel_rfl, by kernel_rfl, by kernel_rfl⟩ h3 h4
theorem err_cell {W : World} {n : String} {g : Nat} {d : DataW Unit} (hn : Tryz.prog.globalNamed n = some g) (ht : (Tryz.prog.globals[g]?).map (·.type) = some 26) (h : Lib.VarReads Tryz.prog W n d) : ∃ ev, W.cell? ⟨g, 0, none⟩ = some ev ∧ (ev = .nilIface ∨ ∃ te pe, ev = .iface te pe) := by
  obtain ⟨g', t, cs, fuel, p, hg, hty, hvar, hd⟩ := h
  obtain rfl := Option.some.inj (hn.symm.trans hg)
  obtain rfl := Option.some.inj (ht.symm.trans hty)
  have hc := World.var?_cell hg hvar 0
  cases fuel with
  | zero => simp [DataW.trod] at hd
  | succ fuel =>
    rw [← Array.getElem?_toList] at hc
    generalize cs.toList = l at hd hc
    rcases l with _ | ⟨v, _ | ⟨u, r⟩⟩
    · simp [DataW.trod, Tryz.underlying26] at hd
    · refine ⟨v, hc, ?_⟩
      cases v with
      | nilIface => exact .inl rfl
      | iface a b => exact .inr ⟨a, b, rfl⟩
      | _ => simp [DataW.trod, Tryz.underlying26] at hd
    · simp [DataW.trod, Tryz.underlying26] at hd
theorem gM : Tryz.prog.globalNamed "modality/value.monthDays" = some 5 := by kernel_rfl
theorem gT : Tryz.prog.globalNamed "modality/store.textVRs" = some 0 := by kernel_rfl
theorem gV : Tryz.prog.globalNamed "modality/modalityref12.vrs" = some 1 := by kernel_rfl
def months : List Int := [31, 28, 31, 30, 31, 30, 31, 31, 30, 31, 30, 31]
theorem tab_of {W : World} (h : laidMet Tryz.prog laid W) {n : String} {d : DataW Unit} (e : laid.filter (fun x => x.1 == n) = [(n, d)]) : laidMet Tryz.prog [(n, d)] W := by
  have := h.filter (fun x => x.1 == n)
  rwa [e] at this
set_option maxRecDepth 100000 in
theorem gs_of {W : World} (h : laidMetH Tryz.prog laid W) : Ck.Gs W := by
  rw [MakeChecks.laidMetH_plain _ _ _ (by kernel_rfl)] at h
  have m2 : ("unicode/utf8.first", (Rows.laid_unicode_utf8_first : DataW Unit)) ∈ laid := by
    show _ ∈ [_, _, _, _, _, _, _, _, _, _]
    simp
  have m3 : ("unicode/utf8.acceptRanges", (Rows.laid_unicode_utf8_acceptRanges : DataW Unit)) ∈ laid := by
    show _ ∈ [_, _, _, _, _, _, _, _, _, _]
    simp
  have m4 : ("strconv.ErrSyntax", (Rows.laid_strconv_ErrSyntax : DataW Unit)) ∈ laid := by
    show _ ∈ [_, _, _, _, _, _, _, _, _, _]
    simp
  have m5 : ("strconv.ErrRange", (Rows.laid_strconv_ErrRange : DataW Unit)) ∈ laid := by
    show _ ∈ [_, _, _, _, _, _, _, _, _, _]
    simp
  have e2 : (Rows.laid_unicode_utf8_first : DataW Unit) = Lib.firstData := by kernel_rfl
  have e3 : (Rows.laid_unicode_utf8_acceptRanges : DataW Unit) = Lib.acceptData := by kernel_rfl
  rw [e2] at m2
  rw [e3] at m3
  have h1 : laidMet Tryz.prog [("modality/value.monthDays", Lib.tabData .i64 months)] W := tab_of h (by kernel_rfl)
  have h2 : laidMet Tryz.prog [("modality/store.textVRs", Lib.tabData .i64 Ck.vvL)] W := tab_of h (by kernel_rfl)
  have h3 : laidMet Tryz.prog [("modality/modalityref12.vrs", Lib.tabData .i64 Ck.vvL)] W := tab_of h (by kernel_rfl)
  have hM : Lib.TabIs Tryz.prog W "modality/value.monthDays" .i64 months := Lib.tabIs_of_head (rest := []) gM (t := 155) (by kernel_rfl) (n := 12) (e := 3) (by kernel_rfl) (by kernel_rfl) (by kernel_rfl) (by kernel_rfl) h1
  have hT : Lib.TabIs Tryz.prog W "modality/store.textVRs" .i64 Ck.vvL := Lib.tabIs_of_head (rest := []) gT (t := 50) (by kernel_rfl) (n := 19) (e := 49) (by kernel_rfl) (by kernel_rfl) (by kernel_rfl) (by kernel_rfl) h2
  have hV : Lib.TabIs Tryz.prog W "modality/modalityref12.vrs" .i64 Ck.vvL := Lib.tabIs_of_head (rest := []) gV (t := 50) (by kernel_rfl) (n := 19) (e := 49) (by kernel_rfl) (by kernel_rfl) (by kernel_rfl) (by kernel_rfl) h3
  refine ⟨⟨utabs_of (Lib.laidMet.reads h m2) (Lib.laidMet.reads h m3), err_cell (by kernel_rfl) (by kernel_rfl) (Lib.laidMet.reads h m4), err_cell (by kernel_rfl) (by kernel_rfl) (Lib.laidMet.reads h m5)⟩, ⟨fun i hi => ?_⟩, fun i hi => ?_, fun i hi => ?_⟩
  · rw [hM.cell gM i hi]
    have : i = 0 ∨ i = 1 ∨ i = 2 ∨ i = 3 ∨ i = 4 ∨ i = 5 ∨ i = 6 ∨ i = 7 ∨ i = 8 ∨ i = 9 ∨ i = 10 ∨ i = 11 := by omega
    rcases this with rfl | rfl | rfl | rfl | rfl | rfl | rfl | rfl | rfl | rfl | rfl | rfl <;> rfl
  · rw [hT.cell gT i hi]
    rcases Ck.i19 hi with rfl | rfl | rfl | rfl | rfl | rfl | rfl | rfl | rfl | rfl | rfl | rfl | rfl | rfl | rfl | rfl | rfl | rfl | rfl <;> rfl
  · rw [hV.cell gV i hi]
    rcases Ck.i19 hi with rfl | rfl | rfl | rfl | rfl | rfl | rfl | rfl | rfl | rfl | rfl | rfl | rfl | rfl | rfl | rfl | rfl | rfl | rfl <;> rfl
theorem reach_eq : reachBytes = 140737488351232 := rfl
theorem cells3 : Tryz.prog.cellsOf 3 = 1 := by kernel_rfl
theorem cells9 : Tryz.prog.cellsOf 9 = 1 := by kernel_rfl
theorem cells23 : Tryz.prog.cellsOf 23 = 20 := by kernel_rfl
theorem w_of {H : Type} {parts : List (DataW H)} {n : Nat} (i : Nat) (hi : i < 19) (bytes : List UInt8) (hp : parts[i]? = some (.lit (.string bytes))) (h : ∀ m ∈ (DataW.agg parts).weights Tryz.prog 23, m ≤ n) : bytes.length ≤ n := by
  refine h _ ?_
  unfold DataW.weights
  rw [Tryz.underlying23]
  refine DataW.weights_mem_each (j := i) (t := 9) (d := .lit (.string bytes)) ?_ hp _ (by simp [DataW.weights])
  rcases Ck.i19 hi with rfl | rfl | rfl | rfl | rfl | rfl | rfl | rfl | rfl | rfl | rfl | rfl | rfl | rfl | rfl | rfl | rfl | rfl | rfl <;> rfl
set_option maxRecDepth 100000 in
set_option maxHeartbeats 4000000 in
theorem open_step {H : Type} {enc : TypeId × Value → H} {W : World} {b base : Nat} {spare : Nat → Bool} {held : Bool} {v : Value} {d : DataW H} {ps : List MemPlace} (hval : Value.okWide Tryz.prog W .any base 23 v)
    (h : DataW.Trod enc Tryz.prog W b spare held 23 v d ps) : ∃ (s0 s1 s2 s3 s4 s5 s6 s7 s8 s9 s10 s11 s12 s13 s14 s15 s16 s17 s18 : ByteArray) (st : Int), v = .agg #[.string s0, .string s1, .string s2, .string s3, .string s4, .string s5, .string s6, .string s7, .string s8, .string s9, .string s10, .string s11, .string s12, .string s13, .string s14, .string s15, .string s16, .string s17, .string s18, .int .i64 st] ∧ ∀ n, (∀ m ∈ d.weights Tryz.prog 23, m ≤ n) → ∀ k, k < 19 → (Ck.tx19 [s0, s1, s2, s3, s4, s5, s6, s7, s8, s9, s10, s11, s12, s13, s14, s15, s16, s17, s18] k).size ≤ n := by
  obtain ⟨cs, rfl, hl⟩ := okWide_struct Tryz.underlying23 hval
  rw [cells23] at hl
  obtain ⟨l⟩ := cs
  match l, hl with
  | [c0, c1, c2, c3, c4, c5, c6, c7, c8, c9, c10, c11, c12, c13, c14, c15, c16, c17, c18, c19], _ =>
    obtain ⟨fuel, hf0⟩ := h
    obtain ⟨xs, n, -, hx, -, hn, hf⟩ := DataW.trod_struct Tryz.underlying23 hf0
    simp only [Value.cells] at hf
    obtain ⟨s0, e0, x0, -⟩ := DataW.trod_string Tryz.underlying9 ((hf 0 _ rfl).trans (List.getElem?_eq_getElem (by rw [hn]; decide)))
    simp [cells9] at e0
    subst e0
    obtain ⟨s1, e1, x1, -⟩ := DataW.trod_string Tryz.underlying9 ((hf 1 _ rfl).trans (List.getElem?_eq_getElem (by rw [hn]; decide)))
    simp [cells9] at e1
    subst e1
    obtain ⟨s2, e2, x2, -⟩ := DataW.trod_string Tryz.underlying9 ((hf 2 _ rfl).trans (List.getElem?_eq_getElem (by rw [hn]; decide)))
    simp [cells9] at e2
    subst e2
    obtain ⟨s3, e3, x3, -⟩ := DataW.trod_string Tryz.underlying9 ((hf 3 _ rfl).trans (List.getElem?_eq_getElem (by rw [hn]; decide)))
    simp [cells9] at e3
    subst e3
    obtain ⟨s4, e4, x4, -⟩ := DataW.trod_string Tryz.underlying9 ((hf 4 _ rfl).trans (List.getElem?_eq_getElem (by rw [hn]; decide)))
    simp [cells9] at e4
    subst e4
    obtain ⟨s5, e5, x5, -⟩ := DataW.trod_string Tryz.underlying9 ((hf 5 _ rfl).trans (List.getElem?_eq_getElem (by rw [hn]; decide)))
    simp [cells9] at e5
    subst e5
    obtain ⟨s6, e6, x6, -⟩ := DataW.trod_string Tryz.underlying9 ((hf 6 _ rfl).trans (List.getElem?_eq_getElem (by rw [hn]; decide)))
    simp [cells9] at e6
    subst e6
    obtain ⟨s7, e7, x7, -⟩ := DataW.trod_string Tryz.underlying9 ((hf 7 _ rfl).trans (List.getElem?_eq_getElem (by rw [hn]; decide)))
    simp [cells9] at e7
    subst e7
    obtain ⟨s8, e8, x8, -⟩ := DataW.trod_string Tryz.underlying9 ((hf 8 _ rfl).trans (List.getElem?_eq_getElem (by rw [hn]; decide)))
    simp [cells9] at e8
    subst e8
    obtain ⟨s9, e9, x9, -⟩ := DataW.trod_string Tryz.underlying9 ((hf 9 _ rfl).trans (List.getElem?_eq_getElem (by rw [hn]; decide)))
    simp [cells9] at e9
    subst e9
    obtain ⟨s10, e10, x10, -⟩ := DataW.trod_string Tryz.underlying9 ((hf 10 _ rfl).trans (List.getElem?_eq_getElem (by rw [hn]; decide)))
    simp [cells9] at e10
    subst e10
    obtain ⟨s11, e11, x11, -⟩ := DataW.trod_string Tryz.underlying9 ((hf 11 _ rfl).trans (List.getElem?_eq_getElem (by rw [hn]; decide)))
    simp [cells9] at e11
    subst e11
    obtain ⟨s12, e12, x12, -⟩ := DataW.trod_string Tryz.underlying9 ((hf 12 _ rfl).trans (List.getElem?_eq_getElem (by rw [hn]; decide)))
    simp [cells9] at e12
    subst e12
    obtain ⟨s13, e13, x13, -⟩ := DataW.trod_string Tryz.underlying9 ((hf 13 _ rfl).trans (List.getElem?_eq_getElem (by rw [hn]; decide)))
    simp [cells9] at e13
    subst e13
    obtain ⟨s14, e14, x14, -⟩ := DataW.trod_string Tryz.underlying9 ((hf 14 _ rfl).trans (List.getElem?_eq_getElem (by rw [hn]; decide)))
    simp [cells9] at e14
    subst e14
    obtain ⟨s15, e15, x15, -⟩ := DataW.trod_string Tryz.underlying9 ((hf 15 _ rfl).trans (List.getElem?_eq_getElem (by rw [hn]; decide)))
    simp [cells9] at e15
    subst e15
    obtain ⟨s16, e16, x16, -⟩ := DataW.trod_string Tryz.underlying9 ((hf 16 _ rfl).trans (List.getElem?_eq_getElem (by rw [hn]; decide)))
    simp [cells9] at e16
    subst e16
    obtain ⟨s17, e17, x17, -⟩ := DataW.trod_string Tryz.underlying9 ((hf 17 _ rfl).trans (List.getElem?_eq_getElem (by rw [hn]; decide)))
    simp [cells9] at e17
    subst e17
    obtain ⟨s18, e18, x18, -⟩ := DataW.trod_string Tryz.underlying9 ((hf 18 _ rfl).trans (List.getElem?_eq_getElem (by rw [hn]; decide)))
    simp [cells9] at e18
    subst e18
    obtain ⟨st, e19, -, -⟩ := DataW.trod_int Tryz.underlying3 ((hf 19 _ rfl).trans (List.getElem?_eq_getElem (by rw [hn]; decide)))
    simp [cells3] at e19
    subst e19
    refine ⟨s0, s1, s2, s3, s4, s5, s6, s7, s8, s9, s10, s11, s12, s13, s14, s15, s16, s17, s18, st, rfl, fun n hw k hk => ?_⟩
    have hd : d = .agg (xs.map (·.1)) := congrArg Prod.fst hx
    rw [hd] at hw
    rcases Ck.i19 hk with rfl | rfl | rfl | rfl | rfl | rfl | rfl | rfl | rfl | rfl | rfl | rfl | rfl | rfl | rfl | rfl | rfl | rfl | rfl
    · exact w_of 0 hk s0.data.toList (by rw [List.getElem?_map, List.getElem?_eq_getElem (by rw [hn]; decide), x0]; rfl) hw
    · exact w_of 1 hk s1.data.toList (by rw [List.getElem?_map, List.getElem?_eq_getElem (by rw [hn]; decide), x1]; rfl) hw
    · exact w_of 2 hk s2.data.toList (by rw [List.getElem?_map, List.getElem?_eq_getElem (by rw [hn]; decide), x2]; rfl) hw
    · exact w_of 3 hk s3.data.toList (by rw [List.getElem?_map, List.getElem?_eq_getElem (by rw [hn]; decide), x3]; rfl) hw
    · exact w_of 4 hk s4.data.toList (by rw [List.getElem?_map, List.getElem?_eq_getElem (by rw [hn]; decide), x4]; rfl) hw
    · exact w_of 5 hk s5.data.toList (by rw [List.getElem?_map, List.getElem?_eq_getElem (by rw [hn]; decide), x5]; rfl) hw
    · exact w_of 6 hk s6.data.toList (by rw [List.getElem?_map, List.getElem?_eq_getElem (by rw [hn]; decide), x6]; rfl) hw
    · exact w_of 7 hk s7.data.toList (by rw [List.getElem?_map, List.getElem?_eq_getElem (by rw [hn]; decide), x7]; rfl) hw
    · exact w_of 8 hk s8.data.toList (by rw [List.getElem?_map, List.getElem?_eq_getElem (by rw [hn]; decide), x8]; rfl) hw
    · exact w_of 9 hk s9.data.toList (by rw [List.getElem?_map, List.getElem?_eq_getElem (by rw [hn]; decide), x9]; rfl) hw
    · exact w_of 10 hk s10.data.toList (by rw [List.getElem?_map, List.getElem?_eq_getElem (by rw [hn]; decide), x10]; rfl) hw
    · exact w_of 11 hk s11.data.toList (by rw [List.getElem?_map, List.getElem?_eq_getElem (by rw [hn]; decide), x11]; rfl) hw
    · exact w_of 12 hk s12.data.toList (by rw [List.getElem?_map, List.getElem?_eq_getElem (by rw [hn]; decide), x12]; rfl) hw
    · exact w_of 13 hk s13.data.toList (by rw [List.getElem?_map, List.getElem?_eq_getElem (by rw [hn]; decide), x13]; rfl) hw
    · exact w_of 14 hk s14.data.toList (by rw [List.getElem?_map, List.getElem?_eq_getElem (by rw [hn]; decide), x14]; rfl) hw
    · exact w_of 15 hk s15.data.toList (by rw [List.getElem?_map, List.getElem?_eq_getElem (by rw [hn]; decide), x15]; rfl) hw
    · exact w_of 16 hk s16.data.toList (by rw [List.getElem?_map, List.getElem?_eq_getElem (by rw [hn]; decide), x16]; rfl) hw
    · exact w_of 17 hk s17.data.toList (by rw [List.getElem?_map, List.getElem?_eq_getElem (by rw [hn]; decide), x17]; rfl) hw
    · exact w_of 18 hk s18.data.toList (by rw [List.getElem?_map, List.getElem?_eq_getElem (by rw [hn]; decide), x18]; rfl) hw
set_option maxRecDepth 100000 in
theorem lifted (os : Os) (started : os.Started) (H : Type) (enc : TypeId × Value → H) :
    ReturnsInHanded {} Tryz.checked os 3 .any (fun w args => (Rows.storeRowsSpec.pre enc Tryz.prog Tryz.f3 [] false w args ∧ laidMetH Tryz.prog laid w) ∧ sizedMet enc Tryz.prog Tryz.f3 (OpenSpec.ofChange Rows.storeRowsSpec) false w args)
      (Rows.storeRowsSpec.post enc Tryz.prog Tryz.f3 false true false false) := by
  refine returnsInHanded_of_change_and (C := Tryz.checked) (X := fun w _ => laidMetH Tryz.prog laid w) (fun _ _ _ hh h => h.of_heap hh) own started (by kernel_rfl) Tryz.func3
    (ChangeSpec.witness_shaped (enc := enc) (C := Tryz.checked) (os := os) (X := fun w _ => laidMetH Tryz.prog laid w) false (World.laidAll Tryz.prog os laid) #[.agg #[.string ⟨#[]⟩, .string ⟨#[]⟩, .string ⟨#[]⟩, .string ⟨#[]⟩, .string ⟨#[]⟩, .string ⟨#[]⟩, .string ⟨#[]⟩, .string ⟨#[]⟩, .string ⟨#[]⟩, .string ⟨#[]⟩, .string ⟨#[]⟩, .string ⟨#[]⟩, .string ⟨#[]⟩, .string ⟨#[]⟩, .string ⟨#[]⟩, .string ⟨#[]⟩, .string ⟨#[]⟩, .string ⟨#[]⟩, .string ⟨#[]⟩, .int .i64 0]] 8 (World.laidAll_os _ _ _)
      (World.shaped_of_ZipB (by kernel_rfl) (by kernel_rfl)) (by kernel_rfl) (by kernel_rfl) (by kernel_rfl)
      (by rw [MakeChecks.laidMetH_plain _ _ _ (by kernel_rfl)]; exact laidMet_laidAll _ (by kernel_rfl) (by kernel_rfl))) ?_
  intro W base args ds gs before hval0 hW _ hsz0 hL _
  have hsz : (DataW.weightsEach Tryz.prog (Tryz.f3.params.toList ++ Rows.storeRowsSpec.plain.varTypes Tryz.prog) (ds ++ gs)).all (· ≤ reachBytes) = true := hsz0
  have hval : ∀ (j : Nat) t v, Tryz.f3.params[j]? = some t → args[j]? = some v → Value.okWide Tryz.prog W .any base t v := hval0
  have hW' := hW
  obtain ⟨p, q, hA0, hV, rfl, hfz, hnd⟩ := hW
  have hA : DataW.TrodAll enc Tryz.prog W 0 (fun _ => true) true Tryz.f3.params.toList args.toList ds p := hA0
  rw [Tryz.params3] at hA hval hsz
  obtain ⟨v0, vs0, d0, ds0, p0, q0, hargs, rfl, rfl, h0, r0⟩ := trodAll_cons hA
  obtain ⟨rfl, rfl, rfl⟩ := trodAll_nil r0
  obtain rfl : args = #[v0] := by cases args; simp_all
  obtain ⟨rfl, rfl⟩ := trodVars_none hV
  have k0 := h0
  have lt0 : ∀ x ∈ p0, x.block < W.heap.size := by obtain ⟨m, hm⟩ := k0; exact DataW.trod_lt m _ _ _ hm
  obtain ⟨s0, s1, s2, s3, s4, s5, s6, s7, s8, s9, s10, s11, s12, s13, s14, s15, s16, s17, s18, st, rfl, hsizes⟩ := open_step (hval 0 23 v0 rfl rfl) h0
  have hz := hsizes 140737488351232 (fun m hm => by
    have := List.all_eq_true.1 hsz m (DataW.weights_mem_each (j := 0) (t := 23) (d := d0) rfl rfl m hm)
    rw [reach_eq] at this
    simpa using this)
  have hT := gs_of hL
  clear hA0 hval0 hsz0 hsz hsizes hval
  simp only [List.append_nil] at hW'
  refine (Ck.rows_any W s0 s1 s2 s3 s4 s5 s6 s7 s8 s9 s10 s11 s12 s13 s14 s15 s16 s17 s18 st hz hT).mono fun e W' ⟨he, bel⟩ => ?_
  subst he
  exact ⟨_, rfl, _, _, _, [], _, [], hW', trodAll_mk1 (shut_bool Tryz.underlying4 _), (trodAll_cons_mk (Below.trod laidOut (by kernel_rfl) (of_decide_eq_true (by kernel_rfl)) k0 bel lt0) trodAll_mk0), rfl, bel.frame _, fun h => by cases h⟩
theorem over : Rows.StoreRowsSaid :=
  OpenClaim.holds_of_wide 3 Tryz.f3 rfl rfl rfl rfl rfl rfl rfl ⟨rfl, rfl, rfl, rfl, rfl⟩ rfl rfl rfl rfl rfl (by kernel_rfl) Tryz.func3 (by kernel_rfl)
    (of_decide_eq_true (by kernel_rfl)) (by unfold Func.isWrapper; first | (rw [if_pos (by decide +kernel)]; kernel_rfl) | (rw [if_neg (by decide +kernel)]; exact ⟨rfl, rfl⟩))
    (fun os started H enc _ => lifted os started H enc)
end Go.Proofs.YtgdemlebohlolaaGreatDoor.rows

namespace Go.Proofs.YtgdemlebohlolaaGreatDoor
theorem storeRows_holds : Rows.StoreRowsCardSaid :=
  Claim7.holds_tied_plain_at .later [] [.data, .data, .data, .data, .sentinel, .sentinel, .data, .data, .data, .pinned] true (true, "1ab5cd72cbd1a34a30a451c9dbd3a556743dc632e6524751634878398fa4c7ab") true
    rows.over (fun _ h => by cases h) (by kernel_rfl) (fun _ h => by cases h) storeRows_row_tie rfl ⟨rfl, rfl⟩ (by kernel_rfl) rfl
    (fun f fn hf hfn => by
      obtain rfl : f = 3 := Option.some.inj ((show Tryz.prog.funcNamed "modality/modalitylaw12.StoreRows" = some 3 by kernel_rfl).symm.trans hf) |>.symm
      obtain rfl : fn = Tryz.f3 := (Option.some.inj (Tryz.func3.symm.trans hfn)).symm
      exact ⟨by kernel_rfl, fun j t ht => by
        rw [Tryz.params3] at ht
        have hm : t ∈ [23] := by simpa using Array.mem_of_getElem? ht
        have hall : ([23].all fun u => !Tryz.prog.wantsStandIn u) = true := by kernel_rfl
        exact (show Tryz.prog.wantsStandIn t = false by simpa using List.all_eq_true.1 hall t hm)⟩)
    (by kernel_rfl)
#print axioms storeRows_holds
end Go.Proofs.YtgdemlebohlolaaGreatDoor

import Derived.Test.YtdggplhkeekdjaaGreatDoorRows
import Derived.Test.YtdggplhkeekdjaaGreatDoorTie
import Derived.Test.YtdggplhkeekdjaaGreatDoorCards
import Derived.Test.YtdggplhkeekdjaaGreatDoorNz
import Derived.Lib.LaidU8
import Derived.ProofKit
import Derived.LaidSub
import Derived.Lay
import Derived.OpenShut
import Derived.ShutString
import Derived.SizedLaws
import Derived.ChangeOld
import Derived.ChangeMaps5
import Derived.Lib.LaidTab
import Derived.Deep.Strs
import Derived.SevenTiedAt
import Derived.Stop.Joined
import Derived.ChangeSlices
import Derived.SliceStrings
import Derived.ChangeArms
namespace Go.Proofs.YtdggplhkeekdjaaGreatDoor.begins
open Go.ChangeShapes Go.WideShapes Go.ChangeAt Go.WideMaps Go.WideElems Go.RowKit Go.ChangeMaps

theorem own : ownKnob Tryz.prog.godebug = none := by kernel_rfl
theorem laidOut : laidOutB Tryz.prog = true := by kernel_rfl

def laid : List (String × DataW Unit) := Rows.scuBeginsRow.laid

theorem utabs_of {W : World} (h3 : Lib.VarReads Tryz.prog W "unicode/utf8.first" Lib.firstData) (h4 : Lib.VarReads Tryz.prog W "unicode/utf8.acceptRanges" Lib.acceptData) : Lib.Utf8Tabs 0 1 W :=
  utf8Tabs_of_reads (ρ := Ck.decRen) { Ck.decLays197 with } ⟨by kernel_rfl, by kernel_rfl, by kernel_rfl, by kernel_rfl, by kernel_rfl, by kernel_rfl, by kernel_rfl⟩ h3 h4
theorem err_cell {W : World} {n : String} {g : Nat} {d : DataW Unit} (hn : Tryz.prog.globalNamed n = some g) (ht : (Tryz.prog.globals[g]?).map (·.type) = some 40) (h : Lib.VarReads Tryz.prog W n d) : ∃ ev, W.cell? ⟨g, 0, none⟩ = some ev ∧ (ev = .nilIface ∨ ∃ te pe, ev = .iface te pe) := by
  obtain ⟨g', t, cs, fuel, p, hg, hty, hvar, hd⟩ := h
  obtain rfl := Option.some.inj (hn.symm.trans hg)
  obtain rfl := Option.some.inj (ht.symm.trans hty)
  have hc := World.var?_cell hg hvar 0
  cases fuel with
  | zero => simp [DataW.trod] at hd
  | succ fuel =>
    rw [← Array.getElem?_toList] at hc
    generalize cs.toList = l at hd hc
    rcases l with _ | ⟨v, _ | ⟨u, r⟩⟩
    · simp [DataW.trod, Tryz.underlying40] at hd
    · refine ⟨v, hc, ?_⟩
      cases v with
      | nilIface => exact .inl rfl
      | iface a b => exact .inr ⟨a, b, rfl⟩
      | _ => simp [DataW.trod, Tryz.underlying40] at hd
    · simp [DataW.trod, Tryz.underlying40] at hd
theorem gb_of {W : World} (h : laidMetH Tryz.prog laid W) : Ck.Gb W := by
  rw [MakeChecks.laidMetH_plain _ _ _ (by kernel_rfl)] at h
  have m2 : ("unicode/utf8.first", (Rows.laid_unicode_utf8_first : DataW Unit)) ∈ laid := by
    show _ ∈ [_, _, _, _, _, _, _]
    simp
  have m3 : ("unicode/utf8.acceptRanges", (Rows.laid_unicode_utf8_acceptRanges : DataW Unit)) ∈ laid := by
    show _ ∈ [_, _, _, _, _, _, _]
    simp
  have m4 : ("strconv.ErrSyntax", (Rows.laid_strconv_ErrSyntax : DataW Unit)) ∈ laid := by
    show _ ∈ [_, _, _, _, _, _, _]
    simp
  have m5 : ("strconv.ErrRange", (Rows.laid_strconv_ErrRange : DataW Unit)) ∈ laid := by
    show _ ∈ [_, _, _, _, _, _, _]
    simp
  have e2 : (Rows.laid_unicode_utf8_first : DataW Unit) = Lib.firstData := by kernel_rfl
  have e3 : (Rows.laid_unicode_utf8_acceptRanges : DataW Unit) = Lib.acceptData := by kernel_rfl
  rw [e2] at m2
  rw [e3] at m3
  exact ⟨utabs_of (Lib.laidMet.reads h m2) (Lib.laidMet.reads h m3), err_cell (by kernel_rfl) (by kernel_rfl) (Lib.laidMet.reads h m4), err_cell (by kernel_rfl) (by kernel_rfl) (Lib.laidMet.reads h m5)⟩

theorem reach_eq : reachBytes = 140737488351232 := rfl
theorem cells9 : Tryz.prog.cellsOf 9 = 1 := by kernel_rfl
theorem cells48 : Tryz.prog.cellsOf 48 = 1 := by kernel_rfl
theorem cells22 : Tryz.prog.cellsOf 22 = 1 := by kernel_rfl
theorem cells23 : Tryz.prog.cellsOf 23 = 1 := by kernel_rfl
theorem cells24 : Tryz.prog.cellsOf 24 = 1 := by kernel_rfl
theorem cells3 : Tryz.prog.cellsOf 3 = 1 := by kernel_rfl
theorem cells26 : Tryz.prog.cellsOf 26 = 6 := by kernel_rfl
theorem bytes9 : Tryz.prog.bytesOf 9 = 16 := by kernel_rfl
theorem bytes48 : Tryz.prog.bytesOf 48 = 8 := by kernel_rfl
theorem w_all {H : Type} {t : TypeId} : ∀ {l : List (DataW H)} {d : DataW H}, d ∈ l → ∀ n ∈ d.weights Tryz.prog t, n ∈ DataW.weightsAll Tryz.prog t l
  | [], _, h, _, _ => by simp at h
  | x :: l, d, h, n, hn => by
    simp only [DataW.weightsAll, List.mem_append]
    rcases List.mem_cons.1 h with rfl | h
    · exact .inl hn
    · exact .inr (w_all h n hn)
theorem spot_none {W : World} {a : Addr} {v : Value} (h : W.cell? (a.add 0) = some v) : ∃ g o, a = ⟨g, o, none⟩ := by
  obtain ⟨g, o, sp⟩ := a
  have hs : sp = none := by
    have := World.cell?_spot h
    simpa [Addr.add] using this
  exact ⟨g, o, by rw [hs]⟩
set_option maxRecDepth 100000 in
theorem texts_open {H : Type} {enc : TypeId × Value → H} {W : World} {base : Nat} {spare : Nat → Bool} {held : Bool} {fuel : Nat} {c : Value} {x : DataW H × List MemPlace}
    (hf : DataW.trod enc Tryz.prog W base spare held fuel 22 [c] = some x) : ∃ ao n cp T, c = .slice ao n cp ∧ T.length = n ∧ Ck.TxD W ao T ∧ (ao = none → n = 0 ∧ cp = 0) ∧ ∀ N, (∀ m ∈ x.1.weights Tryz.prog 22, m ≤ N) → n * 16 ≤ N ∧ ∀ p ∈ T, p.size ≤ N := by
  rcases open_strings Tryz.underlying22 Tryz.underlying9 cells9 hf with ⟨hcs, _⟩ | ⟨a, len, cap, ss, hcs, _, hl, hm, hz, hx, hcell, hwz⟩
  · obtain rfl : c = .slice none 0 0 := by simpa using hcs
    exact ⟨none, 0, 0, [], rfl, rfl, fun i hi => absurd hi (by simp), fun _ => ⟨rfl, rfl⟩, fun N _ => ⟨by omega, fun p hp => by simp at hp⟩⟩
  · obtain rfl : c = .slice (some a) len cap := by simpa using hcs
    have hzl : len ≤ ss.length := by rw [hz]; split <;> omega
    have hlen : (ss.take len).length = len := by simp; omega
    refine ⟨some a, len, cap, ss.take len, rfl, hlen, fun i hi => ?_, fun e => (by cases e), fun N hw => ?_⟩
    · rw [hlen] at hi
      have hc := hcell i (by omega)
      obtain ⟨g, o, rfl⟩ := spot_none (hcell 0 (by omega))
      rw [Ck.add_eq] at hc
      refine ⟨g, o, rfl, ?_⟩
      rw [hc, List.getElem_take, List.getD_eq_getElem?_getD, List.getElem?_eq_getElem (by omega)]
      rfl
    · subst hx
      unfold DataW.weights at hw
      rw [Tryz.underlying22] at hw
      refine ⟨?_, fun p hp => ?_⟩
      · have h1 := hw _ (List.mem_cons_self ..)
        rw [bytes9] at h1
        have h2 : (strs (H := H) (ss.take len)).length = len := by unfold strs; rw [List.length_map, hlen]
        rw [h2] at h1
        have : len * 16 ≤ (len + (strs (H := H) (ss.drop len)).length) * 16 := Nat.mul_le_mul_right _ (by omega)
        omega
      · have h1 := hw p.data.toList.length (List.mem_cons_of_mem _ (List.mem_append.2 (.inl (w_all (d := .lit (.string p.data.toList)) (List.mem_map.2 ⟨p, hp, rfl⟩) _ (by simp [DataW.weights])))))
        rw [Array.length_toList] at h1
        exact h1
set_option maxRecDepth 100000 in
theorem ints_open {H : Type} {enc : TypeId × Value → H} {W : World} {base : Nat} {spare : Nat → Bool} {held : Bool} {fuel : Nat} {c : Value} {x : DataW H × List MemPlace}
    (hf : DataW.trod enc Tryz.prog W base spare held fuel 23 [c] = some x) : ∃ ao n cp T, c = .slice ao n cp ∧ T.length = n ∧ Ck.IxD W ao T ∧ (ao = none → n = 0 ∧ cp = 0) ∧ ∀ N, (∀ m ∈ x.1.weights Tryz.prog 23, m ≤ N) → n * 8 ≤ N := by
  rcases open_ints Tryz.underlying23 Tryz.underlying48 cells48 hf with ⟨hcs, _⟩ | ⟨a, len, cap, ss, hcs, _, hl, hm, hz, hx, hcell, hwz⟩
  · obtain rfl : c = .slice none 0 0 := by simpa using hcs
    exact ⟨none, 0, 0, [], rfl, rfl, fun i hi => absurd hi (by simp), fun _ => ⟨rfl, rfl⟩, fun N _ => by omega⟩
  · obtain rfl : c = .slice (some a) len cap := by simpa using hcs
    have hzl : len ≤ ss.length := by rw [hz]; split <;> omega
    have hlen : (ss.take len).length = len := by simp; omega
    refine ⟨some a, len, cap, ss.take len, rfl, hlen, fun i hi => ?_, fun e => (by cases e), fun N hw => ?_⟩
    · rw [hlen] at hi
      have hc := hcell i (by omega)
      obtain ⟨g, o, rfl⟩ := spot_none (hcell 0 (by omega))
      rw [Ck.add_eq] at hc
      refine ⟨g, o, rfl, ?_⟩
      rw [hc, List.getElem_take, List.getD_eq_getElem?_getD, List.getElem?_eq_getElem (by omega)]
      rfl
    · subst hx
      unfold DataW.weights at hw
      rw [Tryz.underlying23] at hw
      have h1 := hw _ (List.mem_cons_self ..)
      rw [bytes48] at h1
      have h2 : (lits (H := H) .i64 (ss.take len)).length = len := by unfold lits; rw [List.length_map, hlen]
      rw [h2] at h1
      have : len * 8 ≤ (len + (lits (H := H) .i64 (ss.drop len)).length) * 8 := Nat.mul_le_mul_right _ (by omega)
      omega
set_option maxRecDepth 100000 in
theorem open_config {H : Type} {enc : TypeId × Value → H} {W : World} {b base : Nat} {spare : Nat → Bool} {held : Bool} {v : Value} {d : DataW H} {ps : List MemPlace} (hval : Value.okWide Tryz.prog W .any base 26 v)
    (h : DataW.Trod enc Tryz.prog W b spare held 26 v d ps) : ∃ (s0 s1 : ByteArray) (ao bo : Option Addr) (n cp m dp : Nat) (mo ar : Int) (T : List ByteArray) (l : List Int), v = .agg #[.string s0, .string s1, .slice ao n cp, .slice bo m dp, .int .u32 mo, .int .i64 ar] ∧ T.length = n ∧ l.length = m ∧ Ck.TxD W ao T ∧ Ck.IxD W bo l ∧ (ao = none → n = 0 ∧ cp = 0) ∧ (bo = none → m = 0 ∧ dp = 0) ∧ ∀ N, (∀ m ∈ d.weights Tryz.prog 26, m ≤ N) → s0.size ≤ N ∧ s1.size ≤ N ∧ n * 16 ≤ N ∧ m * 8 ≤ N ∧ ∀ p ∈ T, p.size ≤ N := by
  obtain ⟨cs, rfl, hl⟩ := okWide_struct Tryz.underlying26 hval
  rw [cells26] at hl
  obtain ⟨l⟩ := cs
  match l, hl with
  | [c0, c1, c2, c3, c4, c5], _ =>
    obtain ⟨fuel, hf0⟩ := h
    obtain ⟨xs, n, -, hx, -, hn, hf⟩ := DataW.trod_struct Tryz.underlying26 hf0
    simp only [Value.cells] at hf
    obtain ⟨s0, e0, x0, -⟩ := DataW.trod_string Tryz.underlying9 ((hf 0 _ rfl).trans (List.getElem?_eq_getElem (by rw [hn]; decide)))
    simp [cells9] at e0
    subst e0
    obtain ⟨s1, e1, x1, -⟩ := DataW.trod_string Tryz.underlying9 ((hf 1 _ rfl).trans (List.getElem?_eq_getElem (by rw [hn]; decide)))
    simp [cells9] at e1
    subst e1
    have f2 := (hf 2 _ rfl).trans (List.getElem?_eq_getElem (by rw [hn]; decide))
    simp [cells22] at f2
    obtain ⟨ao, k, cp, T, rfl, t1, t2, t3, t4⟩ := texts_open f2
    have f3 := (hf 3 _ rfl).trans (List.getElem?_eq_getElem (by rw [hn]; decide))
    simp [cells23] at f3
    obtain ⟨bo, m, dp, l, rfl, l1, l2, l3, l4⟩ := ints_open f3
    obtain ⟨mo, e4, -, -⟩ := DataW.trod_int Tryz.underlying24 ((hf 4 _ rfl).trans (List.getElem?_eq_getElem (by rw [hn]; decide)))
    simp [cells24] at e4
    subst e4
    obtain ⟨ar, e5, -, -⟩ := DataW.trod_int Tryz.underlying3 ((hf 5 _ rfl).trans (List.getElem?_eq_getElem (by rw [hn]; decide)))
    simp [cells3] at e5
    subst e5
    refine ⟨s0, s1, ao, bo, k, cp, m, dp, mo, ar, T, l, rfl, t1, l1, t2, l2, t3, l3, fun N hw => ?_⟩
    have hd : d = .agg (xs.map (·.1)) := congrArg Prod.fst hx
    rw [hd] at hw
    unfold DataW.weights at hw
    rw [Tryz.underlying26] at hw
    have wk : ∀ (i : Nat) (hi : i < xs.length) (t : TypeId), ([9, 9, 22, 23, 24, 3] : List TypeId)[i]? = some t → ∀ q ∈ (xs[i]).1.weights Tryz.prog t, q ≤ N := fun i hi t ht q hq => hw q (DataW.weights_mem_each (j := i) (t := t) (d := (xs[i]).1) ht (by rw [List.getElem?_map, List.getElem?_eq_getElem hi]; rfl) q hq)
    have w0 := wk 0 (by rw [hn]; decide) 9 rfl
    have w1 := wk 1 (by rw [hn]; decide) 9 rfl
    rw [x0] at w0
    rw [x1] at w1
    have a0 := w0 s0.data.toList.length (by simp [DataW.weights])
    have a1 := w1 s1.data.toList.length (by simp [DataW.weights])
    rw [Array.length_toList] at a0 a1
    have a2 := t4 N (wk 2 (by rw [hn]; decide) 22 rfl)
    have a3 := l4 N (wk 3 (by rw [hn]; decide) 23 rfl)
    exact ⟨a0, a1, a2.1, a3, a2.2⟩

set_option maxRecDepth 100000 in
theorem lifted (os : Os) (started : os.Started) (H : Type) (enc : TypeId × Value → H) :
    ReturnsInHanded {} Tryz.checked os 3 .any (fun w args => (Rows.scuBeginsSpec.pre enc Tryz.prog Tryz.f3 [] false w args ∧ laidMetH Tryz.prog laid w) ∧ sizedMet enc Tryz.prog Tryz.f3 (OpenSpec.ofChange Rows.scuBeginsSpec) false w args)
      (Rows.scuBeginsSpec.post enc Tryz.prog Tryz.f3 false true false false) := by
  refine returnsInHanded_of_change_and (C := Tryz.checked) (X := fun w _ => laidMetH Tryz.prog laid w) (fun _ _ _ hh h => h.of_heap hh) own started (by kernel_rfl) Tryz.func3
    (ChangeSpec.witness_shaped (enc := enc) (C := Tryz.checked) (os := os) (X := fun w _ => laidMetH Tryz.prog laid w) false (World.laidAll Tryz.prog os laid) #[.agg #[.string ⟨#[]⟩, .string ⟨#[]⟩, .slice none 0 0, .slice none 0 0, .int .u32 0, .int .i64 0]] 8 (World.laidAll_os _ _ _)
      (World.shaped_of_ZipB (by kernel_rfl) (by kernel_rfl)) (by kernel_rfl) (by kernel_rfl) (by kernel_rfl)
      (by rw [MakeChecks.laidMetH_plain _ _ _ (by kernel_rfl)]; exact laidMet_laidAll _ (by kernel_rfl) (by kernel_rfl))) ?_
  intro W base args ds gs before hval0 hW _ hsz0 hL _
  have hsz : (DataW.weightsEach Tryz.prog (Tryz.f3.params.toList ++ Rows.scuBeginsSpec.plain.varTypes Tryz.prog) (ds ++ gs)).all (· ≤ reachBytes) = true := hsz0
  have hval : ∀ (j : Nat) t v, Tryz.f3.params[j]? = some t → args[j]? = some v → Value.okWide Tryz.prog W .any base t v := hval0
  have hW' := hW
  obtain ⟨p, q, hA0, hV, rfl, hfz, hnd⟩ := hW
  have hA : DataW.TrodAll enc Tryz.prog W 0 (fun _ => true) true Tryz.f3.params.toList args.toList ds p := hA0
  rw [Tryz.params3] at hA hval hsz
  obtain ⟨v0, vs0, d0, ds0, p0, q0, hargs, rfl, rfl, h0, r0⟩ := trodAll_cons hA
  obtain ⟨rfl, rfl, rfl⟩ := trodAll_nil r0
  obtain rfl : args = #[v0] := by cases args; simp_all
  obtain ⟨rfl, rfl⟩ := trodVars_none hV
  have k0 := h0
  have lt0 : ∀ x ∈ p0, x.block < W.heap.size := by obtain ⟨m, hm⟩ := k0; exact DataW.trod_lt m _ _ _ hm
  obtain ⟨s0, s1, ao, bo, n, cp, m, dp, mo, ar, T, l, rfl, t1, l1, t2, l2, t3, l3, hsizes⟩ := open_config (hval 0 26 v0 rfl rfl) h0
  obtain ⟨a0, a1, a2, a3, a4⟩ := hsizes 140737488351232 (fun m hm => by
    have := List.all_eq_true.1 hsz m (DataW.weights_mem_each (j := 0) (t := 26) (d := d0) rfl rfl m hm)
    rw [reach_eq] at this
    simpa using this)
  have hT := gb_of hL
  clear hA0 hval0 hsz0 hsz hsizes hval
  simp only [List.append_nil] at hW'
  refine (Ck.begins_any W s0 s1 ao bo n cp m dp mo ar T l t1 l1 t2 l2 t3 l3 a2 a3 a0 a1 a4 hT).mono fun e W' ⟨he, bel⟩ => ?_
  subst he
  exact ⟨_, rfl, _, _, _, [], _, [], hW', trodAll_mk1 (shut_bool Tryz.underlying4 _), (trodAll_cons_mk (Below.trod laidOut (by kernel_rfl) (of_decide_eq_true (by kernel_rfl)) k0 bel lt0) trodAll_mk0), rfl, bel.frame _, fun h => by cases h⟩
theorem over : Rows.ScuBeginsSaid :=
  OpenClaim.holds_of_wide 3 Tryz.f3 rfl rfl rfl rfl rfl rfl rfl ⟨rfl, rfl, rfl, rfl, rfl⟩ rfl rfl rfl rfl rfl (by kernel_rfl) Tryz.func3 (by kernel_rfl)
    (of_decide_eq_true (by kernel_rfl)) (by unfold Func.isWrapper; first | (rw [if_pos (by decide +kernel)]; kernel_rfl) | (rw [if_neg (by decide +kernel)]; exact ⟨rfl, rfl⟩))
    (fun os started H enc _ => lifted os started H enc)
end Go.Proofs.YtdggplhkeekdjaaGreatDoor.begins

namespace Go.Proofs.YtdggplhkeekdjaaGreatDoor
theorem scuBegins_holds : Rows.ScuBeginsCardSaid :=
  Claim7.holds_tied_plain_at .later [] [.data, .data, .data, .data, .sentinel, .sentinel, .pinned] true (true, "8bc92e29f07d2c2de4dd146131924fb1d2b7045979c9622ede29589c6fcbc31b") true
    begins.over (fun _ h => by cases h) (by kernel_rfl) (fun _ h => by cases h) scuBegins_row_tie rfl ⟨rfl, rfl⟩ (by kernel_rfl) rfl
    (fun f fn hf hfn => by
      obtain rfl : f = 3 := Option.some.inj ((show Tryz.prog.funcNamed "modality/modalitylaw17.ScuBegins" = some 3 by kernel_rfl).symm.trans hf) |>.symm
      obtain rfl : fn = Tryz.f3 := (Option.some.inj (Tryz.func3.symm.trans hfn)).symm
      exact ⟨by kernel_rfl, fun j t ht => by
        rw [Tryz.params3] at ht
        have hm : t ∈ [26] := by simpa using Array.mem_of_getElem? ht
        have hall : ([26].all fun u => !Tryz.prog.wantsStandIn u) = true := by kernel_rfl
        exact (show Tryz.prog.wantsStandIn t = false by simpa using List.all_eq_true.1 hall t hm)⟩)
    (by kernel_rfl)
#print axioms scuBegins_holds
end Go.Proofs.YtdggplhkeekdjaaGreatDoor

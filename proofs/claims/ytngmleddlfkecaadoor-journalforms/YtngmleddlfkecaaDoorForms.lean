import Derived.Test.YtngmleddlfkecaaDoorRows
import Derived.Test.YtngmleddlfkecaaDoorTie
import Derived.Test.YtngmleddlfkecaaDoorCards
import Derived.Test.YtngmleddlfkecaaDoorFl
import Derived.ProofKit
import Derived.LaidMore
import Derived.OpenShut
import Derived.ShutString
import Derived.ChangeOld
import Derived.Lib.LaidTab
import Derived.SevenTiedAt
import Derived.SizedLaws
import Derived.Stop.Joined
namespace Go.Proofs.YtngmleddlfkecaaDoor.forms
open Go.ChangeShapes Go.WideShapes Go.ChangeAt Go.WideMaps Go.WideElems Go.RowKit

theorem own : ownKnob Tryd.prog.godebug = none := by kernel_rfl
theorem laidOut : laidOutB Tryd.prog = true := by kernel_rfl
theorem cells5 : Tryd.prog.cellsOf 5 = 1 := by kernel_rfl
theorem cells22 : Tryd.prog.cellsOf 22 = 1 := by kernel_rfl
theorem bytes5 : Tryd.prog.bytesOf 5 = 1 := by kernel_rfl
theorem bytes22 : Tryd.prog.bytesOf 22 = 24 := by kernel_rfl
theorem gN : Tryd.prog.globalNamed "modality/journal.nibbleSums" = some 0 := by kernel_rfl
theorem tN : (Tryd.prog.globals[0]?).map (·.type) = some 57 := by kernel_rfl
theorem cells57 : Tryd.prog.cellsOf 57 = 16 := by kernel_rfl
theorem cells23 : Tryd.prog.cellsOf 23 = 1 := by kernel_rfl
theorem reach_eq : reachBytes = 140737488351232 := rfl

def laid : List (String × DataW Unit) := [("modality/journal.nibbleSums", Rows.laid_modality_journal_nibbleSums)]

theorem door_met (os : Os) (args : Array Value) : laidMetH Tryd.prog laid ((World.doorLaid Tryd.prog 400 os).forCall (fun _ _ => 0) ⟨#[], args, []⟩).memory :=
  laidMetH_of_parts3 (fuel := 8) (laidMet_of_run' 8 (by kernel_rfl) (by kernel_rfl)) (by kernel_rfl) (by kernel_rfl)

theorem tab_of_laid {W : World} (h : laidMetH Tryd.prog laid W) : Tab W := by
  rw [MakeChecks.laidMetH_plain _ _ _ (by kernel_rfl)] at h
  have hT : Lib.TabIs Tryd.prog W "modality/journal.nibbleSums" .u32 (tab.map Int.ofNat) := Lib.tabIs_of_head (rest := []) gN tN Tryd.underlying57 Tryd.underlying23 cells23 cells57 h
  intro i hi
  have := hT.cell gN i (by simpa [tab] using hi)
  rw [this]
  have e : (tab.map Int.ofNat).getD i 0 = ((tab.getD i 0 : Nat) : Int) := by
    rw [List.getD_eq_getElem?_getD, List.getD_eq_getElem?_getD, List.getElem?_map]
    cases tab[i]? <;> rfl
  rw [e]

/-- Bytes, opened: what they are, and that they are no more than the reading holds. -/
theorem bytes_open {H : Type} {enc : TypeId × Value → H} {W : World} {base : Nat} {spare : Nat → Bool} {held : Bool} {fuel : Nat} {c : Value} {x : DataW H × List MemPlace}
    (hf : DataW.trod enc Tryd.prog W base spare held fuel 22 [c] = some x) : ∃ bs : List Nat, V W c bs ∧ (bs.length = 0 ∨ ∃ e s, x.1 = .slice e s ∧ bs.length ≤ e.length) := by
  have hsl := DataW.trod_slice Tryd.underlying22 hf
  rcases open_ints Tryd.underlying22 Tryd.underlying5 cells5 hf with ⟨hcs, _⟩ | ⟨a, len, cap, zs, hcs, _, hl, hm, hz, _, hcell, hwz⟩
  · simp only [List.cons.injEq, and_true] at hcs
    subst hcs
    exact ⟨[], .inl ⟨_, _, rfl, rfl⟩, .inl rfl⟩
  · simp only [List.cons.injEq, and_true] at hcs
    subst hcs
    by_cases h0 : len = 0
    · subst h0
      exact ⟨[], .inl ⟨_, _, rfl, rfl⟩, .inl rfl⟩
    · have hzl : len ≤ zs.length := by rw [hz]; split <;> omega
      obtain ⟨b, off, sp⟩ := a
      have hs : sp = none := by
        have := World.cell?_spot (hcell 0 (by omega))
        simpa [Addr.add] using this
      subst hs
      have hwf : ∀ n ∈ zs, 0 ≤ n ∧ n < 256 := by
        intro n hn
        have := hwz n hn
        simp only [Lit.wf, Bool.and_eq_true, decide_eq_true_eq, show IntKind.u8.min = 0 from rfl, show IntKind.u8.max = 255 from rfl] at this
        omega
      have hlen : ((zs.take len).map Int.toNat).length = len := by simp; omega
      refine ⟨(zs.take len).map Int.toNat, ?_, .inr ?_⟩
      · refine V.mk ⟨?_, ?_⟩ hlen hl
        · intro k hk
          rw [hlen] at hk
          have hk2 : k < zs.length := by omega
          have hc := hcell k hk2
          have hadd : (⟨b, off, none⟩ : Addr).add k = ⟨b, off + k, none⟩ := by
            unfold Addr.add
            by_cases hz : k = 0
            · rw [if_pos hz, hz]; rfl
            · rw [if_neg hz]
          rw [hadd] at hc
          rw [hc]
          have hp := hwf zs[k] (List.getElem_mem hk2)
          simp [List.getD_eq_getElem?_getD, hk, List.getElem?_eq_getElem hk2]
          omega
        · intro y hy
          rw [List.mem_map] at hy
          obtain ⟨z, hz1, rfl⟩ := hy
          have := hwf z (List.mem_of_mem_take hz1)
          omega
      · rcases hsl with ⟨hcs, _⟩ | ⟨a', len', cap', elems, rest, n, _, hcs, hx, _, _, _, hel, _⟩
        · simp at hcs
        · simp only [List.cons.injEq, and_true, Value.slice.injEq] at hcs
          obtain ⟨_, rfl, _⟩ := hcs
          refine ⟨elems.map (·.1), rest.map (·.1), by rw [hx], ?_⟩
          rw [hlen, List.length_map, hel]
          exact Nat.le_refl _

/-- The weights of a list's rows are among the list's. -/
theorem row_weights {H : Type} (l : List (DataW H)) : ∀ d ∈ l, d.weights Tryd.prog 22 ⊆ DataW.weightsAll Tryd.prog 22 l := by
  induction l with
  | nil => intro d hd; cases hd
  | cons x l ih =>
    intro d hd n hn
    rw [DataW.weightsAll, List.mem_append]
    cases hd with
    | head => exact .inl hn
    | tail _ h => exact .inr (ih d h hn)

/-- A row of the fourth argument is no longer than what can be reached. -/
theorem row_small {H : Type} {ds : List (DataW H)} {es sp e s : List (DataW H)} (h : (DataW.weightsEach Tryd.prog [29, 23, 22, 31] ds).all (· ≤ reachBytes) = true) (hd : ds[3]? = some (.slice es sp)) (hm : DataW.slice e s ∈ es) : e.length ≤ 140737488351232 := by
  have hw : (e.length + s.length) * Tryd.prog.bytesOf 5 ∈ (DataW.slice es sp).weights Tryd.prog 31 := by
    have h1 : (e.length + s.length) * Tryd.prog.bytesOf 5 ∈ (DataW.slice e s).weights Tryd.prog 22 := by rw [DataW.weights, Tryd.underlying22]; exact List.mem_cons_self
    have h2 := row_weights es _ hm h1
    rw [DataW.weights, Tryd.underlying31]
    exact List.mem_cons_of_mem _ (List.mem_append_left _ h2)
  have := List.all_eq_true.1 h _ (DataW.weights_mem_each (j := 3) (t := 31) rfl hd _ hw)
  rw [bytes5, decide_eq_true_eq, reach_eq] at this
  omega

/-- One cell, read. -/
theorem one_cell {W : World} {base : Nat} {p : Addr} {cs : List Value} (h : W.cells? base p 1 = some cs) : ∃ c, cs = [c] ∧ W.cell? p = some c := by
  have hp : p.add 0 = p := by simp [Addr.add]
  rw [World.cells?] at h
  split at h
  · rw [show List.range 1 = [0] from rfl, List.mapM_cons, List.mapM_nil, hp] at h
    match hc : W.cell? p, h with
    | some c, h => exact ⟨c, by simpa using h.symm, rfl⟩
    | none, h => simp at h
  · exact absurd h (by simp)

theorem pick {Q : Nat → List Nat → Prop} : ∀ (n : Nat), (∀ i, i < n → ∃ b, Q i b) → ∃ l : List (List Nat), l.length = n ∧ ∀ i, i < n → Q i (l.getD i [])
  | 0, _ => ⟨[], rfl, fun i hi => by omega⟩
  | n + 1, h => by
    obtain ⟨l, hl, hq⟩ := pick n (fun i hi => h i (by omega))
    obtain ⟨b, hb⟩ := h n (by omega)
    refine ⟨l ++ [b], by simp [hl], fun i hi => ?_⟩
    by_cases hin : i < n
    · have e : (l ++ [b]).getD i [] = l.getD i [] := by simp [List.getD_eq_getElem?_getD, List.getElem?_append_left (show i < l.length by omega)]
      rw [e]; exact hq i hin
    · obtain rfl : i = n := by omega
      have e : (l ++ [b]).getD i [] = b := by rw [← hl]; simp [List.getD_eq_getElem?_getD]
      rw [e]; exact hb

/-- A list of byte slices, opened. -/
theorem list_open {H : Type} {enc : TypeId × Value → H} {W : World} {base : Nat} {spare : Nat → Bool} {held : Bool} {fuel : Nat} {c : Value} {d : DataW H} {ps : List MemPlace}
    (hf : DataW.trod enc Tryd.prog W base spare held fuel 31 [c] = some (d, ps)) : ∃ bss : List (List Nat), VS W c bss ∧ (bss = [] ∨ ∃ es sp, d = .slice es sp ∧ bss.length = es.length ∧ ∀ i, i < bss.length → (bss.getD i []).length = 0 ∨ ∃ e s, DataW.slice e s ∈ es ∧ (bss.getD i []).length ≤ e.length) := by
  rcases DataW.trod_slice Tryd.underlying31 hf with ⟨hcs, _⟩ | ⟨a, len, cap, elems, rest, n, _, hcs, hx, _, hlc, hcm, hlen, hel, _⟩
  · simp only [List.cons.injEq, and_true] at hcs
    subst hcs
    exact ⟨[], ⟨none, 0, rfl, fun h => absurd h (by simp)⟩, .inl rfl⟩
  · simp only [List.cons.injEq, and_true] at hcs
    subst hcs
    simp only [Prod.mk.injEq] at hx
    obtain ⟨rfl, _⟩ := hx
    have hstep : ∀ i, i < len → ∃ x bs y, W.cell? (a.add i) = some x ∧ V W x bs ∧ elems[i]? = some y ∧ (bs.length = 0 ∨ ∃ e s, y.1 = .slice e s ∧ bs.length ≤ e.length) := by
      intro i hi
      have hE := hel i hi
      rw [cells22, Nat.mul_one] at hE
      have hi2 : i < elems.length := by omega
      rw [List.getElem?_eq_getElem hi2] at hE
      simp only [Option.bind_eq_some_iff] at hE
      obtain ⟨c1, hc1, hy1⟩ := hE
      obtain ⟨c, rfl, hc⟩ := one_cell hc1
      obtain ⟨bs, hV, hb⟩ := bytes_open hy1
      exact ⟨c, bs, _, hc, hV, List.getElem?_eq_getElem hi2, hb⟩
    obtain ⟨bss, hbl, hq⟩ := pick (Q := fun i bs => ∃ x y, W.cell? (a.add i) = some x ∧ V W x bs ∧ elems[i]? = some y ∧ (bs.length = 0 ∨ ∃ e s, y.1 = .slice e s ∧ bs.length ≤ e.length)) len (fun i hi => by obtain ⟨x, bs, y, h1⟩ := hstep i hi; exact ⟨bs, x, y, h1⟩)
    refine ⟨bss, ⟨some a, cap, by rw [hbl], fun hp => ?_⟩, .inr ⟨elems.map (·.1), rest.map (·.1), rfl, by rw [hbl, List.length_map, hlen], fun i hi => ?_⟩⟩
    · obtain ⟨x0, _, hc0, _⟩ := hq 0 (by omega)
      obtain ⟨b, off, sp⟩ := a
      have hs : sp = none := by
        have := World.cell?_spot hc0
        simpa [Addr.add] using this
      subst hs
      refine ⟨b, off, rfl, fun i hi => ?_⟩
      obtain ⟨x, _, hc, hV, _⟩ := hq i (by omega)
      have hadd : (⟨b, off, none⟩ : Addr).add i = ⟨b, off + i, none⟩ := by
        unfold Addr.add
        by_cases hz : i = 0
        · rw [if_pos hz, hz]; rfl
        · rw [if_neg hz]
      rw [hadd] at hc
      exact ⟨x, hc, hV⟩
    · obtain ⟨x, y, _, _, hy, hb⟩ := hq i (by omega)
      rcases hb with hb | ⟨e, s, he, hb⟩
      · exact .inl hb
      · refine .inr ⟨e, s, ?_, hb⟩
        rw [← he]
        exact List.mem_map.2 ⟨y, List.mem_of_getElem? hy, rfl⟩

theorem u64_wf (z : Int) (h : (Lit.int .u64 z).wf = true) : ∃ g : Nat, z = (g : Int) ∧ g < 18446744073709551616 := by
  simp only [Lit.wf, Bool.and_eq_true, decide_eq_true_eq, show IntKind.u64.min = 0 from rfl, show IntKind.u64.max = 18446744073709551615 from rfl] at h
  exact ⟨z.toNat, by omega, by omega⟩
theorem u32_wf (z : Int) (h : (Lit.int .u32 z).wf = true) : ∃ g : Nat, z = (g : Int) ∧ g < 4294967296 := by
  simp only [Lit.wf, Bool.and_eq_true, decide_eq_true_eq, show IntKind.u32.min = 0 from rfl, show IntKind.u32.max = 4294967295 from rfl] at h
  exact ⟨z.toNat, by omega, by omega⟩

set_option maxRecDepth 100000 in
theorem lifted (os : Os) (started : os.Started) (H : Type) (enc : TypeId × Value → H) :
    ReturnsInHanded {} Tryd.checked os 5 .any (fun w args => (Rows.journalFormsSpec.pre enc Tryd.prog Tryd.f5 [] false w args ∧ laidMetH Tryd.prog laid w) ∧ sizedMet enc Tryd.prog Tryd.f5 (OpenSpec.ofChange Rows.journalFormsSpec) false w args)
      (Rows.journalFormsSpec.post enc Tryd.prog Tryd.f5 false true false false) := by
  refine returnsInHanded_of_change_and (C := Tryd.checked) (X := fun w _ => laidMetH Tryd.prog laid w) (fun _ _ _ hh h => h.of_heap hh) own started (by kernel_rfl) Tryd.func5
    (ChangeSpec.witness_shaped (enc := enc) (C := Tryd.checked) (os := os) (X := fun w _ => laidMetH Tryd.prog laid w) false (World.doorLaid Tryd.prog 400 os) #[.int .u64 0, .int .u32 0, .slice none 0 0, .slice none 0 0] 8 rfl (World.shaped_of_RefB (by kernel_rfl) (by kernel_rfl)) (by kernel_rfl) (by kernel_rfl) (by kernel_rfl) (door_met os _)) ?_
  intro W base args ds gs before hval0 hW _ hsz0 hL _
  have hsz : (DataW.weightsEach Tryd.prog (Tryd.f5.params.toList ++ Rows.journalFormsSpec.plain.varTypes Tryd.prog) (ds ++ gs)).all (· ≤ reachBytes) = true := hsz0
  have hval : ∀ (j : Nat) t v, Tryd.f5.params[j]? = some t → args[j]? = some v → Value.okWide Tryd.prog W .any base t v := hval0
  have hW' := hW
  obtain ⟨p, q, hA0, hV, rfl, hfz, hnd⟩ := hW
  have hA : DataW.TrodAll enc Tryd.prog W 0 (fun _ => true) true Tryd.f5.params.toList args.toList ds p := hA0
  rw [Tryd.params5] at hA hval hsz
  obtain ⟨v0, vs0, d0, ds0, p0, q0, hargs, rfl, rfl, h0, r0⟩ := trodAll_cons hA
  obtain ⟨v1, vs1, d1, ds1, p1, q1, rfl, rfl, rfl, h1, r1⟩ := trodAll_cons r0
  obtain ⟨v2, vs2, d2, ds2, p2, q2, rfl, rfl, rfl, h2, r2⟩ := trodAll_cons r1
  obtain ⟨v3, vs3, d3, ds3, p3, q3, rfl, rfl, rfl, h3, r3⟩ := trodAll_cons r2
  obtain ⟨rfl, rfl, rfl⟩ := trodAll_nil r3
  obtain rfl : args = #[v0, v1, v2, v3] := by cases args; simp_all
  obtain ⟨rfl, rfl⟩ := trodVars_none hV
  have k0 := h0
  have k1 := h1
  obtain ⟨z0, rfl, rfl, rfl, hz0⟩ := open_int Tryd.underlying29 (hval 0 29 v0 rfl rfl) h0
  obtain ⟨z1, rfl, rfl, rfl, hz1⟩ := open_int Tryd.underlying23 (hval 1 23 v1 rfl rfl) h1
  obtain ⟨gen, rfl, hgen⟩ := u64_wf z0 hz0
  obtain ⟨n, rfl, hn⟩ := u32_wf z1 hz1
  obtain ⟨a2, len2, cap2, rfl⟩ := okWide_slice Tryd.underlying22 (hval 2 22 v2 rfl rfl)
  obtain ⟨a3, len3, cap3, rfl⟩ := okWide_slice Tryd.underlying31 (hval 3 31 v3 rfl rfl)
  have k2 := h2
  have k3 := h3
  have lt2 : ∀ x ∈ p2, x.block < W.heap.size := by obtain ⟨m, hm⟩ := k2; exact DataW.trod_lt m _ _ _ hm
  have lt3 : ∀ x ∈ p3, x.block < W.heap.size := by obtain ⟨m, hm⟩ := k3; exact DataW.trod_lt m _ _ _ hm
  have hT := tab_of_laid hL
  obtain ⟨body, hVb⟩ : ∃ bs : List Nat, V W (.slice a2 len2 cap2) bs := by
    obtain ⟨fuel, hf⟩ := h2
    obtain ⟨bs, h, _⟩ := bytes_open (by simpa [Value.cells] using hf)
    exact ⟨bs, h⟩
  obtain ⟨bss, hVS, hbs⟩ : ∃ bss : List (List Nat), VS W (.slice a3 len3 cap3) bss ∧ (bss = [] ∨ ∃ es sp, d3 = .slice es sp ∧ bss.length = es.length ∧ ∀ i, i < bss.length → (bss.getD i []).length = 0 ∨ ∃ e s, DataW.slice e s ∈ es ∧ (bss.getD i []).length ≤ e.length) := by
    obtain ⟨fuel, hf⟩ := h3
    exact list_open (by simpa [Value.cells] using hf)
  have hbound : bss.length ≤ 140737488351232 ∧ ∀ b ∈ bss, b.length ≤ 140737488351232 := by
    rcases hbs with rfl | ⟨es, sp, rfl, hl, hi⟩
    · exact ⟨by simp, by simp⟩
    · refine ⟨?_, ?_⟩
      · have := sized_slice hsz (j := 3) (t := 31) (e := 22) rfl rfl Tryd.underlying31
        rw [bytes22, reach_eq] at this
        omega
      · intro b hb
        obtain ⟨i, hil, rfl⟩ := List.getElem_of_mem hb
        have h := hi i hil
        rw [List.getD_eq_getElem?_getD, List.getElem?_eq_getElem hil, Option.getD_some] at h
        rcases h with h | ⟨e, s, hm, hle⟩
        · omega
        · have := row_small (es := es) (sp := sp) hsz rfl hm
          omega
  clear hA0 hval0 hsz0 hsz
  refine (forms_any hVb hVS hT hbound.2 hbound.1 gen n hgen hn).mono fun e W' ⟨he, bel⟩ => ?_
  subst he
  exact ⟨_, rfl, _, _, _, [], _, [], hW', trodAll_mk1 (shut_bool Tryd.underlying4 _), (trodAll_cons_mk (Below.trod laidOut (by kernel_rfl) (of_decide_eq_true (by kernel_rfl)) k0 bel (fun x hx => by simp at hx)) (trodAll_cons_mk (Below.trod laidOut (by kernel_rfl) (of_decide_eq_true (by kernel_rfl)) k1 bel (fun x hx => by simp at hx)) (trodAll_cons_mk (Below.trod laidOut (by kernel_rfl) (of_decide_eq_true (by kernel_rfl)) k2 bel lt2) (trodAll_cons_mk (Below.trod laidOut (by kernel_rfl) (of_decide_eq_true (by kernel_rfl)) k3 bel lt3) trodAll_mk0)))), rfl, bel.frame _, fun h => by cases h⟩

theorem over : Rows.JournalFormsSaid :=
  OpenClaim.holds_of_wide 5 Tryd.f5 rfl rfl rfl rfl rfl rfl rfl ⟨rfl, rfl, rfl, rfl, rfl⟩ rfl rfl rfl rfl rfl (by kernel_rfl) Tryd.func5 (by kernel_rfl)
    (of_decide_eq_true (by kernel_rfl)) (by unfold Func.isWrapper; first | (rw [if_pos (by decide +kernel)]; kernel_rfl) | (rw [if_neg (by decide +kernel)]; exact ⟨rfl, rfl⟩))
    (fun os started H enc _ => lifted os started H enc)
end Go.Proofs.YtngmleddlfkecaaDoor.forms

namespace Go.Proofs.YtngmleddlfkecaaDoor
theorem journalForms_holds : Rows.JournalFormsCardSaid :=
  Claim7.holds_tied_plain_at .later [] [.data] true (true, "12e513800c9fed64ab809356c7d39ffe8b134fcb26ff4fdf9106011507302467") true
    forms.over (fun _ h => by cases h) (by kernel_rfl) (fun _ h => by cases h) journalForms_row_tie rfl ⟨rfl, rfl⟩ (by kernel_rfl) rfl
    (fun f fn hf hfn => by
      obtain rfl : f = 5 := Option.some.inj ((show Tryd.prog.funcNamed "modality/modalitylaw2.JournalForms" = some 5 by kernel_rfl).symm.trans hf) |>.symm
      obtain rfl : fn = Tryd.f5 := (Option.some.inj (Tryd.func5.symm.trans hfn)).symm
      exact ⟨by kernel_rfl, fun j t ht => by
        rw [Tryd.params5] at ht
        have hm : t ∈ [29, 23, 22, 31] := by simpa using Array.mem_of_getElem? ht
        have hall : ([29, 23, 22, 31].all fun u => !Tryd.prog.wantsStandIn u) = true := by kernel_rfl
        exact (show Tryd.prog.wantsStandIn t = false by simpa using List.all_eq_true.1 hall t hm)⟩)
    (by kernel_rfl)
#print axioms journalForms_holds
end Go.Proofs.YtngmleddlfkecaaDoor

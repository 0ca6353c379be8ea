import Derived.Test.YtghaeolehjgmnaaGreatDoorSc
import Derived.Lib.LaidU8
import Derived.OpenShut
import Derived.SliceStrings
import Derived.SizedLaws
/-
  DERIVED. From what the row lists, and from what came in, to what the walks ask.
-/
namespace Go.Proofs.YtghaeolehjgmnaaGreatDoor
open Go Go.Proofs Go.RowKit Go.ChangeShapes Go.WideShapes

theorem cells9 : Tryz.prog.cellsOf 9 = 1 := by kernel_rfl
theorem cells86 : Tryz.prog.cellsOf 86 = 3 := by kernel_rfl
theorem gSp : Tryz.prog.globalNamed "modality/charset.spellings" = some 1 := by kernel_rfl
theorem tSp : (Tryz.prog.globals[1]?).map (·.type) = some 87 := by kernel_rfl

theorem three_of {α : Type} : ∀ {l : List α}, l.length = 3 → ∃ a b c, l = [a, b, c]
  | [a, b, c], _ => ⟨a, b, c, rfl⟩
  | [], h => by simp at h
  | [_], h => by simp at h
  | [_, _], h => by simp at h
  | _ :: _ :: _ :: _ :: _, h => by simp at h

theorem row_strings {w : World} {fuel : Nat} {cs : List Value} {a b c : List UInt8} {p : List MemPlace}
    (h : DataW.trod (fun _ => ()) Tryz.prog w 0 (fun _ => true) false fuel 86 cs = some (.agg [.lit (.string a), .lit (.string b), .lit (.string c)], p)) :
    cs = [.string ⟨a.toArray⟩, .string ⟨b.toArray⟩, .string ⟨c.toArray⟩] := by
  obtain ⟨xs, n, rfl, hx, hl, hxl, hall⟩ := DataW.trod_struct Tryz.underlying86 h
  have hxs : xs.map (·.1) = [.lit (.string a), .lit (.string b), .lit (.string c)] := by
    have := congrArg Prod.fst hx
    simpa using this.symm
  obtain ⟨x0, x1, x2, rfl⟩ : ∃ x0 x1 x2, xs = [x0, x1, x2] := by
    match xs, hxl with
    | [x0, x1, x2], _ => exact ⟨x0, x1, x2, rfl⟩
  simp only [List.map_cons, List.map_nil, List.cons.injEq, and_true] at hxs
  obtain ⟨e0, e1, e2⟩ := hxs
  have one : ∀ (i : Nat) (f : Field) (y : DataW Unit × List MemPlace) (s : List UInt8), DataW.trod (fun _ => ()) Tryz.prog w 0 (fun _ => true) false n 9 ((cs.drop i).take (Tryz.prog.cellsOf 9)) = some y → y.1 = .lit (.string s) → cs[i]? = some (.string ⟨s.toArray⟩) := by
    intro i f y s hy he
    obtain ⟨t, ht, rfl, _⟩ := DataW.trod_string Tryz.underlying9 hy
    simp only [DataW.lit.injEq, Lit.string.injEq] at he
    subst he
    have := congrArg (·[0]?) ht
    rw [cells9] at this
    simpa [List.getElem?_take, List.getElem?_drop] using this
  have h0 := hall 0 _ rfl
  have h1 := hall 1 _ rfl
  have h2 := hall 2 _ rfl
  have c0 := one 0 default x0 a h0 e0
  have c1 := one 1 default x1 b h1 e1
  have c2 := one 2 default x2 c h2 e2
  rw [cells86] at hl
  clear hall one h0 h1 h2 h
  obtain ⟨v0, v1, v2, rfl⟩ := three_of hl
  simp at c0 c1 c2
  rw [c0, c1, c2]

def spD : DataW Unit := .agg ((List.range 7).map fun i => .agg [.lit (.string (spL.getD (3 * i) [])), .lit (.string (spL.getD (3 * i + 1) [])), .lit (.string (spL.getD (3 * i + 2) []))])

theorem spell_of {W : World} (h : Lib.VarReads Tryz.prog W "modality/charset.spellings" spD) : Spell W := by
  obtain ⟨g, t, cs, fuel, p, hg, hty, hvar, hd⟩ := h
  obtain rfl := Option.some.inj (gSp.symm.trans hg)
  obtain rfl := Option.some.inj (tSp.symm.trans hty)
  have hrow : ∀ i, i < 7 → (cs.toList.drop (i * 3)).take 3 = [.string (sp (3 * i)), .string (sp (3 * i + 1)), .string (sp (3 * i + 2))] := by
    intro i hi
    obtain ⟨fuel', d, q, hdi, he⟩ := Lib.array_elem Tryz.underlying87 hd i hi
    simp only [List.getElem?_map, List.getElem?_range hi, Option.map_some, Option.some.injEq] at hdi
    subst hdi
    rw [cells86] at he
    exact row_strings he
  have hlen : cs.toList.length = 21 := by
    obtain ⟨xs, n, _, _, h1, _⟩ := DataW.trod_array Tryz.underlying87 hd
    rw [h1]
    kernel_rfl
  have hcs : cs = spC := by
    apply Array.ext'
    apply List.ext_getElem?
    intro i
    by_cases hi : i < 21
    · have := congrArg (·[i % 3]?) (hrow (i / 3) (by omega))
      simp only [List.getElem?_take, List.getElem?_drop] at this
      rw [if_pos (by omega), show i / 3 * 3 + i % 3 = i by omega] at this
      have hs : spC.toList[i]? = some (.string (sp i)) := by rw [Array.getElem?_toList]; exact spC_get ⟨i, hi⟩
      rw [this, hs]
      rcases (by omega : i % 3 = 0 ∨ i % 3 = 1 ∨ i % 3 = 2) with h3 | h3 | h3
      · rw [h3]; simp; congr 1; omega
      · rw [h3]; simp; congr 1; omega
      · rw [h3]; simp; congr 1; omega
    · rw [List.getElem?_eq_none (by omega), List.getElem?_eq_none (by simp [spC]; omega)]
  subst hcs
  unfold World.var? at hvar
  rw [gSp] at hvar
  simp only [Option.bind_some] at hvar
  split at hvar
  · rename_i c t fr hh
    simp at hvar
    subst hvar
    exact ⟨t, fr, hh⟩
  · cases hvar

theorem two_of {α : Type} : ∀ {l : List α}, l.length = 2 → ∃ a b, l = [a, b]
  | [a, b], _ => ⟨a, b, rfl⟩
  | [], h => by simp at h
  | [_], h => by simp at h
  | _ :: _ :: _ :: _, h => by simp at h
theorem cells50 : Tryz.prog.cellsOf 50 = 2 := by kernel_rfl
theorem gKd : Tryz.prog.globalNamed "modality/charset.kinds" = some 0 := by kernel_rfl
theorem tKd : (Tryz.prog.globals[0]?).map (·.type) = some 51 := by kernel_rfl
theorem row_two {w : World} {fuel : Nat} {cs : List Value} {a b : List UInt8} {p : List MemPlace}
    (h : DataW.trod (fun _ => ()) Tryz.prog w 0 (fun _ => true) false fuel 50 cs = some (.agg [.lit (.string a), .lit (.string b)], p)) :
    cs = [.string ⟨a.toArray⟩, .string ⟨b.toArray⟩] := by
  obtain ⟨xs, n, rfl, hx, hl, hxl, hall⟩ := DataW.trod_struct Tryz.underlying50 h
  have hxs : xs.map (·.1) = [.lit (.string a), .lit (.string b)] := by
    have := congrArg Prod.fst hx
    simpa using this.symm
  obtain ⟨x0, x1, rfl⟩ : ∃ x0 x1, xs = [x0, x1] := by
    match xs, hxl with
    | [x0, x1], _ => exact ⟨x0, x1, rfl⟩
  simp only [List.map_cons, List.map_nil, List.cons.injEq, and_true] at hxs
  obtain ⟨e0, e1⟩ := hxs
  have one : ∀ (i : Nat) (f : Field) (y : DataW Unit × List MemPlace) (s : List UInt8), DataW.trod (fun _ => ()) Tryz.prog w 0 (fun _ => true) false n 9 ((cs.drop i).take (Tryz.prog.cellsOf 9)) = some y → y.1 = .lit (.string s) → cs[i]? = some (.string ⟨s.toArray⟩) := by
    intro i f y s hy he
    obtain ⟨t, ht, rfl, _⟩ := DataW.trod_string Tryz.underlying9 hy
    simp only [DataW.lit.injEq, Lit.string.injEq] at he
    subst he
    have := congrArg (·[0]?) ht
    rw [cells9] at this
    simpa [List.getElem?_take, List.getElem?_drop] using this
  have h0 := hall 0 _ rfl
  have h1 := hall 1 _ rfl
  have c0 := one 0 default x0 a h0 e0
  have c1 := one 1 default x1 b h1 e1
  rw [cells50] at hl
  clear hall one h0 h1 h
  obtain ⟨v0, v1, rfl⟩ := two_of hl
  simp at c0 c1
  rw [c0, c1]
def kdL : List (List UInt8) := [[9, 10, 12, 13], [9, 10, 12, 13], [], [92], [], [92, 94, 61]]
def kdD : DataW Unit := .agg ((List.range 3).map fun i => .agg [.lit (.string (kdL.getD (2 * i) [])), .lit (.string (kdL.getD (2 * i + 1) []))])
theorem kd_is : ∀ i : Fin 6, kdS i.val = ⟨(kdL.getD i.val []).toArray⟩ := by decide +kernel
theorem kinds_of {W : World} (h : Lib.VarReads Tryz.prog W "modality/charset.kinds" kdD) : Kinds W := by
  obtain ⟨g, t, cs, fuel, p, hg, hty, hvar, hd⟩ := h
  obtain rfl := Option.some.inj (gKd.symm.trans hg)
  obtain rfl := Option.some.inj (tKd.symm.trans hty)
  refine ⟨fun i hi => ?_⟩
  obtain ⟨fuel', d, q, hdi, he⟩ := Lib.array_elem Tryz.underlying51 hd (i / 2) (by omega)
  simp only [List.getElem?_map, List.getElem?_range (show i / 2 < 3 by omega), Option.map_some, Option.some.injEq] at hdi
  subst hdi
  rw [cells50] at he
  have hrow := row_two he
  have := congrArg (·[i % 2]?) hrow
  simp only [List.getElem?_take, List.getElem?_drop] at this
  rw [if_pos (by omega), show i / 2 * 2 + i % 2 = i by omega] at this
  rw [World.var?_cell hg hvar i, ← Array.getElem?_toList, this, kd_is ⟨i, hi⟩]
  rcases (by omega : i % 2 = 0 ∨ i % 2 = 1) with h3 | h3
  · rw [h3]; simp only; rw [show 2 * (i / 2) = i by omega]; rfl
  · rw [h3]; simp only; rw [show 2 * (i / 2) + 1 = i by omega]; rfl

theorem utabs_of {W : World} (h3 : Lib.VarReads Tryz.prog W "unicode/utf8.first" Lib.firstData) (h4 : Lib.VarReads Tryz.prog W "unicode/utf8.acceptRanges" Lib.acceptData) : Lib.Utf8Tabs 6 7 W :=
  utf8Tabs_of_reads (ρ := decRen) { decLays with } ⟨by kernel_rfl, by kernel_rfl, by kernel_rfl, by kernel_rfl, by kernel_rfl, by kernel_rfl, by kernel_rfl⟩ h3 h4
theorem utabs_on {w w' : World} (h : Lib.Utf8Tabs 6 7 w) (hb : Below w.heap.size w w') : Lib.Utf8Tabs 6 7 w' :=
  ⟨fun c hc => (hb.cell (p := ⟨6, c, none⟩) (cell_lt (h.1 c hc))).trans (h.1 c hc), fun i hi => ⟨(hb.cell (p := ⟨7, 2 * i, none⟩) (cell_lt (h.2 i hi).1)).trans (h.2 i hi).1, (hb.cell (p := ⟨7, 2 * i + 1, none⟩) (cell_lt (h.2 i hi).2)).trans (h.2 i hi).2⟩⟩
theorem bytes9 : Tryz.prog.bytesOf 9 = 16 := by kernel_rfl
theorem reachIs : reachBytes = 140737488351232 := rfl

theorem terms_open {H : Type} {enc : TypeId × Value → H} {W : World} {base : Nat} {spare : Nat → Bool} {held : Bool} {fuel : Nat} {a0 : Option Addr} {len cap : Nat} {x : DataW H × List MemPlace}
    (hf : DataW.trod enc Tryz.prog W base spare held fuel 22 [.slice a0 len cap] = some x) : ∃ T : List ByteArray, T.length = len ∧ TS W (.slice a0 len cap) T ∧ (T = [] ∨ ∃ sp, x.1 = .slice (strs T) sp) := by
  rcases open_strings Tryz.underlying22 Tryz.underlying9 cells9 hf with ⟨hcs, _⟩ | ⟨a, len', cap', ss, hcs, _, hl, hm, hz, hx, hcell, hwz⟩
  · simp only [List.cons.injEq, and_true, Value.slice.injEq] at hcs
    obtain ⟨rfl, rfl, rfl⟩ := hcs
    exact ⟨[], rfl, ⟨none, 0, rfl, fun h => by simp at h⟩, .inl rfl⟩
  · simp only [List.cons.injEq, and_true, Value.slice.injEq] at hcs
    obtain ⟨rfl, rfl, rfl⟩ := hcs
    have hzl : len ≤ ss.length := by rw [hz]; split <;> omega
    have hlen : (ss.take len).length = len := by simp; omega
    refine ⟨ss.take len, hlen, ⟨_, cap, by rw [hlen], fun hp => ?_⟩, .inr ⟨_, by rw [hx]⟩⟩
    rw [hlen] at hp
    obtain ⟨b, off, sp⟩ := a
    have hs : sp = none := by
      have := World.cell?_spot (hcell 0 (by omega))
      simpa [Addr.add] using this
    subst hs
    refine ⟨b, off, rfl, fun k s hk => ?_⟩
    have hk1 : k < len := by have := (List.getElem?_eq_some_iff.1 hk).1; omega
    have hc := hcell k (by omega)
    have hadd : (⟨b, off, none⟩ : Addr).add k = ⟨b, off + k, none⟩ := by
      unfold Addr.add
      by_cases hz : k = 0
      · rw [if_pos hz, hz]; rfl
      · rw [if_neg hz]
    rw [hadd] at hc
    rw [hc]
    rw [List.getElem?_take, if_pos hk1] at hk
    rw [List.getD_eq_getElem?_getD, hk]
    rfl

theorem row_weights {H : Type} (l : List (DataW H)) : ∀ d ∈ l, d.weights Tryz.prog 9 ⊆ DataW.weightsAll Tryz.prog 9 l := by
  induction l with
  | nil => intro d hd; cases hd
  | cons x l ih =>
    intro d hd n hn
    rw [DataW.weightsAll, List.mem_append]
    cases hd with
    | head => exact .inl hn
    | tail _ h => exact .inr (ih d h hn)

theorem strs_sized {H : Type} {ts : List TypeId} {ds : List (DataW H)} (h : (DataW.weightsEach Tryz.prog ts ds).all (· ≤ reachBytes) = true) {j : Nat} {T : List ByteArray} {sp : List (DataW H)} (ht : ts[j]? = some 22) (hd : ds[j]? = some (.slice (strs T) sp)) :
    T.length ≤ 8796093021952 ∧ ∀ s ∈ T, s.size ≤ 140737488351232 := by
  constructor
  · have := sized_slice h (e := 9) ht hd Tryz.underlying22
    rw [bytes9, reachIs] at this
    have hl : (strs (H := H) T).length = T.length := by simp [strs]
    omega
  · intro s hs
    have hm : (DataW.lit (.string s.data.toList) : DataW H) ∈ strs T := List.mem_map.2 ⟨s, hs, rfl⟩
    have hw : s.data.toList.length ∈ (DataW.slice (strs T) sp : DataW H).weights Tryz.prog 22 := by
      have h1 : s.data.toList.length ∈ (DataW.lit (.string s.data.toList) : DataW H).weights Tryz.prog 9 := by rw [DataW.weights]; exact List.mem_cons_self
      have h2 := row_weights (strs T) _ hm h1
      rw [DataW.weights, Tryz.underlying22]
      exact List.mem_cons_of_mem _ (List.mem_append_left _ h2)
    have := List.all_eq_true.1 h _ (DataW.weights_mem_each ht hd _ hw)
    rw [decide_eq_true_eq, reachIs, Array.length_toList] at this
    exact this

theorem cells5 : Tryz.prog.cellsOf 5 = 1 := by kernel_rfl
theorem bytes5 : Tryz.prog.bytesOf 5 = 1 := by kernel_rfl

theorem bytes_open {H : Type} {enc : TypeId × Value → H} {W : World} {base : Nat} {spare : Nat → Bool} {held : Bool} {fuel : Nat} {a0 : Option Addr} {len cap : Nat} {x : DataW H × List MemPlace}
    (hf : DataW.trod enc Tryz.prog W base spare held fuel 23 [.slice a0 len cap] = some x) : ∃ bs : List Nat, bs.length = len ∧ V W (.slice a0 len cap) bs ∧ (len = 0 ∨ ∃ es sp, x.1 = .slice es sp ∧ es.length = len) := by
  rcases open_ints Tryz.underlying23 Tryz.underlying5 cells5 hf with ⟨hcs, _⟩ | ⟨a, len', cap', zs, hcs, _, hl, hm, hz, hx, hcell, hwz⟩
  · simp only [List.cons.injEq, and_true, Value.slice.injEq] at hcs
    obtain ⟨rfl, rfl, rfl⟩ := hcs
    exact ⟨[], rfl, .inl ⟨_, _, rfl, rfl⟩, .inl rfl⟩
  · simp only [List.cons.injEq, and_true, Value.slice.injEq] at hcs
    obtain ⟨rfl, rfl, rfl⟩ := hcs
    by_cases h0 : len = 0
    · subst h0
      exact ⟨[], rfl, .inl ⟨_, _, rfl, rfl⟩, .inl rfl⟩
    · have hzl : len ≤ zs.length := by rw [hz]; split <;> omega
      obtain ⟨b, off, sp⟩ := a
      have hs : sp = none := by
        have := World.cell?_spot (hcell 0 (by omega))
        simpa [Addr.add] using this
      subst hs
      have hwf : ∀ n ∈ zs, 0 ≤ n ∧ n < 256 := by
        intro n hn
        have := hwz n hn
        simp only [Lit.wf, Bool.and_eq_true, decide_eq_true_eq, show IntKind.u8.min = 0 from rfl, show IntKind.u8.max = 255 from rfl] at this
        omega
      have hlen : ((zs.take len).map Int.toNat).length = len := by simp; omega
      refine ⟨(zs.take len).map Int.toNat, hlen, .inr ⟨b, off, cap, by rw [hlen], by omega, by omega, ?_, ?_⟩, .inr ⟨_, _, by rw [hx], by simp [lits]; omega⟩⟩
      · intro k hk
        rw [hlen] at hk
        have hk2 : k < zs.length := by omega
        have hc := hcell k hk2
        have hadd : (⟨b, off, none⟩ : Addr).add k = ⟨b, off + k, none⟩ := by
          unfold Addr.add
          by_cases hz : k = 0
          · rw [if_pos hz, hz]; rfl
          · rw [if_neg hz]
        rw [hadd] at hc
        rw [hc]
        have hp := hwf zs[k] (List.getElem_mem hk2)
        simp [List.getD_eq_getElem?_getD, hk, List.getElem?_eq_getElem hk2]
        omega
      · intro y hy
        rw [List.mem_map] at hy
        obtain ⟨z, hz1, rfl⟩ := hy
        have := hwf z (List.mem_of_mem_take hz1)
        omega

theorem tabIs_of {W : World} {name : String} {k : IntKind} {zs : List Int} {g : Nat} {t e : TypeId} {n : Nat}
    (hg : Tryz.prog.globalNamed name = some g) (hty : (Tryz.prog.globals[g]?).map (·.type) = some t) (ht : Tryz.prog.underlying t = some (.array n e)) (he : Tryz.prog.underlying e = some (.int k)) (hce : Tryz.prog.cellsOf e = 1) (hct : Tryz.prog.cellsOf t = n)
    (h : Lib.VarReads Tryz.prog W name (Lib.tabData k zs)) (i : Nat) (hi : i < zs.length) : W.cell? ⟨g, i, none⟩ = some (.int k (zs.getD i 0)) := by
  obtain ⟨g', t', cs, fuel, p, hg', hty', hvar, hd⟩ := h
  obtain rfl := Option.some.inj (hg.symm.trans hg')
  obtain rfl := Option.some.inj (hty.symm.trans hty')
  have hT : Lib.TabIs Tryz.prog W name k zs := by
    unfold Lib.TabIs
    rw [hvar, ← Lib.cells_of_tab ht he hce hct hd]
  exact hT.cell hg i hi

theorem getD_cast (l : List Nat) (i : Nat) : (l.map Int.ofNat).getD i 0 = ((l.getD i 0 : Nat) : Int) := by
  rw [List.getD_eq_getElem?_getD, List.getD_eq_getElem?_getD, List.getElem?_map]
  cases l[i]? <;> rfl

end Go.Proofs.YtghaeolehjgmnaaGreatDoor

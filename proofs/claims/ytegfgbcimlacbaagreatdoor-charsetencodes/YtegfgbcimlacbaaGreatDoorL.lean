
import Derived.Test.YtegfgbcimlacbaaGreatDoorH
import Derived.Lib.LaidU8
import Derived.OpenShut
/-
  DERIVED. From what the row lists to what the walks ask.
-/
namespace Go.Proofs.YtegfgbcimlacbaaGreatDoor
open Go Go.Proofs Go.RowKit

theorem cells9 : Tryz.prog.cellsOf 9 = 1 := by kernel_rfl
theorem cells100 : Tryz.prog.cellsOf 101 = 3 := by kernel_rfl
theorem gSp : Tryz.prog.globalNamed "modality/charset.spellings" = some 1 := by kernel_rfl
theorem tSp : (Tryz.prog.globals[1]?).map (·.type) = some 102 := by kernel_rfl

theorem three_of {α : Type} : ∀ {l : List α}, l.length = 3 → ∃ a b c, l = [a, b, c]
  | [a, b, c], _ => ⟨a, b, c, rfl⟩
  | [], h => by simp at h
  | [_], h => by simp at h
  | [_, _], h => by simp at h
  | _ :: _ :: _ :: _ :: _, h => by simp at h

theorem row_strings {w : World} {fuel : Nat} {cs : List Value} {a b c : List UInt8} {p : List MemPlace}
    (h : DataW.trod (fun _ => ()) Tryz.prog w 0 (fun _ => true) false fuel 101 cs = some (.agg [.lit (.string a), .lit (.string b), .lit (.string c)], p)) :
    cs = [.string ⟨a.toArray⟩, .string ⟨b.toArray⟩, .string ⟨c.toArray⟩] := by
  obtain ⟨xs, n, rfl, hx, hl, hxl, hall⟩ := DataW.trod_struct Tryz.underlying101 h
  have hxs : xs.map (·.1) = [.lit (.string a), .lit (.string b), .lit (.string c)] := by
    have := congrArg Prod.fst hx
    simpa using this.symm
  obtain ⟨x0, x1, x2, rfl⟩ : ∃ x0 x1 x2, xs = [x0, x1, x2] := by
    match xs, hxl with
    | [x0, x1, x2], _ => exact ⟨x0, x1, x2, rfl⟩
  simp only [List.map_cons, List.map_nil, List.cons.injEq, and_true] at hxs
  obtain ⟨e0, e1, e2⟩ := hxs
  have one : ∀ (i : Nat) (f : Field) (y : DataW Unit × List MemPlace) (s : List UInt8), DataW.trod (fun _ => ()) Tryz.prog w 0 (fun _ => true) false n 9 ((cs.drop i).take (Tryz.prog.cellsOf 9)) = some y → y.1 = .lit (.string s) → cs[i]? = some (.string ⟨s.toArray⟩) := by
    intro i f y s hy he
    obtain ⟨t, ht, rfl, _⟩ := DataW.trod_string Tryz.underlying9 hy
    simp only [DataW.lit.injEq, Lit.string.injEq] at he
    subst he
    have := congrArg (·[0]?) ht
    rw [cells9] at this
    simpa [List.getElem?_take, List.getElem?_drop] using this
  have h0 := hall 0 _ rfl
  have h1 := hall 1 _ rfl
  have h2 := hall 2 _ rfl
  have c0 := one 0 default x0 a h0 e0
  have c1 := one 1 default x1 b h1 e1
  have c2 := one 2 default x2 c h2 e2
  rw [cells100] at hl
  clear hall one h0 h1 h2 h
  obtain ⟨v0, v1, v2, rfl⟩ := three_of hl
  simp at c0 c1 c2
  rw [c0, c1, c2]

def spD : DataW Unit := .agg ((List.range 7).map fun i => .agg [.lit (.string (spL.getD (3 * i) [])), .lit (.string (spL.getD (3 * i + 1) [])), .lit (.string (spL.getD (3 * i + 2) []))])

theorem spell_of {W : World} (h : Lib.VarReads Tryz.prog W "modality/charset.spellings" spD) : Spell W := by
  obtain ⟨g, t, cs, fuel, p, hg, hty, hvar, hd⟩ := h
  obtain rfl := Option.some.inj (gSp.symm.trans hg)
  obtain rfl := Option.some.inj (tSp.symm.trans hty)
  have hrow : ∀ i, i < 7 → (cs.toList.drop (i * 3)).take 3 = [.string (sp (3 * i)), .string (sp (3 * i + 1)), .string (sp (3 * i + 2))] := by
    intro i hi
    obtain ⟨fuel', d, q, hdi, he⟩ := Lib.array_elem Tryz.underlying102 hd i hi
    simp only [List.getElem?_map, List.getElem?_range hi, Option.map_some, Option.some.injEq] at hdi
    subst hdi
    rw [cells100] at he
    exact row_strings he
  have hlen : cs.toList.length = 21 := by
    obtain ⟨xs, n, _, _, h1, _⟩ := DataW.trod_array Tryz.underlying102 hd
    rw [h1]
    kernel_rfl
  have hcs : cs = spC := by
    apply Array.ext'
    apply List.ext_getElem?
    intro i
    by_cases hi : i < 21
    · have := congrArg (·[i % 3]?) (hrow (i / 3) (by omega))
      simp only [List.getElem?_take, List.getElem?_drop] at this
      rw [if_pos (by omega), show i / 3 * 3 + i % 3 = i by omega] at this
      have hs : spC.toList[i]? = some (.string (sp i)) := by rw [Array.getElem?_toList]; exact spC_get ⟨i, hi⟩
      rw [this, hs]
      rcases (by omega : i % 3 = 0 ∨ i % 3 = 1 ∨ i % 3 = 2) with h3 | h3 | h3
      · rw [h3]; simp; congr 1; omega
      · rw [h3]; simp; congr 1; omega
      · rw [h3]; simp; congr 1; omega
    · rw [List.getElem?_eq_none (by omega), List.getElem?_eq_none (by simp [spC]; omega)]
  subst hcs
  unfold World.var? at hvar
  rw [gSp] at hvar
  simp only [Option.bind_some] at hvar
  split at hvar
  · rename_i c t fr hh
    simp at hvar
    subst hvar
    exact ⟨t, fr, hh⟩
  · cases hvar
end Go.Proofs.YtegfgbcimlacbaaGreatDoor

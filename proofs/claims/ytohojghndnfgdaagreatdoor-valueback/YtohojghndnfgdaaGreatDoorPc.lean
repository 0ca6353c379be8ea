import Derived.Test.YtohojghndnfgdaaGreatDoorPb
import Derived.Deep.LoopGhost
import Derived.Deep.CutRange
/-
  DERIVED. A group, read.
-/
namespace Go.Proofs.YtohojghndnfgdaaGreatDoor
open Go Go.Proofs Go.RowKit

/-- A group read byte by byte: the first that may not be there, else its pieces. -/
def scn (G : ByteArray) : Nat → Nat → Nat → Nat → List ByteArray → Option (Nat × Int) × List ByteArray
  | 0, _, _, fr, acc => (none, acc ++ [G.extract fr G.size])
  | f + 1, p, c, fr, acc =>
    if barI ((G.get! p).toNat : Int) = true then (some (p, 100), [])
    else if (G.get! p).toNat = 94 then (if c = 4 then (some (p, 104), []) else scn G f (p + 1) (c + 1) (p + 1) (acc ++ [G.extract fr p]))
    else scn G f (p + 1) c fr acc
theorem bar_hi {b : Nat} (h : 128 ≤ b) : barI (b : Int) = false := by
  unfold barI
  rw [decide_eq_false (by omega), decide_eq_false (by omega), decide_eq_false (by omega)]
  rfl
theorem scn_skip (G : ByteArray) : ∀ (k f p c fr : Nat) (acc : List ByteArray), (∀ j, j < k → 128 ≤ (G.get! (p + j)).toNat) → scn G (f + k) p c fr acc = scn G f (p + k) c fr acc
  | 0, f, p, c, fr, acc, _ => rfl
  | k + 1, f, p, c, fr, acc, h => by
    have h0 := h 0 (by omega)
    rw [Nat.add_zero] at h0
    rw [show f + (k + 1) = (f + k) + 1 by omega, scn, if_neg (by rw [bar_hi h0]; decide), if_neg (by omega), scn_skip G k f (p + 1) c fr acc (fun j hj => by have := h (j + 1) (by omega); rw [show p + 1 + j = p + (j + 1) by omega]; exact this), show p + 1 + k = p + (k + 1) by omega]
/-- All bytes of a rune that is not ASCII are above 127. -/
theorem rune_hi (G : ByteArray) (p : Nat) (h : p < G.size) (hr : ¬ ((Utf8.decode G p).2 = 1 ∧ (G.get! p).toNat < 128)) : (∀ j, j < (Utf8.decode G p).2 → 128 ≤ (G.get! (p + j)).toNat) ∧ p + (Utf8.decode G p).2 ≤ G.size ∧ 128 ≤ (Utf8.decode G p).1 := by
  rcases shape G p h with ⟨h1, h2⟩ | ⟨h1, h2, h3, h4, h5, h6, h7⟩ | ⟨h1, h2, h3, h4, h5, h6, h7, h8⟩ | ⟨h1, h2, h3, h4, h5, h6, h7, h8, h9, h10⟩
  · rcases h2 with ⟨h2, h3⟩ | ⟨h2, h3⟩
    · exact absurd ⟨h1, h3⟩ hr
    · refine ⟨fun j hj => ?_, by omega, by omega⟩
      obtain rfl : j = 0 := by omega
      exact h3
  · refine ⟨fun j hj => ?_, by omega, by omega⟩
    have : j = 0 ∨ j = 1 := by omega
    rcases this with rfl | rfl
    · rw [Nat.add_zero]; omega
    · exact h5
  · refine ⟨fun j hj => ?_, by omega, by omega⟩
    have : j = 0 ∨ j = 1 ∨ j = 2 := by omega
    rcases this with rfl | rfl | rfl
    · rw [Nat.add_zero]; omega
    · exact h4
    · exact h6
  · refine ⟨fun j hj => ?_, by omega, by omega⟩
    have : j = 0 ∨ j = 1 ∨ j = 2 ∨ j = 3 := by omega
    rcases this with rfl | rfl | rfl | rfl
    · rw [Nat.add_zero]; omega
    · exact h4
    · exact h6
    · exact h8
theorem rune_lo (G : ByteArray) (p : Nat) (h : p < G.size) (hr : (Utf8.decode G p).2 = 1 ∧ (G.get! p).toNat < 128) : (Utf8.decode G p).1 = (G.get! p).toNat := by
  rcases shape G p h with ⟨h1, h2⟩ | ⟨h1, _⟩ | ⟨h1, _⟩ | ⟨h1, _⟩
  · rcases h2 with ⟨h2, _⟩ | ⟨_, h3⟩
    · exact h2
    · omega
  · omega
  · omega
  · omega
/-- How many runes stand from here on. -/
def rn (G : ByteArray) (p : Nat) : Nat := (rels G (G.size - p) p).length
theorem rels_fuel (G : ByteArray) : ∀ f g p, G.size ≤ p + f → G.size ≤ p + g → rels G f p = rels G g p
  | 0, g, p, h, _ => by rw [rels_end G 0 p (by omega), rels_end G g p (by omega)]
  | f + 1, 0, p, _, h => by rw [rels_end G 0 p (by omega), rels_end G (f + 1) p (by omega)]
  | f + 1, g + 1, p, h1, h2 => by
    rw [rels, rels]
    split
    · rename_i hp
      have := oneW_pos G p hp
      rw [rels_fuel G f g _ (by omega) (by omega)]
    · rfl
theorem rn_step (G : ByteArray) (p : Nat) (h : p < G.size) : rn G p = rn G (p + (Utf8.decode G p).2) + 1 := by
  have hw : 1 ≤ (Utf8.decode G p).2 := oneW_pos G p h
  unfold rn
  rw [show G.size - p = (G.size - (p + 1)) + 1 by omega, rels, if_pos h, List.length_cons, rels_fuel G (G.size - (p + 1)) (G.size - (p + (Utf8.decode G p).2)) (p + oneW G p) (by show G.size ≤ p + (Utf8.decode G p).2 + _; omega) (by show G.size ≤ p + (Utf8.decode G p).2 + _; omega)]
  rfl
theorem rn_end (G : ByteArray) (p : Nat) (h : ¬ p < G.size) : rn G p = 0 := by
  unfold rn
  rw [rels_end G _ p h]
  rfl
/-- What a group tells: the first fault, else its pieces. -/
def gR (G : ByteArray) : Option (Nat × Int) × List ByteArray :=
  if (scn G G.size 0 0 0 []).1 ≠ none then ((scn G G.size 0 0 0 []).1, []) else if 64 < rn G 0 then (some (0, 103), []) else (none, (scn G G.size 0 0 0 []).2)
/-- Five texts. -/
def t5 (L : List ByteArray) (i : Nat) : ByteArray := L.getD i ⟨#[]⟩
def f5 (L : List ByteArray) : Nat → Value := fun i => .string (t5 L i)
def a5 (L : List ByteArray) : Array Value := #[.string (t5 L 0), .string (t5 L 1), .string (t5 L 2), .string (t5 L 3), .string (t5 L 4)]
theorem getD_app (L : List ByteArray) (x : ByteArray) (i : Nat) : (L ++ [x]).getD i ⟨#[]⟩ = if i = L.length then x else L.getD i ⟨#[]⟩ := by
  by_cases h : i = L.length
  · subst h; simp [List.getD]
  · rw [if_neg h]
    by_cases h2 : i < L.length
    · simp [List.getD, List.getElem?_append_left h2]
    · have h3 : L.length + 1 ≤ i := by omega
      have e1 : (L ++ [x])[i]? = none := List.getElem?_eq_none (by simp; omega)
      have e2 : L[i]? = none := List.getElem?_eq_none (by omega)
      simp only [List.getD, e1, e2]
theorem row_congr {w : World} {q : Nat} {t : TypeId} {n : Nat} {f g : Nat → Value} (h : w.rowIs q t n f) (he : ∀ i, i < n → f i = g i) : w.rowIs q t n g := by
  exact h.congr he
theorem row5_next {w : World} {q : Nat} {L : List ByteArray} (h : w.rowIs q 39 5 (f5 L)) (x : ByteArray) : (w.setCell ⟨q, L.length, none⟩ (.string x)).rowIs q 39 5 (f5 (L ++ [x])) := by
  refine row_congr (h.set L.length (.string x)) (fun i _ => ?_)
  show (if i = L.length then Value.string x else f5 L i) = f5 (L ++ [x]) i
  unfold f5 t5
  rw [getD_app]
  by_cases hi : i = L.length
  · rw [if_pos hi, if_pos hi]
  · rw [if_neg hi, if_neg hi]
end Go.Proofs.YtohojghndnfgdaaGreatDoor

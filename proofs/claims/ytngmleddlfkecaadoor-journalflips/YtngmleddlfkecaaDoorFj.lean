import Derived.Test.YtngmleddlfkecaaDoorFi
import Derived.Test.YtngmleddlfkecaaDoorZb
namespace Go.Proofs.YtngmleddlfkecaaDoor
open Go Go.Proofs Go.RowKit

theorem Lent.row {w : World} {B g : Nat} {d : List Nat} (h : Lent w B g d) : w.ownsRow B 5 1 (.slice (some ⟨g, 0, none⟩) (d.length + 3) (d.length + 3)) (d.length + 3) (u8s (d ++ [160, 161, 162])) := by
  have := h.1
  simp only [List.length_append, List.length_cons, List.length_nil] at this
  exact this

theorem Lent.grownBy {w : World} {B g k : Nat} {d : List Nat} (h : Lent w B g d) (x : Value) : w.grownBy (w.setCell ⟨g, k, none⟩ x) (some g) := (h.row.stored k x).2

theorem list_off {w : World} {B B' g n : Nat} {v : Value} {xs : List Value} {d : List Nat} (h : Lent w B g d) (ho : w.ownsRow B' 22 1 v n xs) : v.ownBlock ≠ some g := by
  rcases ho.2 with ⟨rfl, _⟩ | ⟨g', cap', cur', rfl, _, h2', _⟩
  · simp [Value.ownBlock]
  · rcases h.row.2 with ⟨he, _⟩ | ⟨g1, cap, cur, he, _, h2, _⟩
    · simp at he
    · simp only [Value.slice.injEq, Option.some.injEq, Addr.mk.injEq] at he
      obtain ⟨⟨rfl, _⟩, _⟩ := he
      simp only [Value.ownBlock]
      intro he
      simp only [Option.some.injEq] at he
      subst he
      rw [h2] at h2'
      simp at h2'

theorem Lent.off {w w' : World} {B g g' : Nat} {d : List Nat} (h : Lent w B g d) (hg : w.grownBy w' (some g')) (hne : g ≠ g') : Lent w' B g d :=
  ⟨h.1.kept hg (.inr (by simpa [Value.ownBlock] using hne)), h.2⟩

theorem LS.off {w w' : World} {B g' : Nat} {v : Value} {l : List (List Nat)} {g : Nat → Nat} {B' : Nat} {d : List Nat} (h : LS w B v l g) (hx : Lent w B' g' d) (hg : w.grownBy w' (some g')) (hne : ∀ i, i < l.length → g i ≠ g') : LS w' B v l g := by
  obtain ⟨cells, h1, h2, h3⟩ := h
  exact ⟨cells, h1.kept hg (.inr (list_off hx h1)), fun i hi => ⟨(h2 i hi).1, (h2 i hi).2.off hg (hne i hi)⟩, h3⟩

theorem getD_set_same (l : List (List Nat)) (k : Nat) (x : List Nat) (hk : k < l.length) : (l.set k x).getD k [] = x := by
  simp [List.getD_eq_getElem?_getD, hk]
theorem getD_set_other (l : List (List Nat)) (k i : Nat) (x : List Nat) (hk : i ≠ k) : (l.set k x).getD i [] = l.getD i [] := by
  simp [List.getD_eq_getElem?_getD, List.getElem?_set_ne (Ne.symm hk)]

theorem LS.turned {w : World} {B : Nat} {v : Value} {l : List (List Nat)} {g : Nat → Nat} (h : LS w B v l g) {k : Nat} (hk : k < l.length) (hp : 0 < (l.getD k []).length) {y : Nat} (hy : y = (l.getD k []).getD ((l.getD k []).length - 1) 0) (hx : y ^^^ 255 < 256) :
    LS (w.setCell ⟨g k, (l.getD k []).length - 1, none⟩ (.int .u8 ((y ^^^ 255 : Nat) : Int))) B v (l.set k (turnL (l.getD k []))) g := by
  obtain ⟨cells, h1, h2, h3⟩ := h
  have hL := (h2 k hk).2
  have hg := hL.grownBy (k := (l.getD k []).length - 1) (.int .u8 ((y ^^^ 255 : Nat) : Int))
  refine ⟨cells, ?_, ?_, ?_⟩
  · rw [List.length_set]; exact h1.kept hg (.inr (list_off hL h1))
  · intro i hi
    rw [List.length_set] at hi
    by_cases hik : i = k
    · subst hik
      rw [getD_set_same l i _ hi, turnL_length]
      exact ⟨(h2 i hi).1, hL.turned hp hy hx⟩
    · rw [getD_set_other l k i _ hik]
      exact ⟨(h2 i hi).1, (h2 i hi).2.off hg (h3 i k hi hk hik)⟩
  · rw [List.length_set]; exact h3

/-- The first k of them turned. -/
def turnTo (k : Nat) (l : List (List Nat)) : List (List Nat) := (l.take k).map turnL ++ l.drop k

theorem turnTo_length (k : Nat) (l : List (List Nat)) (hk : k ≤ l.length) : (turnTo k l).length = l.length := by
  simp [turnTo]; omega
theorem turnTo_get (k : Nat) (l : List (List Nat)) (hk : k < l.length) : (turnTo k l).getD k [] = l.getD k [] := by
  have e : ((l.take k).map turnL).length = k := by simp; omega
  simp only [turnTo, List.getD_eq_getElem?_getD]
  rw [List.getElem?_append_right (by omega), e, List.getElem?_drop]
  simp
theorem turnTo_set (k : Nat) (l : List (List Nat)) (hk : k < l.length) : (turnTo k l).set k (turnL (l.getD k [])) = turnTo (k + 1) l := by
  have e : ((l.take k).map turnL).length = k := by simp; omega
  unfold turnTo
  rw [List.set_append_right (h := by omega), e, Nat.sub_self, List.drop_eq_getElem_cons hk, List.set_cons_zero, take_snoc hk, List.map_append, List.append_assoc]
  simp
theorem turnTo_zero (l : List (List Nat)) : turnTo 0 l = l := by simp [turnTo]
theorem turnTo_all (l : List (List Nat)) : turnTo l.length l = l.map turnL := by simp [turnTo]

theorem turnL_nil : turnL [] = [] := rfl
theorem turnTo_skip (k : Nat) (l : List (List Nat)) (hk : k < l.length) (h0 : (l.getD k []).length = 0) : turnTo (k + 1) l = turnTo k l := by
  have e := turnTo_set k l hk
  have e2 : l.getD k [] = [] := List.eq_nil_of_length_eq_zero h0
  rw [← e, e2, turnL_nil]
  have e3 := turnTo_get k l hk
  rw [e2] at e3
  have hk2 : k < (turnTo k l).length := by rw [turnTo_length _ _ (by omega)]; exact hk
  apply List.ext_getElem?
  intro i
  by_cases hik : i = k
  · subst hik
    rw [List.getElem?_set_self hk2]
    rw [List.getD_eq_getElem?_getD, List.getElem?_eq_getElem hk2] at e3
    rw [List.getElem?_eq_getElem hk2]
    simpa using e3.symm
  · rw [List.getElem?_set_ne (Ne.symm hik)]

theorem turns_snoc {l : List (List Nat)} {k : Nat} (hk : k < l.length) : (l.take (k + 1)).map turnL = (l.take k).map turnL ++ [turnL (l.getD k [])] := by
  rw [take_snoc hk, List.map_append]; rfl

theorem sizeL_turned : ∀ l : List (List Nat), sizeL (l.map turnL) = sizeL l
  | [] => rfl
  | a :: l => by simp only [List.map_cons, sizeL, turnL_length, sizeL_turned l]

theorem Few.turned {l : List (List Nat)} (h : Few l) : Few (l.map turnL) := ⟨by rw [List.length_map]; exact h.1, by rw [sizeL_turned]; exact h.2⟩

theorem VV.vs {w : World} {B : Nat} {v : Value} {l : List (List Nat)} (h : VV w B v l) : VS w v l := by
  obtain ⟨ao, cap, rfl, hf⟩ := h.form
  refine ⟨ao, cap, rfl, fun hp => ?_⟩
  obtain ⟨b, rfl, hc⟩ := hf hp
  refine ⟨b, 0, rfl, fun i hi => ?_⟩
  rw [Nat.zero_add]
  exact hc i hi

theorem frameE_code {body : List Nat} : ∀ a c, frameE body = some (a, c) → (c != 0) = true := by
  intro a c h
  unfold frameE at h
  by_cases hb : body.length ≤ 131072
  · rw [if_pos hb] at h; simp at h
  · rw [if_neg hb] at h; simp at h; rw [← h.2]; decide
end Go.Proofs.YtngmleddlfkecaaDoor

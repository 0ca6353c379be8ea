import Derived.Test.YtnheeenkdjmhoaaDoorIc
import Derived.Test.YtnheeenkdjmhoaaDoorR
/-
  DERIVED. The document's way through the segments is the program's: pure.
-/
namespace Go.Proofs.YtnheeenkdjmhoaaDoor
open Go Go.Proofs Go.RowKit

def docGo (f : UInt8) : List (List UInt8) → Segs → Nat ⊕ Segs
  | [], acc => .inr acc
  | s :: r, acc => if isSegB f s = false then .inl acc.length else docGo f r (acc ++ [if acc = [] then headR f (cutU f s) else cutU f s])
theorem doc_on (f : UInt8) (mk : List UInt8) : ∀ (ps : List (List UInt8)) (acc : Segs), acc ≠ [] → segGo f mk ps acc = docGo f (segL ps) acc
  | [], acc, _ => rfl
  | p :: r, acc, h => by
    rw [segGo_cons, segL_cons]
    by_cases hp : trimL p = []
    · rw [if_pos hp, if_pos hp, List.nil_append]
      exact doc_on f mk r acc h
    · rw [if_neg hp, if_neg hp]
      show _ = docGo f (trimL p :: segL r) acc
      unfold docGo
      by_cases hs : isSegB f (trimL p) = false
      · rw [if_pos hs, if_pos hs]
      · rw [if_neg hs, if_neg hs, if_neg h, if_neg h]
        exact doc_on f mk r _ (by simp)
theorem doc_all (f : UInt8) (mk : List UInt8) : ∀ (ps : List (List UInt8)), (∀ s0 r, segL ps = s0 :: r → headF f mk s0 = headR f (cutU f s0)) → segGo f mk ps [] = docGo f (segL ps) []
  | [], _ => rfl
  | p :: r, h => by
    rw [segGo_cons]
    have hcons := segL_cons p r
    by_cases hp : trimL p = []
    · rw [if_pos hp, List.nil_append] at hcons
      rw [if_pos hp, hcons]
      exact doc_all f mk r (by rw [hcons] at h; exact h)
    · rw [if_neg hp] at hcons
      have hcons' : segL (p :: r) = trimL p :: segL r := hcons
      rw [if_neg hp, hcons']
      have hh := h _ _ hcons'
      unfold docGo
      by_cases hs : isSegB f (trimL p) = false
      · rw [if_pos hs, if_pos hs]
      · rw [if_neg hs, if_neg hs, if_pos rfl, if_pos rfl, hh]
        exact doc_on f mk r _ (by simp)

/-- The first segment, where the text begins as a header does. -/
theorem segs_first {l : List UInt8} (h : (trimL l).take 3 = [77, 83, 72]) : ∃ s0 r q, segL (cutU 13 l) = s0 :: r ∧ trimL l = s0 ++ q ∧ (q = [] ∨ q.head? = some 13) ∧ s0.take 3 = [77, 83, 72] := by
  obtain ⟨t, ht⟩ : ∃ t, trimL l = t := ⟨_, rfl⟩
  rw [ht] at h ⊢
  -- the first piece of l, and what its trimming leaves
  have key : ∀ (a q : List UInt8), t = a ++ q → (q = [] ∨ q.head? = some 13) → a.take 3 = [77, 83, 72] := by
    intro a q e hq
    have h3 : 3 ≤ a.length := by
      rcases Nat.lt_or_ge a.length 3 with hlt | hge
      · exfalso
        rcases hq with rfl | hq
        · rw [List.append_nil] at e
          subst e
          have := congrArg List.length h
          rw [List.length_take] at this
          simp at this
          omega
        · cases q with
          | nil => simp at hq
          | cons x q' =>
            simp at hq
            subst hq
            have hx : t[a.length]? = some 13 := by rw [e]; simp
            have hy : (t.take 3)[a.length]? = some 13 := by rw [List.getElem?_take_of_lt hlt]; exact hx
            rw [h] at hy
            have : a.length = 0 ∨ a.length = 1 ∨ a.length = 2 := by omega
            rcases this with h0 | h0 | h0 <;> (rw [h0] at hy; simp at hy)
      · exact hge
    rw [e, List.take_append_of_le_length h3] at h
    exact h
  have hne : ∀ a : List UInt8, a.take 3 = [77, 83, 72] → a ≠ [] := by intro a ha e; rw [e] at ha; simp at ha
  have fin : ∀ (p : List UInt8) (rest : List (List UInt8)) (q : List UInt8), cutU 13 l = p :: rest → t = trimL p ++ q → (q = [] ∨ q.head? = some 13) → ∃ s0 r q, segL (cutU 13 l) = s0 :: r ∧ t = s0 ++ q ∧ (q = [] ∨ q.head? = some 13) ∧ s0.take 3 = [77, 83, 72] := by
    intro p rest q hc he hq
    have h3 := key _ _ he hq
    refine ⟨trimL p, segL rest, q, ?_, he, hq, h3⟩
    rw [hc, segL_cons, if_neg (hne _ h3)]; rfl
  rcases indexByte_split l 13 with ⟨hn, _⟩ | ⟨a, b, rfl, ha, _⟩
  · refine fin l [] [] (cutU_none 13 l (fun x hx hh => hn (hh ▸ hx))) (by rw [ht, List.append_nil]) (.inl rfl)
  · refine fin a (cutU 13 b) (13 :: b) (cutU_at 13 a b (fun x hx hh => ha (hh ▸ hx))) ?_ (.inr rfl)
    rw [← ht]
    cases a with
    | nil =>
      exfalso
      have : trimL ([] ++ 13 :: b) = 13 :: b := rfl
      rw [ht] at this
      rw [this] at h
      simp at h
    | cons x a' =>
      by_cases hx : x = 10
      · subst hx; rfl
      · have e1 : ∀ r : List UInt8, trimL (x :: r) = x :: r := by
          intro r; unfold trimL; split
          · next hh => simp at hh; exact absurd hh.1 hx
          · rfl
        rw [List.cons_append, e1, e1]; rfl
theorem first_hd {l : List UInt8} {s0 q : List UInt8} (he : trimL l = s0 ++ q) (hq : q = [] ∨ q.head? = some 13) : HdOK (trimL l) ↔ HdOK s0 := by
  constructor
  · intro h
    have h13 := hd_no13 h
    have h9 : 9 ≤ s0.length := by
      rcases Nat.lt_or_ge s0.length 9 with hlt | hge
      · exfalso
        rcases hq with rfl | hq
        · rw [List.append_nil] at he
          have := h.1
          rw [he] at this
          omega
        · cases q with
          | nil => simp at hq
          | cons x q' =>
            simp at hq
            subst hq
            refine h13 13 ?_ rfl
            have hx : (trimL l)[s0.length]? = some 13 := by rw [he]; simp
            have hy : ((trimL l).take 9)[s0.length]? = some 13 := by rw [List.getElem?_take_of_lt hlt]; exact hx
            exact List.mem_of_getElem? hy
      · exact hge
    obtain ⟨h1, h2, h3, h4⟩ := h
    rw [he] at h2 h3 h4
    refine ⟨h9, ?_, ?_, ?_⟩
    · rw [List.take_append_of_le_length (by omega)] at h2; exact h2
    · rw [List.drop_append_of_le_length (by omega), List.take_append_of_le_length (by rw [List.length_drop]; omega)] at h3; exact h3
    · rw [List.getD_eq_getElem?_getD, List.getD_eq_getElem?_getD, List.getElem?_append_left (by omega), List.getElem?_append_left (by omega)] at h4
      rw [List.getD_eq_getElem?_getD, List.getD_eq_getElem?_getD]; exact h4
  · intro h
    obtain ⟨h1, h2, h3, h4⟩ := h
    refine ⟨by rw [he, List.length_append]; omega, ?_, ?_, ?_⟩
    · rw [he, List.take_append_of_le_length (by omega)]; exact h2
    · rw [he, List.drop_append_of_le_length (by omega), List.take_append_of_le_length (by rw [List.length_drop]; omega)]; exact h3
    · rw [he, List.getD_eq_getElem?_getD, List.getD_eq_getElem?_getD, List.getElem?_append_left (by omega), List.getElem?_append_left (by omega)]
      rw [List.getD_eq_getElem?_getD, List.getD_eq_getElem?_getD] at h4; exact h4
/-- The header's fields are the same by both. -/
theorem head_same {s0 : List UInt8} (h : HdOK s0) : headF (s0.getD 3 0) ((s0.drop 3).take 5) s0 = headR (s0.getD 3 0) (cutU (s0.getD 3 0) s0) := by
  obtain ⟨h1, h2, h3, h4⟩ := h
  obtain ⟨f, hf⟩ : ∃ f, s0.getD 3 0 = f := ⟨_, rfl⟩
  rw [hf] at h4 ⊢
  -- the nine bytes
  obtain ⟨m1, m2, m3, m4, hm⟩ : ∃ m1 m2 m3 m4, (s0.drop 3).take 5 = [f, m1, m2, m3, m4] := by
    have hl := h3.1
    cases hq : (s0.drop 3).take 5 with
    | nil => rw [hq] at hl; simp at hl
    | cons x r =>
      match r, hq with
      | [a, b, c, d], hq =>
        have hx : x = f := by
          rw [← hf, List.getD_eq_getElem?_getD]
          have e1 : ((s0.drop 3).take 5)[0]? = some x := by rw [hq]; rfl
          rw [List.getElem?_take_of_lt (by omega), List.getElem?_drop] at e1
          rw [e1]; rfl
        exact ⟨a, b, c, d, by rw [hx]⟩
      | [], hq => rw [hq] at hl; simp at hl
      | [_], hq => rw [hq] at hl; simp at hl
      | [_, _], hq => rw [hq] at hl; simp at hl
      | [_, _, _], hq => rw [hq] at hl; simp at hl
      | _ :: _ :: _ :: _ :: _ :: _, hq => rw [hq] at hl; simp at hl
  have hnd := h3.2.2
  rw [hm] at hnd
  have hs : s0 = [77, 83, 72] ++ f :: ([m1, m2, m3, m4] ++ f :: s0.drop 9) := by
    have e1 : s0 = s0.take 3 ++ (s0.drop 3).take 5 ++ s0.drop 8 := by
      have a1 := List.take_append_drop 3 s0
      have a2 := List.take_append_drop 5 (s0.drop 3)
      rw [List.drop_drop] at a2
      rw [List.append_assoc, a2, a1]
    have e2 : s0.drop 8 = f :: s0.drop 9 := by
      rw [List.drop_eq_getElem_cons (by omega)]
      rw [List.getD_eq_getElem?_getD, List.getElem?_eq_getElem (by omega)] at h4
      have h4' : s0[8] = f := h4
      rw [h4']
    rw [h2, hm, e2] at e1
    simpa using e1
  have hc : cutU f s0 = [77, 83, 72] :: [m1, m2, m3, m4] :: cutU f (s0.drop 9) := by
    have hM : ∀ x ∈ ([77, 83, 72] : List UInt8), x ≠ f := by
      have hmk := h3.2.1 f (by rw [hm]; simp)
      intro x hx hh
      subst hh
      simp at hx
      rcases hx with rfl | rfl | rfl <;> (revert hmk; decide)
    have hN : ∀ x ∈ [m1, m2, m3, m4], x ≠ f := by
      intro x hx hh
      subst hh
      rw [List.nodup_cons] at hnd
      exact hnd.1 hx
    have e3 := cutU_at f [77, 83, 72] ([m1, m2, m3, m4] ++ f :: s0.drop 9) hM
    rw [← hs] at e3
    rw [e3, cutU_at f [m1, m2, m3, m4] _ hN]
  unfold headF headR
  rw [hm, hc]
  rfl
end Go.Proofs.YtnheeenkdjmhoaaDoor

import Derived.Test.YtngmleddlfkecaaDoorQ
namespace Go.Proofs.YtngmleddlfkecaaDoor
open Go Go.Proofs Go.RowKit

theorem take_drop_take (f : List Nat) (T a b : Nat) (h : a + b ≤ T) : ((f.take T).drop a).take b = (f.drop a).take b := by
  rw [List.drop_take, List.take_take, Nat.min_eq_left (by omega)]

theorem summed_take {f : List Nat} {T n : Nat} (h : n + 4 ≤ T) : summedP (f.take T) n = summedP f n := by
  unfold summedP
  rw [take_drop_take f T n 4 h, List.take_take, Nat.min_eq_left (by omega), List.length_take]
  congr 1
  by_cases hf : n + 4 ≤ f.length
  · rw [decide_eq_true hf, decide_eq_true (by omega)]
  · rw [decide_eq_false hf, decide_eq_false (by omega)]

theorem lenP_take {f : List Nat} {T : Nat} (h : 9 ≤ T) : lenP (f.take T) = lenP f := by
  unfold lenP
  rw [take_drop_take f T 5 4 h]

theorem getD_take0 {f : List Nat} {T : Nat} (h : 0 < T) : (f.take T).getD 0 0 = f.getD 0 0 := by
  simp [List.getD_eq_getElem?_getD, h]

theorem frame_take_iff {f : List Nat} {T k : Nat} : frameP (f.take T) k = true ↔ frameP f k = true ∧ 17 + lenP f ≤ T := by
  have key : 17 ≤ T → 17 + lenP f ≤ T → frameP (f.take T) k = frameP f k := by
    intro h17 hT
    unfold frameP
    rw [summed_take (by omega), getD_take0 (by omega), take_drop_take f T 1 4 (by omega), lenP_take (by omega), List.drop_take, summed_take (by omega)]
  constructor
  · intro h
    have h1 := (frameP_len h).1
    rw [List.length_take] at h1
    have h17 : 17 ≤ T := by omega
    rw [lenP_take (by omega)] at h1
    exact ⟨by rw [← key h17 (by omega)]; exact h, by omega⟩
  · rintro ⟨h, hT⟩
    rw [key (by omega) hT]; exact h

theorem bodyP_take {f : List Nat} {T : Nat} (h : 17 + lenP f ≤ T) : bodyP (f.take T) = bodyP f := by
  unfold bodyP
  rw [lenP_take (by omega), take_drop_take f T 13 _ (by omega)]

theorem run_of_take {e : List Nat} {S : Nat} : ∀ {k pos : Nat} {bs : List (List Nat)}, runP (e.take S) k = some (pos, bs) → runP e k = some (pos, bs) ∧ pos ≤ S
  | 0, pos, bs, h => by
    simp only [runP, Option.some.injEq, Prod.mk.injEq] at h
    obtain ⟨rfl, rfl⟩ := h
    exact ⟨rfl, by omega⟩
  | k + 1, pos, bs, h => by
    obtain ⟨p, b, h1, h2⟩ := runP_back h
    obtain ⟨ih, hp⟩ := run_of_take h1
    have hst := runP_step h1 h2
    rw [h] at hst
    simp only [Option.some.injEq, Prod.mk.injEq] at hst
    rw [List.drop_take] at h2 hst
    obtain ⟨h3, h4⟩ := frame_take_iff.1 h2
    rw [lenP_take (by omega), bodyP_take h4] at hst
    have := runP_step ih h3
    rw [← hst.1, ← hst.2] at this
    exact ⟨this, by omega⟩

theorem run_to_take {e : List Nat} {S : Nat} : ∀ {k pos : Nat} {bs : List (List Nat)}, runP e k = some (pos, bs) → pos ≤ S → runP (e.take S) k = some (pos, bs)
  | 0, pos, bs, h, _ => by
    simp only [runP, Option.some.injEq, Prod.mk.injEq] at h ⊢
    exact h
  | k + 1, pos, bs, h, hS => by
    obtain ⟨p, b, h1, h2⟩ := runP_back h
    have hst := runP_step h1 h2
    rw [h] at hst
    simp only [Option.some.injEq, Prod.mk.injEq] at hst
    have ih := run_to_take (S := S) h1 (by omega)
    have h3 : frameP ((e.take S).drop p) k = true := by
      rw [List.drop_take]
      exact frame_take_iff.2 ⟨h2, by omega⟩
    have h4 := runP_step ih h3
    rw [List.drop_take, lenP_take (by omega), bodyP_take (by omega), ← hst.1, ← hst.2] at h4
    exact h4

theorem frame_nil (k : Nat) : frameP [] k = false := by
  unfold frameP
  have : summedP [] 9 = false := by unfold summedP; simp
  rw [this]
  rfl

theorem end_iff {e : List Nat} {S N : Nat} {bs : List (List Nat)} : EndP (e.take S) N S bs ↔ runP e N = some (S, bs) := by
  constructor
  · intro h
    exact (run_of_take h.1).1
  · intro h
    refine ⟨run_to_take h (Nat.le_refl _), ?_⟩
    rw [List.drop_eq_nil_of_le (by rw [List.length_take]; omega)]
    exact frame_nil N

theorem le8 {d : List Nat} (j : Nat) : le ((d.drop j).take 4) + 4294967296 * le ((d.drop (j + 4)).take 4) = le ((d.drop j).take 8) ∨ d.length < j + 8 := by
  by_cases h : d.length < j + 8
  · exact .inr h
  · refine .inl ?_
    have e : d.drop (j + 4) = (d.drop j).drop 4 := by rw [List.drop_drop]
    rw [e]
    have hl : 8 ≤ (d.drop j).length := by rw [List.length_drop]; omega
    match d.drop j, hl with
    | a :: b :: c :: x :: y :: z :: u :: v :: r, _ =>
      simp [le]
      omega

theorem magic_le {d : List Nat} (hd : ∀ x ∈ d, x < 256) (hl : 4 ≤ d.length) : (le (d.take 4) = 21649229) ↔ (d.take 4 = [77, 87, 74, 1]) := by
  match d, hl with
  | a :: b :: c :: x :: r, _ =>
    have ha := hd a (by simp)
    have hb := hd b (by simp)
    have hc := hd c (by simp)
    have hx := hd x (by simp)
    simp [le]
    omega
end Go.Proofs.YtngmleddlfkecaaDoor

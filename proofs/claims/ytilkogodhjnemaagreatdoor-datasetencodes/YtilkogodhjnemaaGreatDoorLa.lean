import Derived.Test.YtilkogodhjnemaaGreatDoorWA
/-
  DERIVED. How a list of nodes is gone through, level by level: plain functions.
-/
namespace Go.Proofs.YtilkogodhjnemaaGreatDoor
open Wk (Nd)

/-- Levels, the innermost first: how many are still wanted, the tag ahead. -/
abbrev Lv := Int × Int
def popL : List Lv → List Lv
  | [] => []
  | x :: r => if x.1 = 0 ∧ r ≠ [] then popL r else x :: r
def rightL (E I : Nd → Bool) (a : Nd) (st : List Lv) : Bool := if st.length % 2 = 0 then I a && decide (st.length / 2 ≤ 4) else E a && decide ((st.headD (0, 0)).2 < a.t)
def pushL (a : Nd) : List Lv → List Lv
  | [] => []
  | x :: r => if (r.length + 1) % 2 = 0 ∨ a.v = 18 then (a.n, 0) :: (x.1 - 1, a.t) :: r else (x.1 - 1, a.t) :: r
def stepL (a : Nd) (st : List Lv) : List Lv := popL (pushL a st)
def runL (E I : Nd → Bool) : Nat → List Lv → List Nd → Nat × Bool
  | i, st, [] => (i, decide (st.length ≤ 1))
  | i, st, a :: r => if i = 4096 ∨ rightL E I a st = false then (i, false) else runL E I (i + 1) (stepL a st) r

theorem popL_zero (z : Int) {r : List Lv} (h : r ≠ []) : popL ((0, z) :: r) = popL r := by
  rw [popL, if_pos ⟨rfl, h⟩]
theorem popL_some {x : Lv} (r : List Lv) (h : x.1 ≠ 0) : popL (x :: r) = x :: r := by
  rw [popL, if_neg (fun hh => h hh.1)]
theorem popL_one (x : Lv) : popL [x] = [x] := by
  rw [popL, if_neg (fun hh => hh.2 rfl)]
theorem popL_ne : ∀ {r : List Lv}, r ≠ [] → popL r ≠ []
  | [], h => absurd rfl h
  | x :: r, _ => by
    rw [popL]
    split
    · rename_i hh
      exact popL_ne hh.2
    · simp
theorem popL_len : ∀ (r : List Lv), (popL r).length ≤ r.length
  | [] => Nat.le_refl _
  | x :: r => by
    rw [popL]
    split
    · have := popL_len r
      simp; omega
    · exact Nat.le_refl _

/-- Past an element. -/
theorem run_elem {E I : Nd → Bool} {i : Nat} {c last : Int} {rest : List Lv} {a : Nd} {r : List Nd} (hl : rest.length % 2 = 0) (hc : rest = [] ∨ c ≠ 0) (hi : i ≠ 4096) (hE : E a = true) (ht : last < a.t) (hn : a.v = 18 ∨ a.n = 0) :
    runL E I i (popL ((c, last) :: rest)) (a :: r) = runL E I (i + 1) (popL ((a.n, 0) :: (c - 1, a.t) :: rest)) r := by
  have hp : popL ((c, last) :: rest) = (c, last) :: rest := by
    rcases hc with rfl | hc
    · exact popL_one _
    · exact popL_some _ hc
  rw [hp, runL, if_neg]
  · congr 1
    show popL (if (rest.length + 1) % 2 = 0 ∨ a.v = 18 then (a.n, 0) :: (c - 1, a.t) :: rest else (c - 1, a.t) :: rest) = _
    by_cases hv : a.v = 18
    · rw [if_pos (.inr hv)]
    · have hn0 := hn.resolve_left hv
      rw [if_neg (by rintro (h | h) <;> first | omega | exact hv h), hn0, popL_zero _ (by simp)]
  · rintro (h | h)
    · exact hi h
    · unfold rightL at h
      rw [if_neg (by simp; omega)] at h
      simp [hE] at h
      omega
theorem run_elem_no {E I : Nd → Bool} {i : Nat} {c last : Int} {rest : List Lv} {a : Nd} {r : List Nd} (hl : rest.length % 2 = 0) (hc : rest = [] ∨ c ≠ 0) (h : i = 4096 ∨ (E a && decide (last < a.t)) = false) :
    runL E I i (popL ((c, last) :: rest)) (a :: r) = (i, false) := by
  have hp : popL ((c, last) :: rest) = (c, last) :: rest := by
    rcases hc with rfl | hc
    · exact popL_one _
    · exact popL_some _ hc
  rw [hp, runL, if_pos]
  rcases h with h | h
  · exact .inl h
  · right
    unfold rightL
    rw [if_neg (by simp; omega)]
    exact h
/-- Past an item. -/
theorem run_item {E I : Nd → Bool} {i : Nat} {m z : Int} {rest : List Lv} {a : Nd} {r : List Nd} (hl : rest.length % 2 = 1) (hm : m ≠ 0) (hi : i ≠ 4096) (hI : I a = true) (hd : (rest.length + 1) / 2 ≤ 4) :
    runL E I i (popL ((m, z) :: rest)) (a :: r) = runL E I (i + 1) (popL ((a.n, 0) :: (m - 1, a.t) :: rest)) r := by
  rw [popL_some _ hm, runL, if_neg]
  · congr 1
    show popL (if (rest.length + 1) % 2 = 0 ∨ a.v = 18 then (a.n, 0) :: (m - 1, a.t) :: rest else (m - 1, a.t) :: rest) = _
    rw [if_pos (.inl (by omega))]
  · rintro (h | h)
    · exact hi h
    · unfold rightL at h
      rw [if_pos (by simp; omega)] at h
      simp [hI] at h
      omega
theorem run_item_no {E I : Nd → Bool} {i : Nat} {m z : Int} {rest : List Lv} {a : Nd} {r : List Nd} (hl : rest.length % 2 = 1) (hm : m ≠ 0) (h : i = 4096 ∨ (I a && decide ((rest.length + 1) / 2 ≤ 4)) = false) :
    runL E I i (popL ((m, z) :: rest)) (a :: r) = (i, false) := by
  rw [popL_some _ hm, runL, if_pos]
  rcases h with h | h
  · exact .inl h
  · right
    unfold rightL
    rw [if_pos (by simp; omega)]
    simpa using h
theorem run_end {E I : Nd → Bool} {i : Nat} {x : Lv} {rest : List Lv} (hc : rest = [] ∨ x.1 ≠ 0) : runL E I i (popL (x :: rest)) [] = (i, decide (rest = [])) := by
  have hp : popL (x :: rest) = x :: rest := by
    rcases hc with rfl | hc
    · exact popL_one _
    · exact popL_some _ hc
  rw [hp, runL]
  cases rest <;> simp

/-- What the document's reader of elements tells. -/
def SomeQ (E I : Nd → Bool) (L : List Nd) (i : Nat) (c : Int) (d : Nat) (j : Nat) (ok : Bool) : Prop :=
  i ≤ j ∧ j ≤ L.length ∧ j ≤ 4096 ∧ ∀ rest : List Lv, rest.length = 2 * d → (c < 0 → rest = []) → (0 ≤ c → rest ≠ []) →
    (ok = false → runL E I i (popL ((max c 0, 0) :: rest)) (L.drop i) = (j, false)) ∧
    (ok = true → (0 ≤ c → runL E I i (popL ((max c 0, 0) :: rest)) (L.drop i) = runL E I j (popL rest) (L.drop j)) ∧ (c < 0 → runL E I i (popL ((max c 0, 0) :: rest)) (L.drop i) = (j, true)))
/-- Between two elements. -/
def SomeI (E I : Nd → Bool) (L : List Nd) (i : Nat) (c : Int) (d : Nat) (k j : Nat) (last : Int) : Prop :=
  i ≤ j ∧ j ≤ L.length ∧ j ≤ 4096 ∧ i + k ≤ j ∧ (0 ≤ c → (k : Int) ≤ c) ∧ ∀ rest : List Lv, rest.length = 2 * d → (c < 0 → rest = []) → (0 ≤ c → rest ≠ []) →
    runL E I i (popL ((max c 0, 0) :: rest)) (L.drop i) = runL E I j (popL ((max c 0 - k, last) :: rest)) (L.drop j)
/-- Between two items: so many are left. -/
def SomeJ (E I : Nd → Bool) (L : List Nd) (i : Nat) (c : Int) (d : Nat) (k j : Nat) (tag : Int) (m : Int) : Prop :=
  i ≤ j ∧ j ≤ L.length ∧ j ≤ 4096 ∧ i + k + 1 ≤ j ∧ (0 ≤ c → (k : Int) < c) ∧ 0 ≤ m ∧ ∃ z : Int, ∀ rest : List Lv, rest.length = 2 * d → (c < 0 → rest = []) → (0 ≤ c → rest ≠ []) →
    runL E I i (popL ((max c 0, 0) :: rest)) (L.drop i) = runL E I j (popL ((m, z) :: (max c 0 - k - 1, tag) :: rest)) (L.drop j)

theorem SomeI.start (E I : Nd → Bool) (L : List Nd) (i : Nat) (c : Int) (d : Nat) (hi : i ≤ L.length) (h4 : i ≤ 4096) : SomeI E I L i c d 0 i 0 :=
  ⟨Nat.le_refl _, hi, h4, Nat.le_refl _, fun h => h, fun rest _ _ _ => by simp⟩
theorem left_ne {c : Int} {k : Nat} (hk : 0 ≤ c → (k : Int) ≤ c) (hne : (k : Int) ≠ c) {rest : List Lv} (h1 : c < 0 → rest = []) : rest = [] ∨ max c 0 - (k : Int) ≠ 0 := by
  by_cases h : c < 0
  · exact .inl (h1 h)
  · right
    have := hk (by omega)
    omega
/-- All elements are there. -/
theorem SomeI.done {E I : Nd → Bool} {L : List Nd} {i : Nat} {c : Int} {d k j : Nat} {last : Int} (h : SomeI E I L i c d k j last) (hk : (k : Int) = c) : SomeQ E I L i c d j true := by
  obtain ⟨h1, h2, h3, h4, h5, h6⟩ := h
  refine ⟨h1, h2, h3, fun rest r1 r2 r3 => ⟨fun h => (by cases h), fun _ => ⟨fun hc => ?_, fun hc => (by omega)⟩⟩⟩
  rw [h6 rest r1 r2 r3, show max c 0 - (k : Int) = 0 by omega, popL_zero _ (r3 hc)]
/-- The list is at its end. -/
theorem SomeI.ends {E I : Nd → Bool} {L : List Nd} {i : Nat} {c : Int} {d k j : Nat} {last : Int} (h : SomeI E I L i c d k j last) (hk : (k : Int) ≠ c) (hj : L.length ≤ j) : SomeQ E I L i c d j (decide (c < 0)) := by
  obtain ⟨h1, h2, h3, h4, h5, h6⟩ := h
  have hd : L.drop j = [] := List.drop_eq_nil_of_le hj
  refine ⟨h1, h2, h3, fun rest r1 r2 r3 => ⟨fun h => ?_, fun h => ⟨fun hc => ?_, fun hc => ?_⟩⟩⟩
  · have hc : 0 ≤ c := by simpa using h
    rw [h6 rest r1 r2 r3, hd, run_end (left_ne h5 hk r2)]
    simp [r3 hc]
  · simp at h; omega
  · rw [h6 rest r1 r2 r3, hd, run_end (left_ne h5 hk r2)]
    simp [r2 hc]
theorem drop_at {L : List Nd} {j : Nat} (h : j < L.length) : L.drop j = L[j] :: L.drop (j + 1) := List.drop_eq_getElem_cons h
/-- A node that may not stand there. -/
theorem SomeI.bad {E I : Nd → Bool} {L : List Nd} {i : Nat} {c : Int} {d k j : Nat} {last : Int} (h : SomeI E I L i c d k j last) (hk : (k : Int) ≠ c) (hj : j < L.length) (hb : 4096 ≤ j ∨ (E L[j] && decide (last < L[j].t)) = false) : SomeQ E I L i c d j false := by
  obtain ⟨h1, h2, h3, h4, h5, h6⟩ := h
  refine ⟨h1, h2, h3, fun rest r1 r2 r3 => ⟨fun _ => ?_, fun h => (by cases h)⟩⟩
  rw [h6 rest r1 r2 r3, drop_at hj]
  exact run_elem_no (by omega) (left_ne h5 hk r2) (hb.imp (fun h => by omega) id)
/-- A good one. -/
theorem SomeI.good {E I : Nd → Bool} {L : List Nd} {i : Nat} {c : Int} {d k j : Nat} {last : Int} (hE : ∀ a, E a = true → 0 ≤ a.n ∧ (a.v = 18 ∨ a.n = 0)) (h : SomeI E I L i c d k j last) (hk : (k : Int) ≠ c) (hj : j < L.length) (h4 : j < 4096) (hb : E L[j] = true) (ht : last < L[j].t) : SomeJ E I L i c d k (j + 1) L[j].t L[j].n := by
  obtain ⟨h1, h2, h3, h4', h5, h6⟩ := h
  refine ⟨by omega, by omega, by omega, by omega, fun hc => by have := h5 hc; omega, (hE _ hb).1, 0, fun rest r1 r2 r3 => ?_⟩
  rw [h6 rest r1 r2 r3, drop_at hj]
  exact run_elem (by omega) (left_ne h5 hk r2) (by omega) hb ht (hE _ hb).2
/-- All items are there. -/
theorem SomeJ.done {E I : Nd → Bool} {L : List Nd} {i : Nat} {c : Int} {d k j : Nat} {tag : Int} (h : SomeJ E I L i c d k j tag 0) : SomeI E I L i c d (k + 1) j tag := by
  obtain ⟨h1, h2, h3, h4, h5, -, z, h6⟩ := h
  refine ⟨h1, h2, h3, by omega, fun hc => by have := h5 hc; omega, fun rest r1 r2 r3 => ?_⟩
  rw [h6 rest r1 r2 r3, popL_zero _ (by simp), show max c 0 - (k : Int) - 1 = max c 0 - ((k + 1 : Nat) : Int) by omega]
/-- No item there, or a bad one. -/
theorem SomeJ.bad {E I : Nd → Bool} {L : List Nd} {i : Nat} {c : Int} {d k j : Nat} {tag m : Int} (h : SomeJ E I L i c d k j tag m) (hm : 0 < m) (hb : L.length ≤ j ∨ 4096 ≤ j ∨ ∃ hj : j < L.length, (I L[j] && decide (d + 1 ≤ 4)) = false) : SomeQ E I L i c d j false := by
  obtain ⟨h1, h2, h3, h4, h5, -, z, h6⟩ := h
  refine ⟨h1, h2, h3, fun rest r1 r2 r3 => ⟨fun _ => ?_, fun h => (by cases h)⟩⟩
  rw [h6 rest r1 r2 r3]
  by_cases hj : j < L.length
  · rw [drop_at hj]
    refine run_item_no (by simp; omega) (by omega) ?_
    rcases hb with hb | hb | ⟨_, hb⟩
    · omega
    · exact .inl (by omega)
    · right
      rw [show ((max c 0 - (k : Int) - 1, tag) :: rest).length + 1 = 2 * (d + 1) by simp; omega, Nat.mul_div_cancel_left _ (by decide)]
      exact hb
  · rw [List.drop_eq_nil_of_le (by omega), run_end (.inr (show m ≠ 0 by omega))]
    simp
/-- An item that is whole, or not. -/
theorem SomeJ.item {E I : Nd → Bool} {L : List Nd} {i : Nat} {c : Int} {d k j e : Nat} {tag m : Int} {ok : Bool} (hI : ∀ a, I a = true → 0 ≤ a.n) (h : SomeJ E I L i c d k j tag m) (hm : 0 < m) (hj : j < L.length) (h4 : j < 4096) (hb : I L[j] = true) (hd : d + 1 ≤ 4)
    (hq : SomeQ E I L (j + 1) L[j].n (d + 1) e ok) : (ok = false → SomeQ E I L i c d e false) ∧ (ok = true → SomeJ E I L i c d k e tag (m - 1)) := by
  obtain ⟨h1, h2, h3, h4', h5, -, z, h6⟩ := h
  obtain ⟨q1, q2, q3, q4⟩ := hq
  have hn := hI _ hb
  have key : ∀ rest : List Lv, rest.length = 2 * d → (c < 0 → rest = []) → (0 ≤ c → rest ≠ []) → runL E I i (popL ((max c 0, 0) :: rest)) (L.drop i) = runL E I (j + 1) (popL ((max L[j].n 0, 0) :: (m - 1, L[j].t) :: (max c 0 - k - 1, tag) :: rest)) (L.drop (j + 1)) := by
    intro rest r1 r2 r3
    rw [h6 rest r1 r2 r3, drop_at hj, run_item (by simp; omega) (by omega) (by omega) hb (by simp; omega)]
    rw [show max L[j].n 0 = L[j].n by omega]
  refine ⟨fun ho => ⟨by omega, q2, q3, fun rest r1 r2 r3 => ⟨fun _ => ?_, fun h => (by cases h)⟩⟩, fun ho => ⟨by omega, q2, q3, by omega, h5, by omega, L[j].t, fun rest r1 r2 r3 => ?_⟩⟩
  · rw [key rest r1 r2 r3]
    exact (q4 ((m - 1, L[j].t) :: (max c 0 - k - 1, tag) :: rest) (by simp; omega) (fun h => by omega) (fun _ => by simp)).1 ho
  · rw [key rest r1 r2 r3]
    exact ((q4 ((m - 1, L[j].t) :: (max c 0 - k - 1, tag) :: rest) (by simp; omega) (fun h => by omega) (fun _ => by simp)).2 ho).1 hn
/-- The whole list. -/
theorem SomeQ.whole {E I : Nd → Bool} {L : List Nd} {j : Nat} {ok : Bool} (h : SomeQ E I L 0 (-1) 0 j ok) : runL E I 0 [(0, 0)] L = (j, ok) := by
  have := h.2.2.2 [] rfl (fun _ => rfl) (fun h => by omega)
  rw [popL_one] at this
  cases ok with
  | false => exact this.1 rfl
  | true => exact (this.2 rfl).2 (by omega)
end Go.Proofs.YtilkogodhjnemaaGreatDoor

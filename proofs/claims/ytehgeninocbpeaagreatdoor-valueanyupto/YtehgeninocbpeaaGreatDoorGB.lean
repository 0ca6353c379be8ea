import Derived.Test.YtehgeninocbpeaaGreatDoorGA
/-
  DERIVED. Patterns with wildcards: what they fit, and why going back to the last star is enough.
-/
namespace Go.Proofs.YtehgeninocbpeaaGreatDoor.Gl
open Go Go.Proofs Go.RowKit

def gmStar (f : List Int → Bool) : List Int → Bool
  | [] => f []
  | x :: t => f (x :: t) || gmStar f t
def gmHead (c : Int) (f : List Int → Bool) : List Int → Bool
  | [] => false
  | x :: t => (decide (c = 63) || decide (c = x)) && f t
/-- Does a text fit a pattern? -/
def gm : List Int → List Int → Bool
  | [] => fun t => t.isEmpty
  | c :: p => fun t => if c = 42 then gmStar (gm p) t else gmHead c (gm p) t

theorem gmStar_true {f : List Int → Bool} : ∀ {t : List Int}, gmStar f t = true ↔ ∃ k, k ≤ t.length ∧ f (t.drop k) = true
  | [] => by
    rw [gmStar]
    constructor
    · intro h; exact ⟨0, by simp, by simpa using h⟩
    · rintro ⟨k, hk, h⟩; simpa using h
  | x :: t => by
    rw [gmStar, Bool.or_eq_true, gmStar_true]
    constructor
    · rintro (h | ⟨k, hk, h⟩)
      · exact ⟨0, by simp, by simpa using h⟩
      · exact ⟨k + 1, by simp; omega, by simpa using h⟩
    · rintro ⟨k, hk, h⟩
      cases k with
      | zero => exact .inl (by simpa using h)
      | succ k => exact .inr ⟨k, by simpa using hk, by simpa using h⟩

theorem gm_star (p t : List Int) : gm (42 :: p) t = gmStar (gm p) t := by simp only [gm, if_true]
theorem gm_nil (t : List Int) : gm [] t = t.isEmpty := rfl
theorem gm_none {c : Int} (h : c ≠ 42) (p : List Int) : gm (c :: p) [] = false := by simp only [gm, if_neg h, gmHead]
theorem gm_one {c : Int} (h : c ≠ 42) (p : List Int) (x : Int) (t : List Int) : gm (c :: p) (x :: t) = ((decide (c = 63) || decide (c = x)) && gm p t) := by simp only [gm, if_neg h, gmHead]

/-- A star takes more too. -/
theorem star_more {p t : List Int} {m k : Nat} (h : gm (42 :: p) (t.drop m) = true) (hk : k ≤ m) : gm (42 :: p) (t.drop k) = true := by
  rw [gm_star, gmStar_true] at h ⊢
  obtain ⟨j, hj, h⟩ := h
  rw [List.drop_drop] at h
  rw [List.length_drop] at hj
  rcases Nat.lt_or_ge t.length m with hm | hm
  · refine ⟨t.length - k, by rw [List.length_drop]; omega, ?_⟩
    rw [List.drop_drop, List.drop_eq_nil_of_le (by omega)]
    rw [List.drop_eq_nil_of_le (by omega)] at h
    exact h
  · refine ⟨m + j - k, by rw [List.length_drop]; omega, ?_⟩
    rw [List.drop_drop]
    have e : k + (m + j - k) = m + j := by omega
    rw [e]
    exact h

/-- What has no star takes one each. -/
theorem plain_takes : ∀ (Q X U : List Int), (∀ c ∈ Q, c ≠ 42) → gm (Q ++ X) U = true → Q.length ≤ U.length ∧ gm X (U.drop Q.length) = true
  | [], X, U, _, h => ⟨by simp, by simpa using h⟩
  | c :: Q, X, U, hq, h => by
    have hc : c ≠ 42 := hq c (by simp)
    cases U with
    | nil => rw [List.cons_append, gm_none hc] at h; cases h
    | cons x U =>
      rw [List.cons_append, gm_one hc, Bool.and_eq_true] at h
      have := plain_takes Q X U (fun d hd => hq d (by simp [hd])) h.2
      exact ⟨by simp; omega, by simpa using this.2⟩

theorem drop_cons {l : List Int} {i : Nat} {c : Int} (h : l[i]? = some c) : l.drop i = c :: l.drop (i + 1) := by
  obtain ⟨hi, rfl⟩ := List.getElem?_eq_some_iff.1 h
  exact List.drop_eq_getElem_cons hi

/-- Where the matching is: the pattern's place, the last star, the text's place that it goes on from, the text's place. -/
def Inv (P T : List Int) (R : Bool) (i : Nat) (star : Int) (fr j : Nat) : Prop :=
  i ≤ P.length ∧ fr ≤ j ∧ j ≤ T.length ∧
  ((star = -1 ∧ gm (P.drop i) (T.drop j) = R) ∨
   ∃ st : Nat, star = st ∧ P[st]? = some 42 ∧ st < i ∧ i - st - 1 = j - fr ∧ (∀ k, st < k → k < i → P[k]? ≠ some 42) ∧ gm (P.drop st) (T.drop fr) = R ∧ gm (P.drop (st + 1)) (T.drop fr) = gm (P.drop i) (T.drop j))

theorem inv_start (P T : List Int) : Inv P T (gm P T) 0 (-1) 0 0 := ⟨by omega, by omega, by omega, .inl ⟨rfl, by simp⟩⟩

/-- What stands between the last star and the place. -/
theorem between {P : List Int} {st i : Nat} (hi : i ≤ P.length) (hst : st < i) (hs : ∀ k, st < k → k < i → P[k]? ≠ some 42) :
    ∃ Q, P.drop (st + 1) = Q ++ P.drop i ∧ Q.length = i - st - 1 ∧ ∀ c ∈ Q, c ≠ 42 := by
  refine ⟨(P.drop (st + 1)).take (i - st - 1), ?_, ?_, ?_⟩
  · have e : P.drop i = (P.drop (st + 1)).drop (i - st - 1) := by rw [List.drop_drop]; congr 1; omega
    rw [e, List.take_append_drop]
  · rw [List.length_take, List.length_drop]; omega
  · rintro c hc rfl
    obtain ⟨n, hn, e⟩ := List.getElem_of_mem hc
    rw [List.length_take, List.length_drop] at hn
    rw [List.getElem_take, List.getElem_drop] at e
    refine hs (st + 1 + n) (by omega) (by omega) ?_
    rw [List.getElem?_eq_getElem (by omega), e]

/-- A star behind a star: the earlier one wins nothing any more. -/
theorem inv_now {P T : List Int} {R : Bool} {i : Nat} {star : Int} {fr j : Nat} (h : Inv P T R i star fr j) (h42 : P[i]? = some 42) : gm (P.drop i) (T.drop j) = R := by
  obtain ⟨hi, hf, hj, h | ⟨st, rfl, hs, hlt, hd, hno, hR, hE⟩⟩ := h
  · exact h.2
  · obtain ⟨Q, hQ, hl, hq⟩ := between hi hlt hno
    rw [drop_cons hs, gm_star] at hR
    cases R with
    | true =>
      rw [gmStar_true] at hR
      obtain ⟨k, hk, hR⟩ := hR
      rw [hQ] at hR
      obtain ⟨h1, h2⟩ := plain_takes Q _ _ hq hR
      rw [List.drop_drop, List.drop_drop] at h2
      rw [drop_cons h42] at h2 ⊢
      exact star_more h2 (by omega)
    | false =>
      cases h : gm (P.drop i) (T.drop j) with
      | false => rfl
      | true =>
        rw [h] at hE
        rw [← hR]
        exact (gmStar_true.2 ⟨0, by omega, by simpa using hE⟩).symm

theorem inv_star {P T : List Int} {R : Bool} {i : Nat} {star : Int} {fr j : Nat} (h : Inv P T R i star fr j) (h42 : P[i]? = some 42) : Inv P T R (i + 1) (i : Nat) j j :=
  ⟨(List.getElem?_eq_some_iff.1 h42).1, Nat.le_refl _, h.2.2.1, .inr ⟨i, rfl, h42, by omega, by omega, fun k h1 h2 => by omega, inv_now h h42, rfl⟩⟩

theorem inv_step {P T : List Int} {R : Bool} {i : Nat} {star : Int} {fr j : Nat} {c x : Int} (h : Inv P T R i star fr j) (hc : P[i]? = some c) (h42 : c ≠ 42) (hx : T[j]? = some x) (hm : c = 63 ∨ c = x) : Inv P T R (i + 1) star fr (j + 1) := by
  obtain ⟨hi, hf, hj, h⟩ := h
  have e : gm (P.drop i) (T.drop j) = gm (P.drop (i + 1)) (T.drop (j + 1)) := by
    rw [drop_cons hc, drop_cons hx, gm_one h42]
    have : (decide (c = 63) || decide (c = x)) = true := by simpa using hm
    rw [this, Bool.true_and]
  refine ⟨(List.getElem?_eq_some_iff.1 hc).1, by omega, (List.getElem?_eq_some_iff.1 hx).1, ?_⟩
  rcases h with h | ⟨st, rfl, hs, hlt, hd, hno, hR, hE⟩
  · exact .inl ⟨h.1, e ▸ h.2⟩
  · refine .inr ⟨st, rfl, hs, by omega, by omega, ?_, hR, hE.trans e⟩
    intro k h1 h2
    rcases Nat.lt_or_ge k i with h3 | h3
    · exact hno k h1 h3
    · obtain rfl : k = i := by omega
      rw [hc]
      intro h4
      exact h42 (Option.some.inj h4)

theorem miss {P T : List Int} {i j : Nat} {x : Int} (hx : T[j]? = some x) (h : i = P.length ∨ ∃ c, P[i]? = some c ∧ c ≠ 42 ∧ c ≠ 63 ∧ c ≠ x) : gm (P.drop i) (T.drop j) = false := by
  rw [drop_cons hx]
  rcases h with rfl | ⟨c, hc, h1, h2, h3⟩
  · rw [List.drop_length, gm_nil]; rfl
  · rw [drop_cons hc, gm_one h1]
    simp [h2, h3]

theorem inv_lost {P T : List Int} {R : Bool} {i fr j : Nat} (h : Inv P T R i (-1) fr j) (hm : gm (P.drop i) (T.drop j) = false) : R = false := by
  obtain ⟨hi, hf, hj, h | ⟨st, h, _⟩⟩ := h
  · rw [← h.2, hm]
  · omega

theorem inv_back {P T : List Int} {R : Bool} {i st fr j : Nat} (h : Inv P T R i (st : Nat) fr j) (hj : j < T.length) (hm : gm (P.drop i) (T.drop j) = false) : Inv P T R (st + 1) (st : Nat) (fr + 1) (fr + 1) := by
  obtain ⟨hi, hf, _, h | ⟨st', h, hs, hlt, hd, hno, hR, hE⟩⟩ := h
  · omega
  · obtain rfl : st = st' := by omega
    refine ⟨by omega, Nat.le_refl _, by omega, .inr ⟨st, rfl, hs, by omega, by omega, fun k h1 h2 => by omega, ?_, rfl⟩⟩
    have hx : T.drop fr = T[fr] :: T.drop (fr + 1) := List.drop_eq_getElem_cons (by omega)
    rw [← hR, drop_cons hs, gm_star, gm_star, hx, gmStar, ← hx, hE, hm, Bool.false_or]

theorem gm_end : ∀ X : List Int, gm X [] = X.all (fun c => decide (c = 42))
  | [] => rfl
  | c :: X => by
    by_cases h : c = 42
    · subst h; rw [gm_star, gmStar, gm_end X]; simp
    · rw [gm_none h]; simp [h]

theorem inv_end {P T : List Int} {R : Bool} {i : Nat} {star : Int} {fr j : Nat} (h : Inv P T R i star fr j) (hj : j = T.length) : R = (P.drop i).all (fun c => decide (c = 42)) := by
  obtain ⟨hi, hf, _, h | ⟨st, rfl, hs, hlt, hd, hno, hR, hE⟩⟩ := h
  · rw [← h.2, hj, List.drop_length, gm_end]
  · obtain ⟨Q, hQ, hl, hq⟩ := between hi hlt hno
    rw [hj, List.drop_length] at hE
    rw [← gm_end, ← hE]
    rw [drop_cons hs, gm_star] at hR
    cases h : gm (P.drop (st + 1)) (T.drop fr) with
    | true => rw [← hR]; exact gmStar_true.2 ⟨0, by omega, by simpa using h⟩
    | false =>
      cases R with
      | false => rfl
      | true =>
        rw [gmStar_true] at hR
        obtain ⟨k, hk, hR⟩ := hR
        have hR' := hR
        rw [hQ] at hR'
        obtain ⟨h1, _⟩ := plain_takes Q _ _ hq hR'
        rw [List.length_drop, List.length_drop] at h1
        rw [List.length_drop] at hk
        obtain rfl : k = 0 := by omega
        rw [List.drop_zero, h] at hR
        cases hR

end Go.Proofs.YtehgeninocbpeaaGreatDoor.Gl

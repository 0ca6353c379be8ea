import Derived.Test.YtlmkbfnmnbmakaaGreatDoorTR
/-
  DERIVED. A tag, looked up in two ways: plain functions.
-/
namespace Go.Proofs.YtlmkbfnmnbmakaaGreatDoor.Tb

/-- The last tag of a part. -/
def lastOf : Nat → Nat
  | 0 => 524287
  | 1 => 528383
  | 2 => 1048575
  | 3 => 1572863
  | 4 => 3276799
  | 5 => 4194303
  | 6 => 4194880
  | 7 => 4198399
  | 8 => 7340031
  | _ => 4294967295
def hit (t : Nat) (r : Row) : Bool := decide (t &&& maskN r.t = r.t)
/-- A tag lies in a part. -/
def InPart (t k : Nat) : Prop := k < 10 ∧ t ≤ lastOf k ∧ (∀ j, j < k → lastOf j < t)
def docF (t : Nat) : List Row → Option Row
  | [] => none
  | r :: rs => if hit t r then some r else if t < r.t then none else docF t rs
theorem hit_le {t : Nat} {r : Row} (h : hit t r = true) : r.t ≤ t := by
  have h1 : t &&& maskN r.t = r.t := by simpa [hit] using h
  rw [← h1]
  exact Nat.and_le_left
theorem hit_eq {t : Nat} {r : Row} (h : hit t r = true) (ht : t < 4294967296) (hm : r.t / 65536 ≠ 24576) : r.t = t := by
  have h1 : t &&& maskN r.t = r.t := by simpa [hit] using h
  rw [← h1]
  unfold maskN
  rw [if_neg hm, show (4294967295 : Nat) = 2 ^ 32 - 1 from rfl, Nat.and_two_pow_sub_one_eq_mod]
  exact Nat.mod_eq_of_lt (by simpa using ht)
theorem docF_find (t : Nat) : ∀ L : List Row, L.Pairwise (fun a b => a.t < b.t) → docF t L = L.find? (hit t)
  | [], _ => rfl
  | r :: rs, h => by
    rw [List.pairwise_cons] at h
    rw [docF, List.find?_cons]
    cases hr : hit t r with
    | true => rfl
    | false =>
      simp only [Bool.false_eq_true, if_false]
      by_cases hlt : t < r.t
      · rw [if_pos hlt]
        symm
        rw [List.find?_eq_none]
        intro x hx hh
        have := hit_le hh
        have := h.1 x hx
        omega
      · rw [if_neg hlt]
        exact docF_find t rs h.2
theorem rises : (upTo 10).Pairwise (fun a b => a.t < b.t) := by decide +kernel
def lowOf : Nat → Nat
  | 0 => 0
  | k + 1 => lastOf k + 1
theorem bounds_all : ∀ j : Fin 10, (partRows j.val).all (fun r => decide (lowOf j.val ≤ r.t) && decide (r.t ≤ lastOf j.val) && (decide (j.val = 9) || decide (r.t / 65536 ≠ 24576))) = true := by decide +kernel
theorem low_last : ∀ j k : Fin 10, j.val < k.val → lastOf j.val < lowOf k.val := by decide
theorem no_other {t k j : Nat} (ht : t < 4294967296) (hk : InPart t k) (hj : j < 10) (hne : j ≠ k) : (partRows j).find? (hit t) = none := by
  obtain ⟨k1, k2, k3⟩ := hk
  have hb := bounds_all ⟨j, hj⟩
  rw [List.find?_eq_none]
  intro r hr hh
  have h1 := List.all_eq_true.1 hb r hr
  simp only [Bool.and_eq_true, Bool.or_eq_true, decide_eq_true_eq] at h1
  obtain ⟨⟨h2, h3⟩, h4⟩ := h1
  have hle := hit_le hh
  by_cases h9 : j = 9
  · have h5 := low_last ⟨k, k1⟩ ⟨j, hj⟩ (by simp only; omega)
    simp only at h5
    omega
  · have he := hit_eq hh ht (h4.resolve_left h9)
    rcases Nat.lt_or_gt_of_ne hne with h | h
    · have := k3 j h
      omega
    · have h5 := low_last ⟨k, k1⟩ ⟨j, hj⟩ h
      simp only at h5
      omega
theorem find_upTo {t k : Nat} (ht : t < 4294967296) (hk : InPart t k) : ∀ n, n ≤ 10 → (upTo n).find? (hit t) = if k < n then (partRows k).find? (hit t) else none
  | 0, _ => by simp [upTo]
  | n + 1, hn => by
    rw [upTo_succ, List.find?_append, find_upTo ht hk n (by omega)]
    by_cases h1 : k < n
    · rw [if_pos h1, if_pos (by omega), no_other (j := n) ht hk (by omega) (by omega)]
      cases (partRows k).find? (hit t) <;> rfl
    · rw [if_neg h1]
      by_cases h2 : k = n
      · subst h2
        rw [if_pos (by omega)]
        rfl
      · rw [if_neg (by omega), no_other (j := n) ht hk (by omega) (by omega)]
        rfl
/-- Both ways to look a tag up find the same. -/
theorem find_both {t k : Nat} (ht : t < 4294967296) (hk : InPart t k) : docF t (upTo 10) = (partRows k).find? (hit t) := by
  rw [docF_find t _ rises, find_upTo ht hk 10 (Nat.le_refl _), if_pos hk.1]
end Go.Proofs.YtlmkbfnmnbmakaaGreatDoor.Tb

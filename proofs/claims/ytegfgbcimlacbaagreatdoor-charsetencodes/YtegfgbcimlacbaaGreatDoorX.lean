
import Derived.Test.YtegfgbcimlacbaaGreatDoorU
/-
  DERIVED. What the terms of a set are; the law of New and Terms.
-/
namespace Go.Proofs.YtegfgbcimlacbaaGreatDoor
open Go Go.Proofs Go.RowKit

def Good (x : Bool) (N : List (Nat × ByteArray)) : Prop := ∀ r ∈ N, r.1 < 7 ∧ r.2 = wri x r.1

theorem wri_f : ∀ k : Fin 7, wri false k.val = sp (3 * k.val) := by decide +kernel
theorem wri_t : ∀ k : Fin 6, wri true k.val = sp (3 * k.val + 1) := by decide +kernel

theorem wri_of {t : ByteArray} {k : Nat} {y : Bool} (h : nmd t 7 0 = some (k, y)) : k < 7 ∧ t = wri y k := by
  have hk := nmd_lt 7 0 t k y h
  obtain ⟨h1, h2⟩ := nmd_is 7 0 t k y h
  refine ⟨by omega, ?_⟩
  cases y with
  | false =>
    simp only [Bool.false_eq_true, if_false] at h1
    rw [h1]
    exact (wri_f ⟨k, by omega⟩).symm
  | true =>
    simp only [if_true] at h1
    have h6 : k ≠ 6 := by
      rintro rfl
      have := h2 rfl
      rw [sp_list] at this
      simp [spL] at this
    rw [h1]
    exact (wri_t ⟨k, by omega⟩).symm

theorem Good.snoc {x : Bool} {N : List (Nat × ByteArray)} (h : Good x N) {k : Nat} {t : ByteArray} (hk : nmd t 7 0 = some (k, x)) : Good x (N ++ [(k, t)]) := by
  intro r hr
  rw [List.mem_append, List.mem_singleton] at hr
  rcases hr with hr | rfl
  · exact h r hr
  · exact wri_of hk

theorem newL_len : ∀ (T : List ByteArray) (cnt i : Nat) (N : List (Nat × ByteArray)) (x : Bool) (N' : List (Nat × ByteArray)) (x' : Bool), newL cnt T i N x = .inr (N', x') → N'.length = N.length + T.length
  | [], _, _, _, _, _, _, h => by simp [newL] at h; simp [h.1]
  | s :: T, cnt, i, N, x, N', x', h => by
    rw [newL] at h
    split at h
    · simp at h
    · split at h
      · simp at h
      · split at h
        · simp at h
        · have := newL_len T cnt (i + 1) _ _ N' x' h
          simp at this
          simp
          omega

theorem newL_many (cnt : Nat) (hc : 1 < cnt) : ∀ (T : List ByteArray) (i : Nat) (N : List (Nat × ByteArray)) (x : Bool) (N' : List (Nat × ByteArray)) (x' : Bool), Good true N → (T = [] → x = true) → newL cnt T i N x = .inr (N', x') → x' = true ∧ Good true N'
  | [], _, N, x, N', x', hG, hx, h => by
    simp [newL] at h
    obtain ⟨rfl, rfl⟩ := h
    exact ⟨hx rfl, hG⟩
  | s :: T, i, N, x, N', x', hG, hx, h => by
    rw [newL] at h
    split at h
    · simp at h
    · rename_i k y hk
      split at h
      · simp at h
      · rename_i hy
        have hy1 : y = true := by
          cases y with
          | true => rfl
          | false => simp [hc] at hy
        subst hy1
        split at h
        · simp at h
        · exact newL_many cnt hc T (i + 1) _ true N' x' (hG.snoc hk) (fun _ => rfl) h

theorem newS_good {T : List ByteArray} {N : List (Nat × ByteArray)} {x : Bool} (h : newS T = .inr (N, x)) : Good x N ∧ 0 < N.length ∧ N.length ≤ 6 := by
  unfold newS at h
  split at h
  · simp at h
  · rename_i h6
    split at h
    · simp at h
      obtain ⟨rfl, rfl⟩ := h
      refine ⟨fun r hr => ?_, by decide, by decide⟩
      simp at hr
      subst hr
      exact ⟨by decide, (wri_of nmd_zero).2⟩
    · rename_i h0
      have hl := newL_len T T.length 0 [] false N x h
      simp at hl
      refine ⟨?_, by omega, by omega⟩
      by_cases h1 : 1 < T.length
      · have hT : T ≠ [] := fun e => by rw [e] at h1; simp at h1
        have := newL_many T.length h1 T 0 [] false N x (fun r hr => by simp at hr) (fun e => absurd e hT) h
        obtain ⟨rfl, hG⟩ := this
        exact hG
      · obtain ⟨s, rfl⟩ : ∃ s, T = [s] := by
          match T, h0, h1 with
          | [s], _, _ => exact ⟨s, rfl⟩
          | [], h0, _ => exact absurd rfl h0
          | _ :: _ :: _, _, h1 => simp at h1
        rw [newL] at h
        split at h
        · simp at h
        · rename_i k y hk
          split at h
          · simp at h
          · split at h
            · simp at h
            · simp [newL] at h
              obtain ⟨rfl, rfl⟩ := h
              intro r hr
              simp at hr
              subst hr
              exact wri_of hk

theorem good_terms {x : Bool} {N : List (Nat × ByteArray)} (h : Good x N) : rterms N x = N.map (·.2) := by
  unfold rterms
  refine List.map_congr_left fun r hr => ?_
  exact (h r hr).2.symm
theorem names_terms (R : List Row) : termsOf R = (namesOf R).map (·.2) := by unfold termsOf namesOf; simp
theorem names_len (R : List Row) : (namesOf R).length = R.length := by unfold namesOf; simp

/-- What is written over, read. -/
theorem row_set {A B : List ByteArray} {x y : ByteArray} {i : Nat} (h : A.length = i) : (strsC (A ++ x :: B)).set i (.string y) = strsC (A ++ y :: B) := by
  subst h
  unfold strsC
  rw [List.map_append, List.map_append, List.set_append_right _ _ (by simp)]
  simp

theorem own_form {w : World} {base : Nat} {e : TypeId} {v : Value} {n : Nat} {xs : List Value} (h : w.ownsRow base e 1 v n xs) (hn : 0 < n) : ∃ g cap, v = .slice (some ⟨g, 0, none⟩) n cap ∧ base ≤ g ∧ g < w.heap.size := h.form hn

/-- What holds ahead of each round in which the lent terms are turned round. -/
def RevInv (w : World) (Hb G n : Nat) (T : List ByteArray) (u y : Value) (wr : World) : Prop :=
  ∃ i : Nat, y = .int .i64 (i : Int) ∧ i ≤ n ∧ Below w.heap.size w wr ∧ Hb ≤ wr.heap.size ∧ wr.ownsRow G 9 1 (.slice (some ⟨G, 0, none⟩) (n + 1) (n + 1)) (n + 1) (strsC (T.reverse.take i ++ (T.drop i ++ [⟨#[109, 97, 114, 107]⟩]))) ∧ wr.ownsRow Hb 9 1 u i (strsC (T.reverse.take i))

end Go.Proofs.YtegfgbcimlacbaaGreatDoor

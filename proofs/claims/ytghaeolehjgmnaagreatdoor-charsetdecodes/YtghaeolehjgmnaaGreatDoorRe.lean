import Derived.Test.YtghaeolehjgmnaaGreatDoorRd
/-
  DERIVED. What the sets are that New gives.
-/
namespace Go.Proofs.YtghaeolehjgmnaaGreatDoor
open Go Go.Proofs Go.RowKit

def Good (_ : Bool) (N : List (Nat × ByteArray)) : Prop := ∀ r ∈ N, r.1 < 7
theorem nmd_seven {t : ByteArray} {k : Nat} {y : Bool} (h : nmd t 7 0 = some (k, y)) : k < 7 := by
  have := nmd_lt 7 0 t k y h
  omega

theorem Good.snoc {x : Bool} {N : List (Nat × ByteArray)} (h : Good x N) {k : Nat} {t : ByteArray} (hk : nmd t 7 0 = some (k, x)) : Good x (N ++ [(k, t)]) := by
  intro r hr
  rw [List.mem_append, List.mem_singleton] at hr
  rcases hr with hr | rfl
  · exact h r hr
  · exact nmd_seven hk

theorem newL_len : ∀ (T : List ByteArray) (cnt i : Nat) (N : List (Nat × ByteArray)) (x : Bool) (N' : List (Nat × ByteArray)) (x' : Bool), newL cnt T i N x = .inr (N', x') → N'.length = N.length + T.length
  | [], _, _, _, _, _, _, h => by simp [newL] at h; simp [h.1]
  | s :: T, cnt, i, N, x, N', x', h => by
    rw [newL] at h
    split at h
    · simp at h
    · split at h
      · simp at h
      · split at h
        · simp at h
        · have := newL_len T cnt (i + 1) _ _ N' x' h
          simp at this
          simp
          omega

theorem newL_many (cnt : Nat) (hc : 1 < cnt) : ∀ (T : List ByteArray) (i : Nat) (N : List (Nat × ByteArray)) (x : Bool) (N' : List (Nat × ByteArray)) (x' : Bool), Good true N → (T = [] → x = true) → newL cnt T i N x = .inr (N', x') → x' = true ∧ Good true N'
  | [], _, N, x, N', x', hG, hx, h => by
    simp [newL] at h
    obtain ⟨rfl, rfl⟩ := h
    exact ⟨hx rfl, hG⟩
  | s :: T, i, N, x, N', x', hG, hx, h => by
    rw [newL] at h
    split at h
    · simp at h
    · rename_i k y hk
      split at h
      · simp at h
      · rename_i hy
        have hy1 : y = true := by
          cases y with
          | true => rfl
          | false => simp [hc] at hy
        subst hy1
        split at h
        · simp at h
        · exact newL_many cnt hc T (i + 1) _ true N' x' (hG.snoc hk) (fun _ => rfl) h

theorem newS_good {T : List ByteArray} {N : List (Nat × ByteArray)} {x : Bool} (h : newS T = .inr (N, x)) : Good x N ∧ 0 < N.length ∧ N.length ≤ 6 := by
  unfold newS at h
  split at h
  · simp at h
  · rename_i h6
    split at h
    · simp at h
      obtain ⟨rfl, rfl⟩ := h
      refine ⟨fun r hr => ?_, by decide, by decide⟩
      simp at hr
      subst hr
      decide
    · rename_i h0
      have hl := newL_len T T.length 0 [] false N x h
      simp at hl
      refine ⟨?_, by omega, by omega⟩
      by_cases h1 : 1 < T.length
      · have hT : T ≠ [] := fun e => by rw [e] at h1; simp at h1
        have := newL_many T.length h1 T 0 [] false N x (fun r hr => by simp at hr) (fun e => absurd e hT) h
        obtain ⟨rfl, hG⟩ := this
        exact hG
      · obtain ⟨s, rfl⟩ : ∃ s, T = [s] := by
          match T, h0, h1 with
          | [s], _, _ => exact ⟨s, rfl⟩
          | [], h0, _ => exact absurd rfl h0
          | _ :: _ :: _, _, h1 => simp at h1
        rw [newL] at h
        split at h
        · simp at h
        · rename_i k y hk
          split at h
          · simp at h
          · split at h
            · simp at h
            · simp [newL] at h
              obtain ⟨rfl, rfl⟩ := h
              intro r hr
              simp at hr
              subst hr
              exact nmd_seven hk

theorem names_len (R : List Row) : (namesOf R).length = R.length := by unfold namesOf; simp
theorem newL_nodup : ∀ (T : List ByteArray) (cnt i : Nat) (N : List (Nat × ByteArray)) (x : Bool) (N' : List (Nat × ByteArray)) (x' : Bool), (N.map (·.1)).Nodup → newL cnt T i N x = .inr (N', x') → (N'.map (·.1)).Nodup
  | [], _, _, _, _, _, _, hN, h => by simp [newL] at h; rw [← h.1]; exact hN
  | s :: T, cnt, i, N, x, N', x', hN, h => by
    rw [newL] at h
    split at h
    · simp at h
    · rename_i k y hk
      split at h
      · simp at h
      · split at h
        · simp at h
        · rename_i hany
          refine newL_nodup T cnt (i + 1) _ _ N' x' ?_ h
          rw [List.map_append, List.nodup_append]
          refine ⟨hN, by simp, ?_⟩
          intro a ha b hb e
          simp at hb
          subst hb
          subst e
          rw [List.mem_map] at ha
          obtain ⟨r, hr, hr2⟩ := ha
          exact hany (List.any_eq_true.2 ⟨r, hr, by simp [hr2]⟩)

theorem newL_six (cnt : Nat) (hc : 1 < cnt) : ∀ (T : List ByteArray) (i : Nat) (N : List (Nat × ByteArray)) (x : Bool) (N' : List (Nat × ByteArray)) (x' : Bool), (∀ r ∈ N, r.1 ≠ 6) → newL cnt T i N x = .inr (N', x') → ∀ r ∈ N', r.1 ≠ 6
  | [], _, _, _, _, _, hN, h => by simp [newL] at h; rw [← h.1]; exact hN
  | s :: T, i, N, x, N', x', hN, h => by
    rw [newL] at h
    split at h
    · simp at h
    · rename_i k y hk
      split at h
      · simp at h
      · rename_i hy
        have hy1 : y = true := by
          cases y with
          | true => rfl
          | false => simp [hc] at hy
        subst hy1
        split at h
        · simp at h
        · refine newL_six cnt hc T (i + 1) _ true N' x' (fun r hr => ?_) h
          rw [List.mem_append, List.mem_singleton] at hr
          rcases hr with hr | rfl
          · exact hN r hr
          · rintro rfl
            have := (nmd_is 7 0 _ _ _ hk).2 rfl
            rw [sp_list] at this
            simp [spL] at this

theorem newS_apart {T : List ByteArray} {N : List (Nat × ByteArray)} {x : Bool} (h : newS T = .inr (N, x)) : (N.map (·.1)).Nodup ∧ (N.length = 1 ∨ ∀ r ∈ N, r.1 ≠ 6) := by
  unfold newS at h
  split at h
  · simp at h
  · split at h
    · simp at h
      obtain ⟨rfl, rfl⟩ := h
      exact ⟨by simp, .inl rfl⟩
    · rename_i h0
      refine ⟨newL_nodup T _ _ _ _ _ _ (by simp) h, ?_⟩
      by_cases h1 : 1 < T.length
      · exact .inr (newL_six _ h1 T 0 [] false N x (by simp) h)
      · have hl := newL_len T T.length 0 [] false N x h
        simp at hl
        exact .inl (by omega)

theorem mfN_inj : ∀ a b : Fin 6, mfN a.val = mfN b.val → a = b := by decide

/-- A set that New gave, ready to be asked. -/
theorem SetAt.ask {w : World} {q : Nat} {v : Value} {R : List Row} {x : Bool} (h : SetAt w q v R x) (h7 : ∀ r ∈ R, r.1 < 7) (hn : ((namesOf R).map (·.1)).Nodup) (h6 : R.length = 1 ∨ ∀ r ∈ R, r.1 ≠ 6) : SetIn w q v R x := by
  refine ⟨h.c0, h.own, fun r hr => ⟨.inl (h.fresh r hr).1, (h.fresh r hr).2⟩, fun i j a b ha hb hij e => ?_⟩
  have hma := List.mem_of_getElem? ha
  have hmb := List.mem_of_getElem? hb
  rcases h6 with h1 | h6
  · have := (List.getElem?_eq_some_iff.1 ha).1
    have := (List.getElem?_eq_some_iff.1 hb).1
    omega
  · have e2 := mfN_inj ⟨a.1, by have := h7 a hma; have := h6 a hma; omega⟩ ⟨b.1, by have := h7 b hmb; have := h6 b hmb; omega⟩ e
    simp only [Fin.mk.injEq] at e2
    have hm : (namesOf R).map (·.1) = R.map (·.1) := by unfold namesOf; simp
    rw [hm] at hn
    have hi : (R.map (·.1))[i]? = some a.1 := by rw [List.getElem?_map, ha]; rfl
    have hj : (R.map (·.1))[j]? = some b.1 := by rw [List.getElem?_map, hb]; rfl
    have hil := (List.getElem?_eq_some_iff.1 hi)
    have hjl := (List.getElem?_eq_some_iff.1 hj)
    obtain ⟨l1, g1⟩ := hil
    obtain ⟨l2, g2⟩ := hjl
    have hp := List.pairwise_iff_getElem.1 hn
    rcases Nat.lt_or_ge i j with hlt | hge
    · exact hp i j l1 l2 hlt (g1.trans (e2.trans g2.symm))
    · exact hp j i l2 l1 (by omega) (g2.trans (e2.symm.trans g1.symm))


theorem ext_six {t : ByteArray} {k : Nat} (h : nmd t 7 0 = some (k, true)) : k ≠ 6 := by
  rintro rfl
  have := (nmd_is 7 0 _ _ _ h).2 rfl
  rw [sp_list] at this
  simp [spL] at this
/-- With code extensions no repertoire is the seventh. -/
theorem newS_ext {T : List ByteArray} {N : List (Nat × ByteArray)} (h : newS T = .inr (N, true)) : ∀ r ∈ N, r.1 ≠ 6 := by
  unfold newS at h
  split at h
  · simp at h
  · split at h
    · simp at h
    · rename_i h0
      by_cases h1 : 1 < T.length
      · exact newL_six _ h1 T 0 [] false N true (by simp) h
      · obtain ⟨s, rfl⟩ : ∃ s, T = [s] := by
          match T, h0, h1 with
          | [s], _, _ => exact ⟨s, rfl⟩
          | [], h0, _ => exact absurd rfl h0
          | _ :: _ :: _, _, h1 => simp at h1
        rw [newL] at h
        split at h
        · simp at h
        · rename_i k y hk
          split at h
          · simp at h
          · split at h
            · simp at h
            · simp [newL] at h
              obtain ⟨rfl, rfl⟩ := h
              intro r hr
              simp at hr
              subst hr
              exact ext_six hk
end Go.Proofs.YtghaeolehjgmnaaGreatDoor

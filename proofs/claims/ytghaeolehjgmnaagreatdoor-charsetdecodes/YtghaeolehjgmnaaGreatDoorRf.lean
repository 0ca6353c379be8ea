import Derived.Test.YtghaeolehjgmnaaGreatDoorRe
/-
  DERIVED. Escapes and single runes: the program and the document say the same.
-/
namespace Go.Proofs.YtghaeolehjgmnaaGreatDoor
open Go Go.Proofs Go.RowKit

theorem esc_size : ∀ k : Fin 6, (sp (3 * k.val + 2)).size = 3 := by decide +kernel
theorem esc_list : ∀ k : Fin 6, (sp (3 * k.val + 2)).toList = if k.val = 0 then [27, 40, 66] else [27, 45, UInt8.ofNat (finN k.val)] := by decide +kernel

theorem pre_short {T : ByteArray} (hT : T.size < 3) (k : Nat) (hk : k < 6) : pre T (sp (3 * k + 2)) = false := by
  unfold pre
  have := esc_size ⟨k, hk⟩
  simp only at this
  rw [this]
  simp; omega

theorem list_at {T : ByteArray} {i : Nat} (h : i < T.size) : T.toList[i]? = some (T[i]'h) := by
  rw [ByteArray.toList_eq]
  rw [Array.getElem?_toList]
  exact Array.getElem?_eq_getElem h
theorem list_len (T : ByteArray) : T.toList.length = T.size := by rw [ByteArray.toList_eq]; rfl
theorem first3 {T : ByteArray} (h3 : 3 ≤ T.size) : (T.extract 0 3).toList = [T[0]'(by omega), T[1]'(by omega), T[2]'(by omega)] := by
  have hs : (T.extract 0 3).size = 3 := by simp; omega
  apply List.ext_getElem?
  intro i
  by_cases hi : i < 3
  · rw [list_at (by omega)]
    rcases (show i = 0 ∨ i = 1 ∨ i = 2 by omega) with rfl | rfl | rfl
    · simp [ByteArray.getElem_extract]
    · simp [ByteArray.getElem_extract]
    · simp [ByteArray.getElem_extract]
  · rw [List.getElem?_eq_none (by rw [list_len]; omega), List.getElem?_eq_none (by simp; omega)]

theorem u8_beq (a : UInt8) (n : Nat) (hn : n < 256) : (a == UInt8.ofNat n) = (a.toNat == n) := by
  by_cases h : a.toNat = n
  · rw [beq_iff_eq.2 h, beq_iff_eq]
    exact UInt8.toNat_inj.1 (by rw [UInt8.toNat_ofNat', h]; omega)
  · rw [beq_eq_false_iff_ne.2 h, beq_eq_false_iff_ne]
    intro e
    apply h
    rw [e, UInt8.toNat_ofNat']
    omega
theorem finN_lt : ∀ k : Fin 7, finN k.val < 256 := by decide

theorem pre_long {T : ByteArray} (h3 : 3 ≤ T.size) (h0 : (T[0]'(by omega)).toNat = 27) (k : Nat) (hk : k < 6) :
    pre T (sp (3 * k + 2)) = if k = 0 then ((T[1]'(by omega)).toNat == 40 && (T[2]'(by omega)).toNat == 66) else ((T[1]'(by omega)).toNat == 45 && (T[2]'(by omega)).toNat == finN k) := by
  unfold pre
  have e1 := esc_size ⟨k, hk⟩
  have e2 := esc_list ⟨k, hk⟩
  simp only at e1 e2
  rw [e1, e2, first3 h3]
  have e0 : (T[0]'(by omega)) = 27 := UInt8.toNat_inj.1 (by rw [h0]; rfl)
  rw [e0]
  have d : decide (3 ≤ T.size) = true := by simpa using h3
  rw [d, Bool.true_and]
  by_cases hk0 : k = 0
  · rw [if_pos hk0, if_pos hk0]
    have q1 := u8_beq (T[1]'(by omega)) 40 (by omega)
    have q2 := u8_beq (T[2]'(by omega)) 66 (by omega)
    rw [← q1, ← q2]
    simp [List.cons_beq_cons]
  · rw [if_neg hk0, if_neg hk0]
    have q1 := u8_beq (T[1]'(by omega)) 45 (by omega)
    have q2 := u8_beq (T[2]'(by omega)) (finN k) (finN_lt ⟨k, by omega⟩)
    rw [← q1, ← q2]
    simp [List.cons_beq_cons]

theorem turn_short {T : ByteArray} (hT : T.size < 3) (R : List Row) (hR : ∀ r ∈ R, r.1 < 6) (h : Row) : turnS T R h = (h, false) := by
  unfold turnS
  rw [if_neg (by rw [show (2 : Nat) = 3 * 0 + 2 from rfl, pre_short hT 0 (by omega)]; decide)]
  have : escL T R = none := by
    induction R with
    | nil => rfl
    | cons a R ih =>
      rw [escL, if_neg (by rw [pre_short hT a.1 (hR a (by simp))]; decide)]
      exact ih (fun r hr => hR r (by simp [hr]))
  rw [this]

theorem escL_find {T : ByteArray} (h3 : 3 ≤ T.size) (h0 : (T[0]'(by omega)).toNat = 27) (hn : ((T[1]'(by omega)).toNat == 40 && (T[2]'(by omega)).toNat == 66) = false) : ∀ (R : List Row), (∀ r ∈ R, r.1 < 6) →
    (escL T R = none ∧ (namesOf R).find? (hitE2 (T[1]'(by omega)).toNat (T[2]'(by omega)).toNat) = none) ∨ ∃ r ∈ R, escL T R = some r ∧ r.1 ≠ 0 ∧ (namesOf R).find? (hitE2 (T[1]'(by omega)).toNat (T[2]'(by omega)).toNat) = some (r.1, r.2.1)
  | [], _ => .inl ⟨rfl, rfl⟩
  | a :: R, hR => by
    have hp := pre_long h3 h0 a.1 (hR a (by simp))
    have ih := escL_find h3 h0 hn R (fun r hr => hR r (by simp [hr]))
    by_cases ha : a.1 = 0
    · rw [if_pos ha, hn] at hp
      have hh : hitE2 (T[1]'(by omega)).toNat (T[2]'(by omega)).toNat (a.1, a.2.1) = false := by unfold hitE2; simp [ha]
      rw [escL, hp]
      unfold namesOf at ih ⊢
      rw [List.map_cons, List.find?_cons, hh]
      simp only [Bool.false_eq_true, if_false]
      rcases ih with ih | ⟨r, hr, ih⟩
      · exact .inl ih
      · exact .inr ⟨r, by simp [hr], ih⟩
    · rw [if_neg ha] at hp
      have hh : hitE2 (T[1]'(by omega)).toNat (T[2]'(by omega)).toNat (a.1, a.2.1) = pre T (sp (3 * a.1 + 2)) := by
        rw [hp]; unfold hitE2
        have : (a.1 == 0) = false := by simpa using ha
        simp [this]
      unfold namesOf at ih ⊢
      rw [escL, List.map_cons, List.find?_cons, hh]
      cases hb : pre T (sp (3 * a.1 + 2)) with
      | true => exact .inr ⟨a, by simp, by simp, ha, rfl⟩
      | false =>
        simp only [Bool.false_eq_true, if_false]
        rcases ih with ih | ⟨r, hr, ih⟩
        · exact .inl ih
        · exact .inr ⟨r, by simp [hr], ih⟩

theorem repN_mid : ∀ a : Fin 6, a.val ≠ 0 → repN a.val ≠ 0 ∧ repN a.val ≠ 6 := by decide

/-- What an escape does, by what the document names. -/
theorem turn_long {T : ByteArray} (h3 : 3 ≤ T.size) (h0 : (T[0]'(by omega)).toNat = 27) (R : List Row) (hR : ∀ r ∈ R, r.1 < 6) (h : Row) :
    (rescS (namesOf R) (T[1]'(by omega)).toNat (T[2]'(by omega)).toNat = 0 ∧ turnS T R h = (h, false)) ∨ (rescS (namesOf R) (T[1]'(by omega)).toNat (T[2]'(by omega)).toNat = 6 ∧ turnS T R h = (h, true))
      ∨ ∃ r ∈ R, rescS (namesOf R) (T[1]'(by omega)).toNat (T[2]'(by omega)).toNat = repN r.1 ∧ repN r.1 ≠ 0 ∧ repN r.1 ≠ 6 ∧ turnS T R h = (r, true) := by
  have hp := pre_long h3 h0 0 (by omega)
  rw [if_pos rfl] at hp
  unfold rescS turnS
  cases hb : ((T[1]'(by omega)).toNat == 40 && (T[2]'(by omega)).toNat == 66) with
  | true =>
    rw [hb] at hp
    refine .inr (.inl ⟨by simp, ?_⟩)
    rw [if_pos hp]
  | false =>
    rw [hb] at hp
    rw [if_neg (by decide), if_neg (show ¬ pre T (sp 2) = true by rw [show (2 : Nat) = 3 * 0 + 2 from rfl, hp]; decide)]
    rcases escL_find h3 h0 hb R hR with ⟨e1, e2⟩ | ⟨r, hr, e1, e3, e2⟩
    · rw [e1, e2]
      exact .inl ⟨rfl, rfl⟩
    · rw [e1, e2]
      have := repN_mid ⟨r.1, hR r hr⟩ e3
      exact .inr (.inr ⟨r, hr, rfl, this.1, this.2, rfl⟩)
end Go.Proofs.YtghaeolehjgmnaaGreatDoor

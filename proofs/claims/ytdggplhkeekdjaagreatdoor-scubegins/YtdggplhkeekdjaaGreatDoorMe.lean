import Derived.Test.YtdggplhkeekdjaaGreatDoorMd
/-
  DERIVED. Names and identifiers: both ways are one.
-/
namespace Go.Proofs.YtdggplhkeekdjaaGreatDoor.Ck
open Go Go.Proofs

/-! ### names and identifiers -/
theorem nm_all (s : ByteArray) : ∀ f i g c h t, i + f = s.size → 1 ≤ g → g ≤ 3 → c ≤ 5 → spCL 61 (s.data.toList.drop i) = h :: t → nmG s f i g c = (decide (g + t.length ≤ 3) && (decide (c + h.count 94 ≤ 5) && !t.any fun x => decide (4 < x.count 94)))
  | 0, i, g, c, h, t, h1, h0, hg, hc, e => by
    have hd : s.data.toList.drop i = [] := List.eq_nil_of_length_eq_zero (by rw [drop_len]; omega)
    rw [hd] at e
    simp [spCL] at e
    obtain ⟨rfl, rfl⟩ := e
    rw [nmG]
    simp [hg, hc]
  | f + 1, i, g, c, h, t, h1, h0, hg, hc, e => by
    have hi : i < s.size := by omega
    have hd := drop_at s i hi
    rw [hd] at e
    unfold spCL at e
    rw [nmG]
    cases e2 : spCL 61 (s.data.toList.drop (i + 1)) with
    | nil => exact absurd e2 (spCL_ne _ _)
    | cons h' t' =>
      rw [e2] at e
      by_cases hb : (s.get! i).toNat = 61
      · have hb' : s.get! i = 61 := UInt8.toNat_inj.1 hb
        rw [if_pos hb'] at e
        simp at e
        obtain ⟨rfl, rfl⟩ := e
        simp only [hb, if_true]
        by_cases h3 : 3 < g + 1
        · rw [if_pos (.inl h3), decide_eq_false (by simp; omega)]; rfl
        · rw [if_neg (by omega), nm_all s f (i + 1) (g + 1) 1 h' t' (by omega) (by omega) (by omega) (by omega) e2]
          have e1 : g + 1 + t'.length = g + (t'.length + 1) := by omega
          have e3 : decide (c + List.count 94 ([] : List UInt8) ≤ 5) = true := decide_eq_true hc
          have e4 : decide (1 + h'.count 94 ≤ 5) = !decide (4 < h'.count 94) := by rw [← decide_not]; congr 1; apply propext; omega
          rw [List.length_cons, List.any_cons, e1, e3, e4, Bool.true_and, Bool.not_or]
      · have hb' : s.get! i ≠ 61 := fun x => hb (by rw [x]; rfl)
        rw [if_neg hb'] at e
        simp at e
        obtain ⟨rfl, rfl⟩ := e
        simp only [hb, if_false]
        by_cases h4 : (s.get! i).toNat = 94
        · have h4' : s.get! i = 94 := UInt8.toNat_inj.1 h4
          simp only [h4, if_true]
          rw [h4', List.count_cons_self]
          by_cases h5 : 5 < c + 1
          · rw [if_pos (.inr h5)]
            have : ¬ (c + (h'.count 94 + 1) ≤ 5) := by omega
            simp [this]
          · rw [if_neg (by omega), nm_all s f (i + 1) g (c + 1) h' t' (by omega) h0 hg (by omega) e2]
            have : c + 1 + h'.count 94 = c + (h'.count 94 + 1) := by omega
            rw [this]
        · have h4' : s.get! i ≠ 94 := fun x => h4 (by rw [x]; rfl)
          simp only [h4, if_false]
          rw [if_neg (by omega), nm_all s f (i + 1) g c h' t' (by omega) h0 hg hc e2, List.count_cons_of_ne h4']
theorem name_eq (s : ByteArray) : nmP s = nmF s := by
  unfold nmP nmF crB
  rw [sp_any]
  cases e : spCL 61 s.data.toList with
  | nil => exact absurd e (spCL_ne _ _)
  | cons h t =>
    rw [nm_all s s.size 0 1 1 h t (by omega) (by omega) (by omega) (by omega) (by rw [List.drop_zero]; exact e)]
    have hl : (spCB 61 s).length = t.length + 1 := by unfold spCB Sp.bsL; rw [List.length_map, e]; rfl
    rw [hl, List.any_cons]
    have e1 : t.length + 1 = 1 + t.length := by omega
    have e4 : decide (1 + h.count 94 ≤ 5) = !decide (4 < h.count 94) := by rw [← decide_not]; congr 1; apply propext; omega
    rw [e1, e4]
    unfold Lib.countByte
    simp only [bl_back, Bool.not_or]
    rfl
/-- A part of an identifier. -/
def uP (l : List UInt8) : Bool := !(l.isEmpty || (decide ((l.getD 0 0).toNat = 48) && decide (1 < l.length)))
theorem ui_all (s : ByteArray) : ∀ f i fr h t, i + f = s.size + 1 → i ≤ s.size → fr ≤ i → spCL 46 (s.data.toList.drop i) = h :: t → uidG s f i fr = (uP ((s.data.toList.drop fr).take (i - fr) ++ h) && t.all uP)
  | 0, i, fr, h, t, h1, h2, h3, e => by omega
  | f + 1, i, fr, h, t, h1, h2, h3, e => by
    rw [uidG]
    have hpl : ((s.data.toList.drop fr).take (i - fr)).length = i - fr := by rw [List.length_take, drop_len]; omega
    have hp0 : fr < i → (((s.data.toList.drop fr).take (i - fr)).getD 0 0) = s.get! fr := fun hf => by
      rw [drop_at s fr (by omega)]
      obtain ⟨m, hm⟩ : ∃ m, i - fr = m + 1 := ⟨i - fr - 1, by omega⟩
      rw [hm]
      simp
    have hpe : uP ((s.data.toList.drop fr).take (i - fr)) = !decide (i = fr ∨ ((s.get! fr).toNat = 48 ∧ 1 < i - fr)) := by
      unfold uP
      rw [hpl]
      by_cases hz : i = fr
      · have : (s.data.toList.drop fr).take (i - fr) = [] := List.eq_nil_of_length_eq_zero (by rw [hpl]; omega)
        rw [this]; simp [hz]
      · have : ((s.data.toList.drop fr).take (i - fr)).isEmpty = false := by
          rw [List.isEmpty_eq_false_iff]; intro x; rw [x] at hpl; simp at hpl; omega
        rw [this, hp0 (by omega)]
        simp [hz]
    by_cases hi : i < s.size
    · have hd := drop_at s i hi
      rw [hd] at e
      unfold spCL at e
      cases e2 : spCL 46 (s.data.toList.drop (i + 1)) with
      | nil => exact absurd e2 (spCL_ne _ _)
      | cons h' t' =>
        rw [e2] at e
        by_cases hb : (s.get! i).toNat = 46
        · have hb' : s.get! i = 46 := UInt8.toNat_inj.1 hb
          rw [if_pos hb'] at e
          simp at e
          obtain ⟨rfl, rfl⟩ := e
          rw [if_pos (.inr hb), List.append_nil, hpe, List.all_cons, ui_all s f (i + 1) (i + 1) h' t' (by omega) (by omega) (by omega) e2, Nat.sub_self, List.take_zero, List.nil_append]
          by_cases hz : i = fr ∨ ((s.get! fr).toNat = 48 ∧ 1 < i - fr)
          · rw [if_pos hz, decide_eq_true hz]; rfl
          · rw [if_neg hz, decide_eq_false hz]; rfl
        · have hb' : s.get! i ≠ 46 := fun x => hb (by rw [x]; rfl)
          rw [if_neg hb'] at e
          simp at e
          obtain ⟨rfl, rfl⟩ := e
          rw [if_neg (by omega), ui_all s f (i + 1) fr h' t' (by omega) (by omega) (by omega) e2]
          have : (s.data.toList.drop fr).take (i + 1 - fr) ++ h' = (s.data.toList.drop fr).take (i - fr) ++ s.get! i :: h' := by
            have e5 : i + 1 - fr = (i - fr) + 1 := by omega
            rw [e5, List.take_add_one, List.getElem?_drop]
            have e6 : fr + (i - fr) = i := by omega
            have e7 : s.data.toList[i]? = some (s.get! i) := by
              rw [List.getElem?_eq_getElem (by rw [Array.length_toList]; exact hi), ← get_get! s i hi]; rfl
            rw [e6, e7]
            simp
          rw [this]
    · have hd : s.data.toList.drop i = [] := List.eq_nil_of_length_eq_zero (by rw [drop_len]; omega)
      rw [hd] at e
      simp [spCL] at e
      obtain ⟨rfl, rfl⟩ := e
      have hf : f = 0 := by omega
      rw [if_pos (.inl (by omega)), List.append_nil, hpe, hf, uidG, List.all_nil, Bool.and_true]
      by_cases hz : i = fr ∨ ((s.get! fr).toNat = 48 ∧ 1 < i - fr)
      · rw [if_pos hz, decide_eq_true hz]; rfl
      · rw [if_neg hz, decide_eq_false hz]; rfl
theorem sp_mem (c : UInt8) : ∀ l p, p ∈ spCL c l → ∀ b ∈ p, b ∈ l ∧ b ≠ c
  | [], p, hp, b, hb => by
    simp [spCL] at hp
    rw [hp] at hb
    cases hb
  | x :: l, p, hp, b, hb => by
    unfold spCL at hp
    by_cases hx : x = c
    · rw [if_pos hx] at hp
      rcases List.mem_cons.1 hp with rfl | h
      · cases hb
      · have := sp_mem c l p h b hb
        exact ⟨List.mem_cons_of_mem _ this.1, this.2⟩
    · rw [if_neg hx] at hp
      cases e2 : spCL c l with
      | nil => exact absurd e2 (spCL_ne c l)
      | cons h' t' =>
        rw [e2] at hp
        rcases List.mem_cons.1 hp with rfl | h
        · rcases List.mem_cons.1 hb with rfl | hb'
          · exact ⟨List.mem_cons_self .., hx⟩
          · have := sp_mem c l h' (by rw [e2]; exact List.mem_cons_self ..) b hb'
            exact ⟨List.mem_cons_of_mem _ this.1, this.2⟩
        · have := sp_mem c l p (by rw [e2]; exact List.mem_cons_of_mem _ h) b hb
          exact ⟨List.mem_cons_of_mem _ this.1, this.2⟩
theorem cnt_full (s : ByteArray) : ∀ m i, (∀ k, i ≤ k → k < i + m → isD s k = true) → cnt s m i = m
  | 0, _, _ => rfl
  | m + 1, i, h => by
    rw [cnt, if_pos (h i (by omega) (by omega)), cnt_full s m (i + 1) (fun k h1 h2 => h k (by omega) (by omega))]
    omega
theorem pr_up (l : List UInt8) (h : ∀ b ∈ l, dg b.toNat = true) : prB (bl l) = uP l := by
  unfold prB uP zrB alD
  cases l with
  | nil => rfl
  | cons x r =>
    have hc : cnt (bl (x :: r)) (bl (x :: r)).size 0 = (bl (x :: r)).size := cnt_full _ _ _ fun k h1 h2 => by
      unfold isD
      rw [Nat.zero_add] at h2
      rw [decide_eq_true h2, Bool.true_and]
      have h3 := h2
      rw [bl_size] at h3
      rw [bl_get _ k h3]
      exact h _ (List.getElem_mem h3)
    rw [hc, bl_get _ 0 (by simp)]
    have hz : (bl (x :: r)).size ≠ 0 := by rw [bl_size]; simp
    have ht : (bl (x :: r)).toList = x :: r := by rw [ByteArray.toList_eq]; rfl
    rw [ht, decide_eq_true hz, decide_eq_true rfl]
    simp only [Bool.and_self, Bool.true_and, List.getElem_cons_zero, List.isEmpty_cons, Bool.false_or, List.getD_cons_zero]
    by_cases h8 : x.toNat = 48
    · have h8' : x = 48 := UInt8.toNat_inj.1 h8
      subst h8'
      cases r with
      | nil => rfl
      | cons y q => simp
    · rw [decide_eq_false h8]; rfl
theorem uid_eq (s : ByteArray) (h : ∀ b ∈ s.data.toList, dg b.toNat = true ∨ b = 46) : uiF s = uidF s := by
  unfold uiF uidF
  cases e : spCL 46 s.data.toList with
  | nil => exact absurd e (spCL_ne _ _)
  | cons h0 t0 =>
    rw [ui_all s (s.size + 1) 0 0 h0 t0 (by omega) (by omega) (by omega) (by rw [List.drop_zero]; exact e), Nat.sub_self, List.take_zero, List.nil_append]
    have hx : (spCB 46 s).all prB = (spCL 46 s.data.toList).all uP := by
      unfold spCB Sp.bsL
      rw [List.all_map]
      have : ∀ L : List (List UInt8), (∀ p ∈ L, p ∈ spCL 46 s.data.toList) → L.all (prB ∘ fun x => (⟨x.toArray⟩ : ByteArray)) = L.all uP := by
        intro L
        induction L with
        | nil => intro _; rfl
        | cons p L ih =>
          intro hL
          rw [List.all_cons, List.all_cons, ih (fun q hq => hL q (List.mem_cons_of_mem _ hq))]
          have hp := hL p (List.mem_cons_self ..)
          have : (prB ∘ fun x => (⟨x.toArray⟩ : ByteArray)) p = uP p := pr_up p fun b hb => by
            obtain ⟨h1, h2⟩ := sp_mem 46 _ p hp b hb
            rcases h b h1 with h3 | h3
            · exact h3
            · exact absurd h3 h2
          rw [this]
      exact this _ (fun _ hp => hp)
    rw [hx, e, List.all_cons]
end Go.Proofs.YtdggplhkeekdjaaGreatDoor.Ck

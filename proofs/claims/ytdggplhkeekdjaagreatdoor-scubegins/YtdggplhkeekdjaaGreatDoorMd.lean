import Derived.Test.YtdggplhkeekdjaaGreatDoorMc
/-
  DERIVED. Lengths: the groups of a name.
-/
namespace Go.Proofs.YtdggplhkeekdjaaGreatDoor.Ck
open Go Go.Proofs

theorem drop_len (s : ByteArray) (i : Nat) : (s.data.toList.drop i).length = s.size - i := by
  rw [List.length_drop, Array.length_toList]; rfl
theorem drop_get (s : ByteArray) (i k : Nat) (h : i + k < s.size) : (bl (s.data.toList.drop i)).get! k = s.get! (i + k) := by
  rw [bl_get _ k (by rw [drop_len]; omega), List.getElem_drop, ← get_get! s _ h]
  rfl
theorem dec_drop (s : ByteArray) (i : Nat) (h : i < s.size) : Utf8.decode s i = Utf8.decode (bl (s.data.toList.drop i)) 0 := by
  rw [Lib.decode_at, Lib.decode_at, bl_size, drop_len, drop_get s i 0 (by omega), Nat.add_zero, Nat.sub_zero]
  exact decN_same _ _ _ _ _ _ _ _ (fun g => by rw [Nat.zero_add, drop_get s i 1 (by omega)]) (fun g => by rw [Nat.zero_add, drop_get s i 2 (by omega)]) (fun g => by rw [Nat.zero_add, drop_get s i 3 (by omega)])
theorem ext_drop (s : ByteArray) (i : Nat) : s.extract i s.size = bl (s.data.toList.drop i) := by
  apply ByteArray.ext
  apply Array.ext'
  rw [ByteArray.data_extract, Array.toList_extract]
  show List.take (s.size - i) (List.drop i s.data.toList) = _
  rw [List.take_of_length_le (by rw [drop_len]; exact Nat.le_refl _)]
  rfl
theorem bl_back (l : List UInt8) : (bl l).data.toList = l := rfl
theorem rc_step (l : List UInt8) (h : l ≠ []) : Lib.runeCountL l = 1 + Lib.runeCountL (l.drop (wL l)) := by
  show Lib.runeCount (bl l) = 1 + Lib.runeCount (bl (l.drop (wL l)))
  have hl : 0 < l.length := List.length_pos_iff.2 h
  have hz : (bl l).size = l.length := bl_size l
  have hw := dec_width (bl l) 0 (by omega)
  have e1 : bl (l.drop (wL l)) = (bl l).extract (wL l) (bl l).size := by rw [ext_drop, bl_back]
  rw [e1]
  unfold Lib.runeCount
  obtain ⟨n, hn⟩ : ∃ n, (bl l).size = n + 1 := ⟨l.length - 1, by omega⟩
  rw [hn, Lib.runeCountFrom, if_pos (by omega), ← hn, Lib.tail_count, Nat.zero_add]
  show 1 + Lib.runeCountFrom (bl l) n (wL l) = _
  have hw' : 1 ≤ wL l := hw.1
  rw [Nat.add_zero]
  rw [Lib.fuel_enough (bl l) n ((bl l).extract (wL l) (bl l).size).size (wL l) (by omega) (by rw [ByteArray.size_extract]; omega)]
theorem sp_head (c : UInt8) : ∀ l h t, spCL c l = h :: t → ∃ r, l = h ++ r ∧ ∀ b q, r = b :: q → b = c
  | [], h, t, e => by
    simp [spCL] at e
    obtain ⟨rfl, rfl⟩ := e
    exact ⟨[], rfl, by simp⟩
  | b :: l, h, t, e => by
    unfold spCL at e
    by_cases hb : b = c
    · rw [if_pos hb] at e
      simp at e
      obtain ⟨rfl, _⟩ := e
      exact ⟨b :: l, rfl, fun x q hx => by simp at hx; rw [← hx.1, hb]⟩
    · rw [if_neg hb] at e
      cases e2 : spCL c l with
      | nil => exact absurd e2 (spCL_ne c l)
      | cons h' t' =>
        rw [e2] at e
        simp at e
        obtain ⟨rfl, rfl⟩ := e
        obtain ⟨r, hr, hq⟩ := sp_head c l h' t' e2
        exact ⟨r, by rw [hr]; rfl, hq⟩
theorem sp_app (c : UInt8) (q h : List UInt8) (t : List (List UInt8)) (e : spCL c q = h :: t) : ∀ p : List UInt8, (∀ b ∈ p, b ≠ c) → spCL c (p ++ q) = (p ++ h) :: t
  | [], _ => e
  | b :: p, hp => by
    show spCL c (b :: (p ++ q)) = _
    unfold spCL
    rw [if_neg (hp b (List.mem_cons_self ..)), sp_app c q h t e p (fun x hx => hp x (List.mem_cons_of_mem _ hx))]
    rfl
/-- The bytes behind the first one of a character are no sign of ASCII. -/
theorem dec_rest (s : ByteArray) (i k : Nat) (h1 : 1 ≤ k) (h2 : k < (Utf8.decode s i).2) : 128 ≤ (s.get! (i + k)).toNat := by
  rw [Lib.decode_at] at h2
  have hk : k = 1 ∨ k = 2 ∨ k = 3 := by
    unfold Lib.decodeN at h2
    repeat' split at h2
    all_goals simp only at h2
    all_goals omega
  unfold Lib.decodeN at h2
  rcases hk with rfl | rfl | rfl
  all_goals
    repeat' split at h2
    all_goals simp only at h2
    all_goals omega
theorem lg_name (mo : Nat) (s : ByteArray) : ∀ f i n h t, i ≤ s.size → s.size ≤ i + f → spCL 61 (s.data.toList.drop i) = h :: t → lgG true true mo s f i n = (decide (mo < n + Lib.runeCountL h) || t.any fun x => decide (mo < Lib.runeCountL x))
  | 0, i, n, h, t, h1, h2, e => by
    have hd : s.data.toList.drop i = [] := List.eq_nil_of_length_eq_zero (by rw [drop_len]; omega)
    rw [hd] at e
    simp [spCL] at e
    obtain ⟨rfl, rfl⟩ := e
    rw [lgG, List.any_nil, Bool.or_false]
    rfl
  | f + 1, i, n, h, t, h1, h2, e => by
    rw [lgG]
    by_cases hi : i < s.size
    · rw [if_pos hi]
      have hd := drop_at s i hi
      have hw := dec_width s i hi
      have ew : wd true s i = (Utf8.decode s i).2 := by unfold wd; rw [if_pos rfl, (rn_dec s i hi).1]
      by_cases hb : (s.get! i).toNat = 61
      · have hb' : s.get! i = 61 := UInt8.toNat_inj.1 hb
        have e1 : wd true s i = 1 := by rw [ew, dec_one s i (by omega)]
        rw [hd] at e
        unfold spCL at e
        rw [if_pos hb'] at e
        simp at e
        obtain ⟨rfl, rfl⟩ := e
        cases e2 : spCL 61 (s.data.toList.drop (i + 1)) with
        | nil => exact absurd e2 (spCL_ne _ _)
        | cons h' t' =>
          rw [e1, lg_name mo s f (i + 1) _ h' t' (by omega) (by omega) e2]
          have e0 : Lib.runeCountL [] = 0 := rfl
          rw [e0, List.any_cons]
          by_cases hn : mo + 1 ≤ n
          · have : mo < n + 0 := by omega
            rw [if_pos hn, decide_eq_true this]; rfl
          · have : ¬ (mo < n + 0) := by omega
            rw [if_neg hn, decide_eq_false this, Bool.false_or, if_pos ⟨rfl, hb⟩, Nat.zero_add]
      · have hb' : s.get! i ≠ 61 := fun x => hb (by rw [x]; rfl)
        have hn' : ¬ (True ∧ (s.get! i).toNat = 61) := by simp [hb]
        cases e2 : spCL 61 (s.data.toList.drop (i + (Utf8.decode s i).2)) with
        | nil => exact absurd e2 (spCL_ne _ _)
        | cons h' t' =>
          obtain ⟨p, hp⟩ : ∃ p, s.data.toList.drop i = p ++ s.data.toList.drop (i + (Utf8.decode s i).2) ∧ p.length = (Utf8.decode s i).2 ∧ ∀ b ∈ p, b ≠ 61 := by
            refine ⟨(s.data.toList.drop i).take (Utf8.decode s i).2, ?_, ?_, ?_⟩
            · rw [← List.drop_drop, List.take_append_drop]
            · rw [List.length_take, drop_len]; omega
            · intro b hm
              obtain ⟨k, hk, rfl⟩ := List.getElem_of_mem hm
              rw [List.length_take, drop_len] at hk
              rw [List.getElem_take, List.getElem_drop]
              have hg : s.data.toList[i + k]'(by rw [Array.length_toList]; show i + k < s.size; omega) = s.get! (i + k) := by
                rw [← get_get! s (i + k) (by omega)]; rfl
              rw [hg]
              rcases Nat.eq_zero_or_pos k with rfl | hk0
              · exact hb'
              · have := dec_rest s i k hk0 (by omega)
                intro x
                rw [x] at this
                exact absurd this (by decide)
          obtain ⟨hp1, hp2, hp3⟩ := hp
          have e3 := sp_app 61 _ h' t' e2 p hp3
          rw [← hp1, e] at e3
          obtain ⟨eh, et⟩ := List.cons.inj e3
          obtain ⟨r, hr, hq⟩ := sp_head 61 _ h' t' e2
          have hpn : p ≠ [] := fun x => by rw [x] at hp2; simp at hp2; omega
          have hdec : Utf8.decode s i = Utf8.decode (bl (p ++ h')) 0 := by
            rw [dec_drop s i hi, hp1, hr, ← List.append_assoc]
            refine dec_app (p ++ h') r (by simp [hpn]) (fun b q hbq => ?_)
            rw [hq b q hbq]; decide
          have hrc : Lib.runeCountL (p ++ h') = 1 + Lib.runeCountL h' := by
            rw [rc_step _ (by simp [hpn])]
            have : wL (p ++ h') = p.length := by unfold wL; rw [← hdec, hp2]
            rw [this, List.drop_left]
          rw [ew, lg_name mo s f _ _ h' t' hw.2 (by omega) e2, eh, et, hrc]
          simp only [hb, and_false, if_false]
          by_cases hn : mo + 1 ≤ n
          · have : mo < n + (1 + Lib.runeCountL h') := by omega
            rw [if_pos hn, decide_eq_true this]; rfl
          · rw [if_neg hn]
            congr 2
            apply propext
            omega
    · rw [if_neg hi]
      have hd : s.data.toList.drop i = [] := List.eq_nil_of_length_eq_zero (by rw [drop_len]; omega)
      rw [hd] at e
      simp [spCL] at e
      obtain ⟨rfl, rfl⟩ := e
      rw [List.any_nil, Bool.or_false]
      rfl
theorem sp_any (c : UInt8) (s : ByteArray) (F : ByteArray → Bool) : (spCB c s).any F = (spCL c s.data.toList).any fun l => F (bl l) := by
  unfold spCB Sp.bsL
  rw [List.any_map]
  rfl
theorem lg_groups (mo : Nat) (s : ByteArray) : lgG true true mo s s.size 0 0 = decide (mo < mxG (spCB 61 s) 0) := by
  rw [mx_any, sp_any]
  cases e : spCL 61 s.data.toList with
  | nil => exact absurd e (spCL_ne _ _)
  | cons h t =>
    rw [lg_name mo s s.size 0 0 h t (by omega) (by omega) (by rw [List.drop_zero]; exact e), Nat.zero_add, List.any_cons, decide_eq_false (Nat.not_lt_zero _), Bool.false_or]
    rfl
end Go.Proofs.YtdggplhkeekdjaaGreatDoor.Ck

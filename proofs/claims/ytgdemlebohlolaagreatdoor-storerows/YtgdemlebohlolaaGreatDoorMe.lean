import Derived.Test.YtgdemlebohlolaaGreatDoorMc
/-
  DERIVED. Lengths: the groups of a name.
-/
namespace Go.Proofs.YtgdemlebohlolaaGreatDoor.Ck
open Go Go.Proofs

theorem drop_len (s : ByteArray) (i : Nat) : (s.data.toList.drop i).length = s.size - i := by
  rw [List.length_drop, Array.length_toList]; rfl
theorem drop_get (s : ByteArray) (i k : Nat) (h : i + k < s.size) : (bl (s.data.toList.drop i)).get! k = s.get! (i + k) := by
  rw [bl_get _ k (by rw [drop_len]; omega), List.getElem_drop, ← get_get! s _ h]
  rfl
theorem dec_drop (s : ByteArray) (i : Nat) (h : i < s.size) : Utf8.decode s i = Utf8.decode (bl (s.data.toList.drop i)) 0 := by
  rw [Lib.decode_at, Lib.decode_at, bl_size, drop_len, drop_get s i 0 (by omega), Nat.add_zero, Nat.sub_zero]
  exact decN_same _ _ _ _ _ _ _ _ (fun g => by rw [Nat.zero_add, drop_get s i 1 (by omega)]) (fun g => by rw [Nat.zero_add, drop_get s i 2 (by omega)]) (fun g => by rw [Nat.zero_add, drop_get s i 3 (by omega)])
theorem ext_drop (s : ByteArray) (i : Nat) : s.extract i s.size = bl (s.data.toList.drop i) := by
  apply ByteArray.ext
  apply Array.ext'
  rw [ByteArray.data_extract, Array.toList_extract]
  show List.take (s.size - i) (List.drop i s.data.toList) = _
  rw [List.take_of_length_le (by rw [drop_len]; exact Nat.le_refl _)]
  rfl
theorem bl_back (l : List UInt8) : (bl l).data.toList = l := rfl
theorem rc_step (l : List UInt8) (h : l ≠ []) : Lib.runeCountL l = 1 + Lib.runeCountL (l.drop (wL l)) := by
  show Lib.runeCount (bl l) = 1 + Lib.runeCount (bl (l.drop (wL l)))
  have hl : 0 < l.length := List.length_pos_iff.2 h
  have hz : (bl l).size = l.length := bl_size l
  have hw := dec_width (bl l) 0 (by omega)
  have e1 : bl (l.drop (wL l)) = (bl l).extract (wL l) (bl l).size := by rw [ext_drop, bl_back]
  rw [e1]
  unfold Lib.runeCount
  obtain ⟨n, hn⟩ : ∃ n, (bl l).size = n + 1 := ⟨l.length - 1, by omega⟩
  rw [hn, Lib.runeCountFrom, if_pos (by omega), ← hn, Lib.tail_count, Nat.zero_add]
  show 1 + Lib.runeCountFrom (bl l) n (wL l) = _
  have hw' : 1 ≤ wL l := hw.1
  rw [Nat.add_zero]
  rw [Lib.fuel_enough (bl l) n ((bl l).extract (wL l) (bl l).size).size (wL l) (by omega) (by rw [ByteArray.size_extract]; omega)]
theorem sp_head (c : UInt8) : ∀ l h t, spCL c l = h :: t → ∃ r, l = h ++ r ∧ ∀ b q, r = b :: q → b = c
  | [], h, t, e => by
    simp [spCL] at e
    obtain ⟨rfl, rfl⟩ := e
    exact ⟨[], rfl, by simp⟩
  | b :: l, h, t, e => by
    unfold spCL at e
    by_cases hb : b = c
    · rw [if_pos hb] at e
      simp at e
      obtain ⟨rfl, _⟩ := e
      exact ⟨b :: l, rfl, fun x q hx => by simp at hx; rw [← hx.1, hb]⟩
    · rw [if_neg hb] at e
      cases e2 : spCL c l with
      | nil => exact absurd e2 (spCL_ne c l)
      | cons h' t' =>
        rw [e2] at e
        simp at e
        obtain ⟨rfl, rfl⟩ := e
        obtain ⟨r, hr, hq⟩ := sp_head c l h' t' e2
        exact ⟨r, by rw [hr]; rfl, hq⟩
theorem sp_app (c : UInt8) (q h : List UInt8) (t : List (List UInt8)) (e : spCL c q = h :: t) : ∀ p : List UInt8, (∀ b ∈ p, b ≠ c) → spCL c (p ++ q) = (p ++ h) :: t
  | [], _ => e
  | b :: p, hp => by
    show spCL c (b :: (p ++ q)) = _
    unfold spCL
    rw [if_neg (hp b (List.mem_cons_self ..)), sp_app c q h t e p (fun x hx => hp x (List.mem_cons_of_mem _ hx))]
    rfl
/-- The bytes behind the first one of a character are no sign of ASCII. -/
theorem dec_rest (s : ByteArray) (i k : Nat) (h1 : 1 ≤ k) (h2 : k < (Utf8.decode s i).2) : 128 ≤ (s.get! (i + k)).toNat := by
  rw [Lib.decode_at] at h2
  have hk : k = 1 ∨ k = 2 ∨ k = 3 := by
    unfold Lib.decodeN at h2
    repeat' split at h2
    all_goals simp only at h2
    all_goals omega
  unfold Lib.decodeN at h2
  rcases hk with rfl | rfl | rfl
  all_goals
    repeat' split at h2
    all_goals simp only at h2
    all_goals omega
theorem lg_name (mo : Nat) (s : ByteArray) : ∀ f i n h t, i ≤ s.size → s.size ≤ i + f → spCL 61 (s.data.toList.drop i) = h :: t → lgG true true mo s f i n = (decide (mo < n + Lib.runeCountL h) || t.any fun x => decide (mo < Lib.runeCountL x))
  | 0, i, n, h, t, h1, h2, e => by
    have hd : s.data.toList.drop i = [] := List.eq_nil_of_length_eq_zero (by rw [drop_len]; omega)
    rw [hd] at e
    simp [spCL] at e
    obtain ⟨rfl, rfl⟩ := e
    rw [lgG, List.any_nil, Bool.or_false]
    rfl
  | f + 1, i, n, h, t, h1, h2, e => by
    rw [lgG]
    by_cases hi : i < s.size
    · rw [if_pos hi]
      have hd := drop_at s i hi
      have hw := dec_width s i hi
      have ew : wd true s i = (Utf8.decode s i).2 := by unfold wd; rw [if_pos rfl, (rn_dec s i hi).1]
      by_cases hb : (s.get! i).toNat = 61
      · have hb' : s.get! i = 61 := UInt8.toNat_inj.1 hb
        have e1 : wd true s i = 1 := by rw [ew, dec_one s i (by omega)]
        rw [hd] at e
        unfold spCL at e
        rw [if_pos hb'] at e
        simp at e
        obtain ⟨rfl, rfl⟩ := e
        cases e2 : spCL 61 (s.data.toList.drop (i + 1)) with
        | nil => exact absurd e2 (spCL_ne _ _)
        | cons h' t' =>
          rw [e1, lg_name mo s f (i + 1) _ h' t' (by omega) (by omega) e2]
          have e0 : Lib.runeCountL [] = 0 := rfl
          rw [e0, List.any_cons]
          by_cases hn : mo + 1 ≤ n
          · have : mo < n + 0 := by omega
            rw [if_pos hn, decide_eq_true this]; rfl
          · have : ¬ (mo < n + 0) := by omega
            rw [if_neg hn, decide_eq_false this, Bool.false_or, if_pos ⟨rfl, hb⟩, Nat.zero_add]
      · have hb' : s.get! i ≠ 61 := fun x => hb (by rw [x]; rfl)
        have hn' : ¬ (True ∧ (s.get! i).toNat = 61) := by simp [hb]
        cases e2 : spCL 61 (s.data.toList.drop (i + (Utf8.decode s i).2)) with
        | nil => exact absurd e2 (spCL_ne _ _)
        | cons h' t' =>
          obtain ⟨p, hp⟩ : ∃ p, s.data.toList.drop i = p ++ s.data.toList.drop (i + (Utf8.decode s i).2) ∧ p.length = (Utf8.decode s i).2 ∧ ∀ b ∈ p, b ≠ 61 := by
            refine ⟨(s.data.toList.drop i).take (Utf8.decode s i).2, ?_, ?_, ?_⟩
            · rw [← List.drop_drop, List.take_append_drop]
            · rw [List.length_take, drop_len]; omega
            · intro b hm
              obtain ⟨k, hk, rfl⟩ := List.getElem_of_mem hm
              rw [List.length_take, drop_len] at hk
              rw [List.getElem_take, List.getElem_drop]
              have hg : s.data.toList[i + k]'(by rw [Array.length_toList]; show i + k < s.size; omega) = s.get! (i + k) := by
                rw [← get_get! s (i + k) (by omega)]; rfl
              rw [hg]
              rcases Nat.eq_zero_or_pos k with rfl | hk0
              · exact hb'
              · have := dec_rest s i k hk0 (by omega)
                intro x
                rw [x] at this
                exact absurd this (by decide)
          obtain ⟨hp1, hp2, hp3⟩ := hp
          have e3 := sp_app 61 _ h' t' e2 p hp3
          rw [← hp1, e] at e3
          obtain ⟨eh, et⟩ := List.cons.inj e3
          obtain ⟨r, hr, hq⟩ := sp_head 61 _ h' t' e2
          have hpn : p ≠ [] := fun x => by rw [x] at hp2; simp at hp2; omega
          have hdec : Utf8.decode s i = Utf8.decode (bl (p ++ h')) 0 := by
            rw [dec_drop s i hi, hp1, hr, ← List.append_assoc]
            refine dec_app (p ++ h') r (by simp [hpn]) (fun b q hbq => ?_)
            rw [hq b q hbq]; decide
          have hrc : Lib.runeCountL (p ++ h') = 1 + Lib.runeCountL h' := by
            rw [rc_step _ (by simp [hpn])]
            have : wL (p ++ h') = p.length := by unfold wL; rw [← hdec, hp2]
            rw [this, List.drop_left]
          rw [ew, lg_name mo s f _ _ h' t' hw.2 (by omega) e2, eh, et, hrc]
          simp only [hb, and_false, if_false]
          by_cases hn : mo + 1 ≤ n
          · have : mo < n + (1 + Lib.runeCountL h') := by omega
            rw [if_pos hn, decide_eq_true this]; rfl
          · rw [if_neg hn]
            congr 2
            apply propext
            omega
    · rw [if_neg hi]
      have hd : s.data.toList.drop i = [] := List.eq_nil_of_length_eq_zero (by rw [drop_len]; omega)
      rw [hd] at e
      simp [spCL] at e
      obtain ⟨rfl, rfl⟩ := e
      rw [List.any_nil, Bool.or_false]
      rfl
theorem sp_any (c : UInt8) (s : ByteArray) (F : ByteArray → Bool) : (spCB c s).any F = (spCL c s.data.toList).any fun l => F (bl l) := by
  unfold spCB Sp.bsL
  rw [List.any_map]
  rfl
theorem lg_groups (mo : Nat) (s : ByteArray) : lgG true true mo s s.size 0 0 = decide (mo < mxG (spCB 61 s) 0) := by
  rw [mx_any, sp_any]
  cases e : spCL 61 s.data.toList with
  | nil => exact absurd e (spCL_ne _ _)
  | cons h t =>
    rw [lg_name mo s s.size 0 0 h t (by omega) (by omega) (by rw [List.drop_zero]; exact e), Nat.zero_add, List.any_cons, decide_eq_false (Nat.not_lt_zero _), Bool.false_or]
    rfl
end Go.Proofs.YtgdemlebohlolaaGreatDoor.Ck

/-
  DERIVED. Names and identifiers: both ways are one.
-/
namespace Go.Proofs.YtgdemlebohlolaaGreatDoor.Ck
open Go Go.Proofs

/-! ### names and identifiers -/
theorem nm_all (s : ByteArray) : ∀ f i g c h t, i + f = s.size → 1 ≤ g → g ≤ 3 → c ≤ 5 → spCL 61 (s.data.toList.drop i) = h :: t → nmG s f i g c = (decide (g + t.length ≤ 3) && (decide (c + h.count 94 ≤ 5) && !t.any fun x => decide (4 < x.count 94)))
  | 0, i, g, c, h, t, h1, h0, hg, hc, e => by
    have hd : s.data.toList.drop i = [] := List.eq_nil_of_length_eq_zero (by rw [drop_len]; omega)
    rw [hd] at e
    simp [spCL] at e
    obtain ⟨rfl, rfl⟩ := e
    rw [nmG]
    simp [hg, hc]
  | f + 1, i, g, c, h, t, h1, h0, hg, hc, e => by
    have hi : i < s.size := by omega
    have hd := drop_at s i hi
    rw [hd] at e
    unfold spCL at e
    rw [nmG]
    cases e2 : spCL 61 (s.data.toList.drop (i + 1)) with
    | nil => exact absurd e2 (spCL_ne _ _)
    | cons h' t' =>
      rw [e2] at e
      by_cases hb : (s.get! i).toNat = 61
      · have hb' : s.get! i = 61 := UInt8.toNat_inj.1 hb
        rw [if_pos hb'] at e
        simp at e
        obtain ⟨rfl, rfl⟩ := e
        simp only [hb, if_true]
        by_cases h3 : 3 < g + 1
        · rw [if_pos (.inl h3), decide_eq_false (by simp; omega)]; rfl
        · rw [if_neg (by omega), nm_all s f (i + 1) (g + 1) 1 h' t' (by omega) (by omega) (by omega) (by omega) e2]
          have e1 : g + 1 + t'.length = g + (t'.length + 1) := by omega
          have e3 : decide (c + List.count 94 ([] : List UInt8) ≤ 5) = true := decide_eq_true hc
          have e4 : decide (1 + h'.count 94 ≤ 5) = !decide (4 < h'.count 94) := by rw [← decide_not]; congr 1; apply propext; omega
          rw [List.length_cons, List.any_cons, e1, e3, e4, Bool.true_and, Bool.not_or]
      · have hb' : s.get! i ≠ 61 := fun x => hb (by rw [x]; rfl)
        rw [if_neg hb'] at e
        simp at e
        obtain ⟨rfl, rfl⟩ := e
        simp only [hb, if_false]
        by_cases h4 : (s.get! i).toNat = 94
        · have h4' : s.get! i = 94 := UInt8.toNat_inj.1 h4
          simp only [h4, if_true]
          rw [h4', List.count_cons_self]
          by_cases h5 : 5 < c + 1
          · rw [if_pos (.inr h5)]
            have : ¬ (c + (h'.count 94 + 1) ≤ 5) := by omega
            simp [this]
          · rw [if_neg (by omega), nm_all s f (i + 1) g (c + 1) h' t' (by omega) h0 hg (by omega) e2]
            have : c + 1 + h'.count 94 = c + (h'.count 94 + 1) := by omega
            rw [this]
        · have h4' : s.get! i ≠ 94 := fun x => h4 (by rw [x]; rfl)
          simp only [h4, if_false]
          rw [if_neg (by omega), nm_all s f (i + 1) g c h' t' (by omega) h0 hg hc e2, List.count_cons_of_ne h4']
theorem name_eq (s : ByteArray) : nmP s = nmF s := by
  unfold nmP nmF crB
  rw [sp_any]
  cases e : spCL 61 s.data.toList with
  | nil => exact absurd e (spCL_ne _ _)
  | cons h t =>
    rw [nm_all s s.size 0 1 1 h t (by omega) (by omega) (by omega) (by omega) (by rw [List.drop_zero]; exact e)]
    have hl : (spCB 61 s).length = t.length + 1 := by unfold spCB Sp.bsL; rw [List.length_map, e]; rfl
    rw [hl, List.any_cons]
    have e1 : t.length + 1 = 1 + t.length := by omega
    have e4 : decide (1 + h.count 94 ≤ 5) = !decide (4 < h.count 94) := by rw [← decide_not]; congr 1; apply propext; omega
    rw [e1, e4]
    unfold Lib.countByte
    simp only [bl_back, Bool.not_or]
    rfl
/-- A part of an identifier. -/
def uP (l : List UInt8) : Bool := !(l.isEmpty || (decide ((l.getD 0 0).toNat = 48) && decide (1 < l.length)))
theorem ui_all (s : ByteArray) : ∀ f i fr h t, i + f = s.size + 1 → i ≤ s.size → fr ≤ i → spCL 46 (s.data.toList.drop i) = h :: t → uidG s f i fr = (uP ((s.data.toList.drop fr).take (i - fr) ++ h) && t.all uP)
  | 0, i, fr, h, t, h1, h2, h3, e => by omega
  | f + 1, i, fr, h, t, h1, h2, h3, e => by
    rw [uidG]
    have hpl : ((s.data.toList.drop fr).take (i - fr)).length = i - fr := by rw [List.length_take, drop_len]; omega
    have hp0 : fr < i → (((s.data.toList.drop fr).take (i - fr)).getD 0 0) = s.get! fr := fun hf => by
      rw [drop_at s fr (by omega)]
      obtain ⟨m, hm⟩ : ∃ m, i - fr = m + 1 := ⟨i - fr - 1, by omega⟩
      rw [hm]
      simp
    have hpe : uP ((s.data.toList.drop fr).take (i - fr)) = !decide (i = fr ∨ ((s.get! fr).toNat = 48 ∧ 1 < i - fr)) := by
      unfold uP
      rw [hpl]
      by_cases hz : i = fr
      · have : (s.data.toList.drop fr).take (i - fr) = [] := List.eq_nil_of_length_eq_zero (by rw [hpl]; omega)
        rw [this]; simp [hz]
      · have : ((s.data.toList.drop fr).take (i - fr)).isEmpty = false := by
          rw [List.isEmpty_eq_false_iff]; intro x; rw [x] at hpl; simp at hpl; omega
        rw [this, hp0 (by omega)]
        simp [hz]
    by_cases hi : i < s.size
    · have hd := drop_at s i hi
      rw [hd] at e
      unfold spCL at e
      cases e2 : spCL 46 (s.data.toList.drop (i + 1)) with
      | nil => exact absurd e2 (spCL_ne _ _)
      | cons h' t' =>
        rw [e2] at e
        by_cases hb : (s.get! i).toNat = 46
        · have hb' : s.get! i = 46 := UInt8.toNat_inj.1 hb
          rw [if_pos hb'] at e
          simp at e
          obtain ⟨rfl, rfl⟩ := e
          rw [if_pos (.inr hb), List.append_nil, hpe, List.all_cons, ui_all s f (i + 1) (i + 1) h' t' (by omega) (by omega) (by omega) e2, Nat.sub_self, List.take_zero, List.nil_append]
          by_cases hz : i = fr ∨ ((s.get! fr).toNat = 48 ∧ 1 < i - fr)
          · rw [if_pos hz, decide_eq_true hz]; rfl
          · rw [if_neg hz, decide_eq_false hz]; rfl
        · have hb' : s.get! i ≠ 46 := fun x => hb (by rw [x]; rfl)
          rw [if_neg hb'] at e
          simp at e
          obtain ⟨rfl, rfl⟩ := e
          rw [if_neg (by omega), ui_all s f (i + 1) fr h' t' (by omega) (by omega) (by omega) e2]
          have : (s.data.toList.drop fr).take (i + 1 - fr) ++ h' = (s.data.toList.drop fr).take (i - fr) ++ s.get! i :: h' := by
            have e5 : i + 1 - fr = (i - fr) + 1 := by omega
            rw [e5, List.take_add_one, List.getElem?_drop]
            have e6 : fr + (i - fr) = i := by omega
            have e7 : s.data.toList[i]? = some (s.get! i) := by
              rw [List.getElem?_eq_getElem (by rw [Array.length_toList]; exact hi), ← get_get! s i hi]; rfl
            rw [e6, e7]
            simp
          rw [this]
    · have hd : s.data.toList.drop i = [] := List.eq_nil_of_length_eq_zero (by rw [drop_len]; omega)
      rw [hd] at e
      simp [spCL] at e
      obtain ⟨rfl, rfl⟩ := e
      have hf : f = 0 := by omega
      rw [if_pos (.inl (by omega)), List.append_nil, hpe, hf, uidG, List.all_nil, Bool.and_true]
      by_cases hz : i = fr ∨ ((s.get! fr).toNat = 48 ∧ 1 < i - fr)
      · rw [if_pos hz, decide_eq_true hz]; rfl
      · rw [if_neg hz, decide_eq_false hz]; rfl
theorem sp_mem (c : UInt8) : ∀ l p, p ∈ spCL c l → ∀ b ∈ p, b ∈ l ∧ b ≠ c
  | [], p, hp, b, hb => by
    simp [spCL] at hp
    rw [hp] at hb
    cases hb
  | x :: l, p, hp, b, hb => by
    unfold spCL at hp
    by_cases hx : x = c
    · rw [if_pos hx] at hp
      rcases List.mem_cons.1 hp with rfl | h
      · cases hb
      · have := sp_mem c l p h b hb
        exact ⟨List.mem_cons_of_mem _ this.1, this.2⟩
    · rw [if_neg hx] at hp
      cases e2 : spCL c l with
      | nil => exact absurd e2 (spCL_ne c l)
      | cons h' t' =>
        rw [e2] at hp
        rcases List.mem_cons.1 hp with rfl | h
        · rcases List.mem_cons.1 hb with rfl | hb'
          · exact ⟨List.mem_cons_self .., hx⟩
          · have := sp_mem c l h' (by rw [e2]; exact List.mem_cons_self ..) b hb'
            exact ⟨List.mem_cons_of_mem _ this.1, this.2⟩
        · have := sp_mem c l p (by rw [e2]; exact List.mem_cons_of_mem _ h) b hb
          exact ⟨List.mem_cons_of_mem _ this.1, this.2⟩
theorem cnt_full (s : ByteArray) : ∀ m i, (∀ k, i ≤ k → k < i + m → isD s k = true) → cnt s m i = m
  | 0, _, _ => rfl
  | m + 1, i, h => by
    rw [cnt, if_pos (h i (by omega) (by omega)), cnt_full s m (i + 1) (fun k h1 h2 => h k (by omega) (by omega))]
    omega
theorem pr_up (l : List UInt8) (h : ∀ b ∈ l, dg b.toNat = true) : prB (bl l) = uP l := by
  unfold prB uP zrB alD
  cases l with
  | nil => rfl
  | cons x r =>
    have hc : cnt (bl (x :: r)) (bl (x :: r)).size 0 = (bl (x :: r)).size := cnt_full _ _ _ fun k h1 h2 => by
      unfold isD
      rw [Nat.zero_add] at h2
      rw [decide_eq_true h2, Bool.true_and]
      have h3 := h2
      rw [bl_size] at h3
      rw [bl_get _ k h3]
      exact h _ (List.getElem_mem h3)
    rw [hc, bl_get _ 0 (by simp)]
    have hz : (bl (x :: r)).size ≠ 0 := by rw [bl_size]; simp
    have ht : (bl (x :: r)).toList = x :: r := by rw [ByteArray.toList_eq]; rfl
    rw [ht, decide_eq_true hz, decide_eq_true rfl]
    simp only [Bool.and_self, Bool.true_and, List.getElem_cons_zero, List.isEmpty_cons, Bool.false_or, List.getD_cons_zero]
    by_cases h8 : x.toNat = 48
    · have h8' : x = 48 := UInt8.toNat_inj.1 h8
      subst h8'
      cases r with
      | nil => rfl
      | cons y q => simp
    · rw [decide_eq_false h8]; rfl
theorem uid_eq (s : ByteArray) (h : ∀ b ∈ s.data.toList, dg b.toNat = true ∨ b = 46) : uiF s = uidF s := by
  unfold uiF uidF
  cases e : spCL 46 s.data.toList with
  | nil => exact absurd e (spCL_ne _ _)
  | cons h0 t0 =>
    rw [ui_all s (s.size + 1) 0 0 h0 t0 (by omega) (by omega) (by omega) (by rw [List.drop_zero]; exact e), Nat.sub_self, List.take_zero, List.nil_append]
    have hx : (spCB 46 s).all prB = (spCL 46 s.data.toList).all uP := by
      unfold spCB Sp.bsL
      rw [List.all_map]
      have : ∀ L : List (List UInt8), (∀ p ∈ L, p ∈ spCL 46 s.data.toList) → L.all (prB ∘ fun x => (⟨x.toArray⟩ : ByteArray)) = L.all uP := by
        intro L
        induction L with
        | nil => intro _; rfl
        | cons p L ih =>
          intro hL
          rw [List.all_cons, List.all_cons, ih (fun q hq => hL q (List.mem_cons_of_mem _ hq))]
          have hp := hL p (List.mem_cons_self ..)
          have : (prB ∘ fun x => (⟨x.toArray⟩ : ByteArray)) p = uP p := pr_up p fun b hb => by
            obtain ⟨h1, h2⟩ := sp_mem 46 _ p hp b hb
            rcases h b h1 with h3 | h3
            · exact h3
            · exact absurd h3 h2
          rw [this]
      exact this _ (fun _ hp => hp)
    rw [hx, e, List.all_cons]
end Go.Proofs.YtgdemlebohlolaaGreatDoor.Ck

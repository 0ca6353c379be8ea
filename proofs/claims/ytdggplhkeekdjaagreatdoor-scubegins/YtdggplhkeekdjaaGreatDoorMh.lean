import Derived.Test.YtdggplhkeekdjaaGreatDoorMg
/-
  DERIVED. Numbers.
-/
namespace Go.Proofs.YtdggplhkeekdjaaGreatDoor.Ck
open Go Go.Proofs

/-! ### numbers -/
theorem cnt_more (s : ByteArray) (k : Nat) (hk : k ≤ s.size) (m : Nat) (hm : s.size ≤ k + m) : cnt s m k = cnt s s.size k := by
  have h1 := cnt_end s s.size k (by omega)
  have h2 := cnt_size s s.size k hk
  rw [cnt_is s m k (cnt s s.size k) (fun j a b => by have := cnt_at s s.size k (j - k) (by omega); rwa [show k + (j - k) = j from by omega] at this) h1]
  split <;> omega
theorem ext_tot (s : ByteArray) (k : Nat) (hk : k ≤ s.size) : cnt (s.extract k s.size) (s.extract k s.size).size 0 = cnt s s.size k := by
  rw [ext_cnt, ext_size, Nat.add_zero, cnt_more s k hk _ (by omega)]
theorem blk_sp (s : ByteArray) : ∀ f i, ∀ k, i ≤ k → k < blk s f i → (s.get! k).toNat = 32
  | 0, i, k, h1, h2 => by rw [blk] at h2; omega
  | f + 1, i, k, h1, h2 => by
    rw [blk] at h2
    split at h2
    · rename_i hh
      rcases Nat.eq_or_lt_of_le h1 with e | e
      · rw [← e]; exact hh.2
      · exact blk_sp s f (i + 1) k (by omega) h2
    · omega
theorem blk_no (s : ByteArray) : ∀ f i, s.size ≤ i + f → ¬ (blk s f i < s.size ∧ (s.get! (blk s f i)).toNat = 32)
  | 0, i, h => by rw [blk]; omega
  | f + 1, i, h => by
    rw [blk]
    split
    · exact blk_no s f (i + 1) (by omega)
    · assumption
theorem tr_drop (s : ByteArray) : Lib.trimLeftB s.data.toList 32 = s.data.toList.drop (blk s s.size 0) := by
  have hb := blk_le s s.size 0 (by omega)
  refine Lib.trimLeftB_drop _ 32 _ (by rw [Array.length_toList]; exact hb.1) (fun j b hj e => ?_) (fun b e h32 => ?_)
  · have h1 := blk_sp s s.size 0 j (by omega) hj
    rw [list_at s j (by omega)] at e
    rw [← Option.some.inj e]
    exact UInt8.toNat_inj.1 h1
  · have h1 := (List.getElem?_eq_some_iff.1 e).1
    rw [Array.length_toList] at h1
    rw [list_at s _ h1] at e
    refine blk_no s s.size 0 (by omega) ⟨h1, ?_⟩
    rw [Option.some.inj e, h32]; rfl
theorem trS_ext (s : ByteArray) : trS s = s.extract (blk s s.size 0) s.size := by
  unfold trS
  rw [tr_drop, ext_drop]
  rfl
theorem psS_ext (s : ByteArray) (k : Nat) : psS (s.extract k s.size) = s.extract (sgP s k) s.size := by
  unfold psS sgP
  rw [ext_hp, ext_hp, ext_ext]
  have e : (decide (k < s.size) && decide (s.get! k = 43) || decide (k < s.size) && decide (s.get! k = 45)) = isS s k := by
    rw [Bool.eq_iff_iff, isS_iff]
    simp only [Bool.or_eq_true, Bool.and_eq_true, decide_eq_true_eq]
    constructor
    · rintro (⟨h1, h2⟩ | ⟨h1, h2⟩)
      · exact ⟨h1, .inl h2⟩
      · exact ⟨h1, .inr h2⟩
    · rintro ⟨h1, h2 | h2⟩
      · exact .inl ⟨h1, h2⟩
      · exact .inr ⟨h1, h2⟩
  rw [e]
  cases isS s k
  · rw [if_neg (by simp), if_neg (by simp)]
  · rw [if_pos rfl, if_pos rfl]
theorem dcZ_ext (s : ByteArray) (n a : Nat) (ha : a ≤ s.size) : dcZ n (s.extract a s.size) = dcX s n a := by
  unfold dcZ dcX
  by_cases hn : n = 0
  · rw [if_pos hn, decide_eq_false (by omega)]; rfl
  rw [if_neg hn, decide_eq_true (by omega), Bool.true_and, ext_size]
  unfold dcE isEx exB
  by_cases h : a < s.size
  · rw [decide_eq_false (show ¬ s.size - a = 0 by omega), Bool.false_or, decide_eq_true h, Bool.true_and, get_ext s a 0 (by omega), Nat.add_zero, ext_ext, psS_ext, ext_al]
    cases (decide ((s.get! a).toNat = 69) || decide ((s.get! a).toNat = 101))
    · rw [if_neg (by simp), Bool.false_and, decide_eq_false (by omega)]
    · rw [if_pos rfl, Bool.true_and]
      by_cases h0 : cnt s s.size (sgP s (a + 1)) = 0
      · rw [if_pos h0, h0, ← Bool.not_eq_true]
        simp only [Bool.and_eq_true, decide_eq_true_eq]
        omega
      · rw [if_neg h0, Bool.eq_iff_iff]
        simp only [Bool.and_eq_true, decide_eq_true_eq]
        omega
  · have e : a = s.size := by omega
    rw [decide_eq_true (show s.size - a = 0 by omega), decide_eq_false h, Bool.false_and, if_neg (by simp), decide_eq_true e, Bool.true_or]
theorem dcT_ext (s : ByteArray) (i : Nat) (hi : i ≤ s.size) : dcT (s.extract i s.size) = dcI s i := by
  unfold dcT dcI dcP dcY isPt
  have h1 := cnt_size s s.size i hi
  rw [ext_tot s i hi, ext_ext, ext_hp]
  generalize hc : cnt s s.size i = c at *
  have e : decide (s.get! (i + c) = 46) = decide ((s.get! (i + c)).toNat = 46) := by
    congr 1
    exact propext ⟨fun h => by rw [h]; rfl, fun h => UInt8.toNat_inj.1 h⟩
  rw [e]
  by_cases h : i + c < s.size
  · cases e2 : (decide (i + c < s.size) && decide ((s.get! (i + c)).toNat = 46))
    · rw [if_neg (by simp), if_neg (by simp), dcZ_ext s c _ h1]
    · have h2 := cnt_size s s.size (i + c + 1) (by omega)
      rw [if_pos rfl, if_pos rfl, ext_ext, ext_tot s _ (by omega), ext_ext, ← Nat.add_assoc, dcZ_ext s _ _ h2]
  · rw [decide_eq_false h, Bool.false_and, if_neg (by simp), if_neg (by simp), dcZ_ext s c _ h1]
theorem decimal_eq (s : ByteArray) : dcS s = dcF s := by
  unfold dcS dcF
  have hb := blk_le s s.size 0 (by omega)
  rw [trS_ext, psS_ext, dcT_ext s _ (sgP_le s _ hb.1).1]
/-- What digits say. -/
def vl (a : Nat) (l : List UInt8) : Nat := (l.map fun c => c.toNat).foldl (fun a b => 10 * a + (b - 48)) a
theorem vl_ge : ∀ (l : List UInt8) (a : Nat), a ≤ vl a l
  | [], a => Nat.le_refl _
  | c :: l, a => by
    have := vl_ge l (10 * a + (c.toNat - 48))
    show a ≤ vl (10 * a + (c.toNat - 48)) l
    omega
theorem pu_ok : ∀ (l : List UInt8) (a : Nat), a ≤ 4294967295 → (∀ b ∈ l, dg b.toNat = true) → vl a l ≤ 4294967295 → Lib.parseUintM 4294967295 a l = .ok (vl a l)
  | [], a, _, _, _ => rfl
  | c :: l, a, ha, hd, hv => by
    have h1 := hd c (List.mem_cons_self ..)
    have e : vl a (c :: l) = vl (10 * a + (c.toNat - 48)) l := rfl
    rw [e] at hv
    have h2 := vl_ge l (10 * a + (c.toNat - 48))
    unfold dg at h1
    simp at h1
    rw [Lib.parseUintM, if_pos h1, if_neg (by omega), if_neg (by omega), e, show a * 10 + (c.toNat - 48) = 10 * a + (c.toNat - 48) from by omega]
    exact pu_ok l _ (by omega) (fun b hb => hd b (List.mem_cons_of_mem _ hb)) hv
theorem pu_no : ∀ (l : List UInt8) (a : Nat), a ≤ 4294967295 → ¬ ((∀ b ∈ l, dg b.toNat = true) ∧ vl a l ≤ 4294967295) → ∀ u, Lib.parseUintM 4294967295 a l ≠ .ok u
  | [], a, ha, h, u => absurd ⟨by simp, ha⟩ h
  | c :: l, a, ha, h, u => by
    rw [Lib.parseUintM]
    split
    · rename_i h1
      split
      · simp
      · split
        · simp
        · rw [show a * 10 + (c.toNat - 48) = 10 * a + (c.toNat - 48) from by omega]
          refine pu_no l (10 * a + (c.toNat - 48)) (by omega) (fun ⟨p, q⟩ => h ⟨fun b hb => ?_, q⟩) u
          rcases List.mem_cons.1 hb with rfl | hb'
          · unfold dg; simp [h1]
          · exact p b hb'
    · simp
theorem digs_iff (s : ByteArray) (k : Nat) (hk : k ≤ s.size) : (k + cnt s s.size k = s.size) ↔ ∀ b ∈ s.data.toList.drop k, dg b.toNat = true := by
  constructor
  · intro h b hb
    obtain ⟨j, hj, rfl⟩ := List.getElem_of_mem hb
    rw [drop_len] at hj
    rw [List.getElem_drop]
    have h1 := cnt_at s s.size k j (by omega)
    unfold isD at h1
    simp only [Bool.and_eq_true] at h1
    have : s.data.toList[k + j]'(by rw [Array.length_toList]; show k + j < s.size; omega) = s.get! (k + j) := by
      rw [← get_get! s (k + j) (by omega)]; rfl
    rw [this]
    exact h1.2
  · intro h
    have : cnt s (s.size - k) k = s.size - k := cnt_full s _ _ fun j h1 h2 => by
      unfold isD
      rw [decide_eq_true (by omega), Bool.true_and]
      refine h _ (List.mem_of_getElem? (i := j - k) ?_)
      rw [List.getElem?_drop, show k + (j - k) = j from by omega, list_at s j (by omega)]
    rw [cnt_more s k hk _ (by omega)] at this
    omega
theorem decL_vl (s : ByteArray) (k : Nat) : Rp.decL (Rp.bts (s.extract k s.size)) = vl 0 (s.data.toList.drop k) := by
  rw [ext_drop]; rfl
theorem whole_eq (s : ByteArray) : inP s = whF s := by
  unfold inP whF
  have hb := blk_le s s.size 0 (by omega)
  have ht : (trS s).data.toList = s.data.toList.drop (blk s s.size 0) := by unfold trS; rw [tr_drop]
  rw [ht]
  generalize blk s s.size 0 = i at *
  have hs := sgP_le s i hb.1
  rcases Nat.lt_or_ge i s.size with hi | hi
  · have hd := drop_at s i hi
    have hk : (if (s.get! i).toNat = 43 ∨ (s.get! i).toNat = 45 then s.data.toList.drop (i + 1) else s.get! i :: s.data.toList.drop (i + 1)) = s.data.toList.drop (sgP s i) := by
      unfold sgP isS
      rw [decide_eq_true hi, Bool.true_and]
      by_cases h : (s.get! i).toNat = 43 ∨ (s.get! i).toNat = 45
      · rw [if_pos h, if_pos (by simpa using h)]
      · rw [if_neg h, if_neg (by simpa using h), hd]
    have hik : (i < sgP s i ∧ (s.get! i).toNat = 45) = ((s.get! i).toNat = 45) := by
      apply propext
      refine ⟨fun h => h.2, fun h => ⟨?_, h⟩⟩
      unfold sgP isS
      rw [if_pos (by simp [hi, h])]
      omega
    unfold whI
    simp only [hik]
    rw [hd]
    unfold Lib.parseIntB
    simp only
    rw [hk, decL_vl]
    generalize sgP s i = k at *
    unfold Lib.parseUintB
    by_cases hke : k = s.size
    · have : s.data.toList.drop k = [] := List.eq_nil_of_length_eq_zero (by rw [drop_len]; omega)
      rw [if_pos this, if_pos (.inl hke)]
      rfl
    · have : s.data.toList.drop k ≠ [] := fun x => by have := drop_len s k; rw [x] at this; simp at this; omega
      rw [if_neg this, show 2 ^ 32 - 1 = 4294967295 from rfl, show 2 ^ (32 - 1) = 2147483648 from rfl]
      by_cases hg : k + cnt s s.size k = s.size
      · rw [if_neg (by simp [hke, hg])]
        have hg' := (digs_iff s k (by omega)).1 hg
        by_cases hv : vl 0 (s.data.toList.drop k) ≤ 4294967295
        · rw [pu_ok _ 0 (by omega) hg' hv]
          simp only
          by_cases hn : (s.get! i).toNat = 45
          · simp only [hn, not_true, false_and, if_false, true_and, if_true]
            by_cases h2 : 2147483648 < vl 0 (s.data.toList.drop k)
            · rw [if_pos h2, decide_eq_false (by omega)]; rfl
            · rw [if_neg h2, decide_eq_true (by omega)]; rfl
          · simp only [hn, not_false_eq_true, true_and, false_and, if_false]
            by_cases h2 : 2147483648 ≤ vl 0 (s.data.toList.drop k)
            · rw [if_pos h2, decide_eq_false (by omega)]; rfl
            · rw [if_neg h2, decide_eq_true (by omega)]; rfl
        · have hno := pu_no _ 0 (by omega) (fun z => hv z.2)
          cases hp : Lib.parseUintM 4294967295 0 (s.data.toList.drop k) with
          | ok u => exact absurd hp (hno u)
          | «syntax» =>
            simp only
            split
            · rw [decide_eq_false (by omega)]; rfl
            · rw [decide_eq_false (by omega)]; rfl
          | range =>
            simp only
            split
            · rw [decide_eq_false (by omega)]; rfl
            · rw [decide_eq_false (by omega)]; rfl
      · rw [if_pos (.inr hg)]
        have hno := pu_no _ 0 (by omega) (fun z => hg ((digs_iff s k (by omega)).2 z.1))
        cases hp : Lib.parseUintM 4294967295 0 (s.data.toList.drop k) with
        | ok u => exact absurd hp (hno u)
        | «syntax» => rfl
        | range => rfl
  · have : s.data.toList.drop i = [] := List.eq_nil_of_length_eq_zero (by rw [drop_len]; omega)
    rw [this]
    unfold whI
    rw [if_pos (.inl (by omega))]
    rfl
end Go.Proofs.YtdggplhkeekdjaaGreatDoor.Ck

import Derived.Test.YtdggplhkeekdjaaGreatDoorMe
/-
  DERIVED. Counts of digits; times.
-/
namespace Go.Proofs.YtdggplhkeekdjaaGreatDoor.Ck
open Go Go.Proofs

/-! ### counts of digits -/
theorem isD_lt {s : ByteArray} {i : Nat} (h : isD s i = true) : i < s.size := by
  unfold isD at h; simp at h; exact h.1
/-- Where the digits from a place on end. -/
theorem cnt_end (s : ByteArray) : ∀ m i, s.size ≤ i + m → isD s (i + cnt s m i) = false
  | 0, i, h => by
    show isD s (i + 0) = false
    cases e : isD s (i + 0) with
    | false => rfl
    | true => have := isD_lt e; omega
  | m + 1, i, h => by
    rw [cnt]
    cases e : isD s i with
    | false => rw [if_neg (by simp)]; exact e
    | true =>
      rw [if_pos rfl]
      have := cnt_end s m (i + 1) (by omega)
      rw [show i + (1 + cnt s m (i + 1)) = i + 1 + cnt s m (i + 1) from by omega]
      exact this
theorem cnt_is (s : ByteArray) : ∀ m i n, (∀ k, i ≤ k → k < i + n → isD s k = true) → isD s (i + n) = false → cnt s m i = if m ≤ n then m else n
  | 0, i, n, _, _ => by rw [cnt, if_pos (by omega)]
  | m + 1, i, 0, h1, h2 => by rw [cnt, if_neg (by rw [Nat.add_zero] at h2; simp [h2]), if_neg (by omega)]
  | m + 1, i, n + 1, h1, h2 => by
    rw [cnt, if_pos (h1 i (by omega) (by omega)), cnt_is s m (i + 1) n (fun k a b => h1 k (by omega) (by omega)) (by rw [show i + 1 + n = i + (n + 1) from by omega]; exact h2)]
    by_cases h : m ≤ n
    · rw [if_pos h, if_pos (by omega)]; omega
    · rw [if_neg h, if_neg (by omega)]; omega
/-- All counts, off the number of digits at the front. -/
theorem cnt_min (s : ByteArray) (m i : Nat) (h : i ≤ cnt s s.size 0) : cnt s m i = if m ≤ cnt s s.size 0 - i then m else cnt s s.size 0 - i :=
  cnt_is s m i _ (fun k h1 h2 => by have := cnt_at s s.size 0 k (by omega); rwa [Nat.zero_add] at this) (by
    have := cnt_end s s.size 0 (by omega)
    rw [Nat.zero_add] at this
    rw [show i + (cnt s s.size 0 - i) = cnt s s.size 0 from by omega]
    exact this)
theorem digit_dot {s : ByteArray} {i : Nat} (h : isD s i = true) : (s.get! i).toNat ≠ 46 := by
  unfold isD dg at h; simp at h; omega
/-- Where a clock's parts end. -/
theorem ck_at (s : ByteArray) : ∀ f p i, i ≤ cnt s s.size 0 → ckP s f p i = (p + (if f ≤ (cnt s s.size 0 - i) / 2 then f else (cnt s s.size 0 - i) / 2), i + 2 * (if f ≤ (cnt s s.size 0 - i) / 2 then f else (cnt s s.size 0 - i) / 2))
  | 0, p, i, h => by rw [ckP, if_pos (by omega)]; rfl
  | f + 1, p, i, h => by
    rw [ckP, cnt_min s 2 i h]
    by_cases h2 : 2 ≤ cnt s s.size 0 - i
    · rw [if_pos h2, if_pos rfl, ck_at s f (p + 1) (i + 2) (by omega)]
      by_cases h3 : f ≤ (cnt s s.size 0 - (i + 2)) / 2
      · rw [if_pos h3, if_pos (by omega)]
        apply Prod.ext <;> simp only <;> omega
      · rw [if_neg h3, if_neg (by omega)]
        apply Prod.ext <;> simp only <;> omega
    · rw [if_neg h2, if_neg (by omega), if_neg (by omega)]
      have : (cnt s s.size 0 - i) / 2 = 0 := by omega
      rw [this]; rfl
theorem ext_cnt (s : ByteArray) (k : Nat) : ∀ m i, cnt (s.extract k s.size) m i = cnt s m (k + i)
  | 0, _ => rfl
  | m + 1, i => by
    have e : isD (s.extract k s.size) i = isD s (k + i) := by
      unfold isD
      rw [ByteArray.size_extract]
      by_cases h : k + i < s.size
      · rw [get_ext s k i h, decide_eq_true h, decide_eq_true (by omega)]
      · rw [decide_eq_false h, decide_eq_false (by omega), Bool.false_and, Bool.false_and]
    rw [cnt, cnt, e, ext_cnt s k m (i + 1), Nat.add_assoc]
theorem ext_size (s : ByteArray) (k : Nat) : (s.extract k s.size).size = s.size - k := by rw [ByteArray.size_extract]; omega
theorem ext_ext (s : ByteArray) (k j : Nat) : (s.extract k s.size).extract j (s.extract k s.size).size = s.extract (k + j) s.size := by
  rw [ext_drop, ext_drop, ext_drop, bl_back, List.drop_drop]
theorem ext_hp (s : ByteArray) (k : Nat) (c : UInt8) : hp1 (s.extract k s.size) c = (decide (k < s.size) && decide (s.get! k = c)) := by
  unfold hp1
  rw [ext_size]
  by_cases h : k < s.size
  · rw [get_ext s k 0 (by omega), decide_eq_true h, decide_eq_true (by omega), Nat.add_zero]
  · rw [decide_eq_false h, decide_eq_false (by omega), Bool.false_and, Bool.false_and]
theorem ext_al (s : ByteArray) (k : Nat) : alD (s.extract k s.size) = (decide (k < s.size) && decide (k + cnt s s.size k = s.size)) := by
  unfold alD
  rw [ext_cnt, ext_size, Nat.add_zero]
  by_cases h : k < s.size
  · rw [decide_eq_true h, decide_eq_true (by omega), Bool.true_and, Bool.true_and]
    have e : cnt s (s.size - k) k = cnt s s.size k := by
      have h1 := cnt_end s (s.size - k) k (by omega)
      have h2 := cnt_le s (s.size - k) k
      rw [cnt_is s s.size k (cnt s (s.size - k) k) (fun j a b => by have := cnt_at s (s.size - k) k (j - k) (by omega); rwa [show k + (j - k) = j from by omega] at this) h1]
      have := cnt_size s (s.size - k) k (by omega)
      split
      · omega
      · rfl
    rw [e]
    congr 1
    apply propext
    omega
  · rw [decide_eq_false h, decide_eq_false (by omega), Bool.false_and, Bool.false_and]
theorem ext_fr (s : ByteArray) (k : Nat) : frB (s.extract k s.size) = (decide (k < s.size) && (decide ((s.get! k).toNat = 46) && (decide (s.size ≤ k + 7) && (decide (k + 1 < s.size) && decide (k + 1 + cnt s s.size (k + 1) = s.size))))) := by
  unfold frB cp1
  rw [ext_hp]
  have e46 : (s.get! k = 46) = ((s.get! k).toNat = 46) := propext ⟨fun h => by rw [h]; rfl, fun h => UInt8.toNat_inj.1 h⟩
  by_cases h : k < s.size
  · by_cases h4 : s.get! k = 46
    · have h4' : (s.get! k).toNat = 46 := by rw [h4]; rfl
      rw [decide_eq_true h, decide_eq_true h4, decide_eq_true h4', Bool.and_self, if_pos rfl, Bool.true_and, Bool.true_and, Bool.true_and, ext_ext, ext_al, ext_size]
      congr 2
      apply propext
      omega
    · have h4' : ¬ (s.get! k).toNat = 46 := fun x => h4 (UInt8.toNat_inj.1 x)
      rw [decide_eq_false h4, decide_eq_false h4']
      simp
  · rw [decide_eq_false h]; simp
theorem size_6 (s : ByteArray) (k : Nat) (hk : k ≤ s.size) : (s.size ≤ k + 6 ∧ k < s.size ∧ k + cnt s s.size k = s.size) ↔ (cnt s 6 k ≠ 0 ∧ k + cnt s 6 k = s.size) := by
  have h1 := cnt_end s s.size k (by omega)
  have h2 := cnt_size s s.size k hk
  rw [cnt_is s 6 k (cnt s s.size k) (fun j a b => by have := cnt_at s s.size k (j - k) (by omega); rwa [show k + (j - k) = j from by omega] at this) h1]
  split <;> omega
theorem time_eq (s : ByteArray) : tmF s = (clk s 0 == (s.size : Int)) := by
  unfold tmF pcB clk fin0 fin1
  rw [ck_at s 3 0 0 (by omega)]
  have hn := cnt_size s s.size 0 (by omega)
  rw [Nat.zero_add] at hn
  have he := cnt_end s s.size 0 (by omega)
  rw [Nat.zero_add] at he
  have hd : ∀ k, k < cnt s s.size 0 → (s.get! k).toNat ≠ 46 := fun k hk => digit_dot (by have := cnt_at s s.size 0 k hk; rwa [Nat.zero_add] at this)
  rw [ext_fr]
  simp only [Nat.zero_add, Nat.sub_zero]
  have h6 := size_6 s (6 + 1)
  by_cases h3 : 3 ≤ cnt s s.size 0 / 2
  · simp only [if_pos h3, Nat.reduceMul, Nat.reduceAdd]
    simp only [Nat.reduceAdd] at h6
    rw [if_neg (show ¬ (3 = 0) by omega)]
    by_cases ho : cnt s s.size 0 < 2 ∨ 6 < cnt s s.size 0 ∨ cnt s s.size 0 % 2 ≠ 0
    · rw [if_pos ho, eq_comm, beq_eq_false_iff_ne, if_neg (fun x => hd 6 (by omega) x.2.2)]; omega
    · have hn6 : cnt s s.size 0 = 6 := by omega
      rw [if_neg ho, hn6]
      simp only [Nat.reduceAdd]
      by_cases hdot : 6 < s.size ∧ (s.get! 6).toNat = 46
      · rw [if_pos (by exact ⟨trivial, hdot⟩), decide_eq_true hdot.1, decide_eq_true hdot.2, decide_eq_false (show ¬ 6 = s.size by omega)]
        have h7 := h6 (by omega)
        by_cases hx : s.size ≤ 13 ∧ 7 < s.size ∧ 7 + cnt s s.size 7 = s.size
        · have hy := h7.1 hx
          rw [if_neg hy.1, decide_eq_true hx.1, decide_eq_true hx.2.1, decide_eq_true hx.2.2, eq_comm, hy.2]
          simp
        · have hy := fun z => hx (h7.2 z)
          have e1 : (decide (s.size ≤ 13) && (decide (7 < s.size) && decide (7 + cnt s s.size 7 = s.size))) = false := by
            rw [← Bool.not_eq_true]; intro z; simp at z; exact hx ⟨z.1, z.2.1, z.2.2⟩
          rw [e1]
          by_cases h00 : cnt s 6 7 = 0
          · rw [if_pos h00, eq_comm]
            simp
          · rw [if_neg h00, eq_comm]
            have : ¬ (7 + cnt s 6 7 = s.size) := fun z => hy ⟨h00, z⟩
            simp
            omega
      · rw [if_neg (fun z => hdot z.2)]
        have e1 : (decide (6 < s.size) && (decide ((s.get! 6).toNat = 46) && (decide (s.size ≤ 13) && (decide (7 < s.size) && decide (7 + cnt s s.size 7 = s.size))))) = false := by
          rw [← Bool.not_eq_true]; intro z; simp at z; exact hdot ⟨z.1, z.2.1⟩
        rw [e1, Bool.and_false, Bool.or_false]
        by_cases hz : 6 = s.size
        · rw [decide_eq_true hz, eq_comm, ← hz]; rfl
        · rw [decide_eq_false hz, eq_comm, beq_eq_false_iff_ne]; omega
  · simp only [if_neg h3]
    by_cases ho : cnt s s.size 0 < 2 ∨ 6 < cnt s s.size 0 ∨ cnt s s.size 0 % 2 ≠ 0
    · rw [if_pos ho, eq_comm, beq_eq_false_iff_ne]
      by_cases h0 : cnt s s.size 0 / 2 = 0
      · rw [if_pos h0]; omega
      · rw [if_neg h0, if_neg (by omega)]; omega
    · rw [if_neg ho, if_neg (by omega), if_neg (by omega), decide_eq_false (show ¬ cnt s s.size 0 = 6 by omega), Bool.false_and, Bool.or_false]
      by_cases hz : cnt s s.size 0 = s.size
      · rw [decide_eq_true hz, eq_comm, beq_iff_eq]; omega
      · rw [decide_eq_false hz, eq_comm, beq_eq_false_iff_ne]; omega
end Go.Proofs.YtdggplhkeekdjaaGreatDoor.Ck

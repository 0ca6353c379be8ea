import Derived.Test.YtdggplhkeekdjaaGreatDoorMf
/-
  DERIVED. Moments.
-/
namespace Go.Proofs.YtdggplhkeekdjaaGreatDoor.Ck
open Go Go.Proofs

/-! ### moments -/
/-- Where a moment without its zone ends. -/
def mE (s : ByteArray) (n : Nat) : Nat := if n < 6 then 4 else if n < 8 then 6 else if n < 10 then 8 else if n < 12 then 10 else if n < 14 then 12 else if n = 14 ∧ 14 < s.size ∧ (s.get! 14).toNat = 46 then (if cnt s 6 15 = 0 then 8 else 15 + cnt s 6 15) else 14
theorem mom_at (s : ByteArray) (h4 : 4 ≤ cnt s s.size 0) : momI s = mE s (cnt s s.size 0) := by
  have hd : ∀ k, k < cnt s s.size 0 → (s.get! k).toNat ≠ 46 := fun k hk => digit_dot (by have := cnt_at s s.size 0 k hk; rwa [Nat.zero_add] at this)
  have hm : mdP s 2 4 = if cnt s s.size 0 < 6 then 4 else if cnt s s.size 0 < 8 then 6 else 8 := by
    rw [mdP, cnt_min s 2 4 h4]
    by_cases h6 : cnt s s.size 0 < 6
    · rw [if_neg (show ¬ 2 ≤ cnt s s.size 0 - 4 by omega), if_neg (by omega), if_pos h6]
    · rw [if_pos (show 2 ≤ cnt s s.size 0 - 4 by omega), if_pos rfl, if_neg h6, mdP, cnt_min s 2 6 (by omega)]
      by_cases h8 : cnt s s.size 0 < 8
      · rw [if_neg (show ¬ 2 ≤ cnt s s.size 0 - 6 by omega), if_neg (by omega), if_pos h8]
      · rw [if_pos (show 2 ≤ cnt s s.size 0 - 6 by omega), if_pos rfl, if_neg h8, mdP]
  unfold momI
  rw [hm]
  unfold mE
  by_cases h6 : cnt s s.size 0 < 6
  · rw [if_pos h6, if_neg (by omega), if_pos h6]
  rw [if_neg h6, if_neg h6]
  by_cases h8 : cnt s s.size 0 < 8
  · rw [if_pos h8, if_neg (by omega), if_pos h8]
  rw [if_neg h8, if_pos rfl, if_neg h8]
  have hc : clk s 8 = fin0 s (if 3 ≤ (cnt s s.size 0 - 8) / 2 then 3 else (cnt s s.size 0 - 8) / 2) (8 + 2 * (if 3 ≤ (cnt s s.size 0 - 8) / 2 then 3 else (cnt s s.size 0 - 8) / 2)) := by
    unfold clk
    rw [ck_at s 3 0 8 (by omega), Nat.zero_add]
  rw [hc]
  by_cases h10 : cnt s s.size 0 < 10
  · have e : (cnt s s.size 0 - 8) / 2 = 0 := by omega
    rw [e, if_pos h10]
    simp [fin0]
  rw [if_neg h10]
  by_cases h12 : cnt s s.size 0 < 12
  · have e : (cnt s s.size 0 - 8) / 2 = 1 := by omega
    rw [e, if_pos h12]
    simp [fin0]
  rw [if_neg h12]
  by_cases h14 : cnt s s.size 0 < 14
  · have e : (cnt s s.size 0 - 8) / 2 = 2 := by omega
    rw [e, if_pos h14]
    simp [fin0]
  rw [if_neg h14, if_pos (show 3 ≤ (cnt s s.size 0 - 8) / 2 by omega)]
  unfold fin0 fin1
  simp only [Nat.reduceMul, Nat.reduceAdd]
  rw [if_neg (show ¬ (3 = 0) by omega)]
  by_cases hx : cnt s s.size 0 = 14 ∧ 14 < s.size ∧ (s.get! 14).toNat = 46
  · rw [if_pos hx, if_pos (c := True ∧ 14 < s.size ∧ (s.get! 14).toNat = 46) ⟨trivial, hx.2⟩]
    by_cases h0 : cnt s 6 15 = 0
    · simp only [if_pos h0]
      rfl
    · simp only [if_neg h0]
      rw [if_pos (by omega)]; omega
  · rw [if_neg hx, if_neg (c := True ∧ 14 < s.size ∧ (s.get! 14).toNat = 46) (fun z => ?_)]
    · rfl
    · rcases Nat.lt_or_ge 14 (cnt s s.size 0) with h | h
      · exact hd 14 h z.2.2
      · exact hx ⟨by omega, z.2⟩
theorem pc_mom (s : ByteArray) : pcB s 4 14 = (decide (cnt s 4 0 = 4) && decide (momI s = s.size)) := by
  unfold pcB
  have hn := cnt_size s s.size 0 (by omega)
  rw [Nat.zero_add] at hn
  rw [ext_fr, cnt_min s 4 0 (by omega), Nat.sub_zero]
  have h6 := size_6 s 15
  by_cases h4 : 4 ≤ cnt s s.size 0
  · rw [mom_at s h4, if_pos h4, decide_eq_true rfl, Bool.true_and]
    unfold mE
    by_cases ho : cnt s s.size 0 < 4 ∨ 14 < cnt s s.size 0 ∨ cnt s s.size 0 % 2 ≠ 0
    · rw [if_pos ho, eq_comm, decide_eq_false_iff_not]
      repeat' split
      all_goals omega
    rw [if_neg ho]
    by_cases h14 : cnt s s.size 0 = 14
    · rw [h14]
      simp only [Nat.reduceAdd, Nat.reduceLT, if_false, Nat.lt_irrefl]
      by_cases hdot : 14 < s.size ∧ (s.get! 14).toNat = 46
      · rw [if_pos (by exact ⟨trivial, hdot⟩), decide_eq_true hdot.1, decide_eq_true hdot.2, decide_eq_false (show ¬ 14 = s.size by omega)]
        have h7 := h6 (by omega)
        by_cases hx : s.size ≤ 21 ∧ 15 < s.size ∧ 15 + cnt s s.size 15 = s.size
        · have hy := h7.1 hx
          rw [if_neg hy.1, decide_eq_true hx.1, decide_eq_true hx.2.1, decide_eq_true hx.2.2, eq_comm, hy.2]
          simp
        · have hy := fun z => hx (h7.2 z)
          have e1 : (decide (s.size ≤ 21) && (decide (15 < s.size) && decide (15 + cnt s s.size 15 = s.size))) = false := by
            rw [← Bool.not_eq_true]; intro z; simp at z; exact hx ⟨z.1, z.2.1, z.2.2⟩
          rw [e1]
          by_cases h00 : cnt s 6 15 = 0
          · rw [if_pos h00, eq_comm]
            simp
            omega
          · rw [if_neg h00, eq_comm]
            have : ¬ (15 + cnt s 6 15 = s.size) := fun z => hy ⟨h00, z⟩
            simp [this]
      · rw [if_neg (fun z => hdot z.2)]
        have e1 : (decide (14 < s.size) && (decide ((s.get! 14).toNat = 46) && (decide (s.size ≤ 21) && (decide (15 < s.size) && decide (15 + cnt s s.size 15 = s.size))))) = false := by
          rw [← Bool.not_eq_true]; intro z; simp at z; exact hdot ⟨z.1, z.2.1⟩
        rw [e1, Bool.and_false, Bool.or_false]
    · rw [decide_eq_false h14, Bool.false_and, Bool.or_false]
      congr 1
      apply propext
      repeat' split
      all_goals omega
  · rw [if_pos (.inl (by omega)), if_neg h4, decide_eq_false (by omega)]; rfl
/-! ### what is read ends ahead of a sign -/
theorem ext0_size (s : ByteArray) (x : Nat) (h : x ≤ s.size) : (s.extract 0 x).size = x := by rw [ByteArray.size_extract]; omega
theorem ext0_get (s : ByteArray) (x k : Nat) (hx : x ≤ s.size) (h : k < x) : (s.extract 0 x).get! k = s.get! k := by
  rw [← get_get! _ k (by rw [ext0_size s x hx]; exact h), ← get_get! s k (by omega), ByteArray.getElem_extract]
  simp
theorem ext0_isD (s : ByteArray) (x : Nat) (hx : x ≤ s.size) (h : isD s x = false) (k : Nat) (hk : k ≤ x) : isD (s.extract 0 x) k = isD s k := by
  rcases Nat.lt_or_ge k x with h1 | h1
  · unfold isD
    rw [ext0_size s x hx, ext0_get s x k hx h1, decide_eq_true h1, decide_eq_true (by omega)]
  · have e : k = x := by omega
    rw [e, h]
    unfold isD
    rw [ext0_size s x hx, decide_eq_false (by omega)]; rfl
theorem ext0_cnt (s : ByteArray) (x : Nat) (hx : x ≤ s.size) (h : isD s x = false) : ∀ m k, k ≤ x → cnt (s.extract 0 x) m k = cnt s m k
  | 0, _, _ => rfl
  | m + 1, k, hk => by
    rw [cnt, cnt, ext0_isD s x hx h k hk]
    cases e : isD s k with
    | false => rw [if_neg (by simp), if_neg (by simp)]
    | true =>
      have : k ≠ x := fun z => by rw [z, h] at e; cases e
      rw [if_pos rfl, if_pos rfl, ext0_cnt s x hx h m (k + 1) (by omega)]
theorem cnt_some (s : ByteArray) (m : Nat) (h : s.size ≤ m) : cnt s m 0 = cnt s s.size 0 := by
  have h2 := cnt_size s s.size 0 (by omega)
  rw [cnt_min s m 0 (by omega)]
  split <;> omega
theorem ext0_all (s : ByteArray) (x : Nat) (hx : x ≤ s.size) (h : isD s x = false) : cnt (s.extract 0 x) (s.extract 0 x).size 0 = cnt s s.size 0 := by
  rw [← cnt_some (s.extract 0 x) s.size (by rw [ext0_size s x hx]; exact hx), ext0_cnt s x hx h s.size 0 (by omega)]
theorem ext0_mom (s : ByteArray) (x : Nat) (hx : x ≤ s.size) (h : isD s x = false) (hp : x < s.size → (s.get! x).toNat ≠ 46) (h4 : 4 ≤ cnt s s.size 0) : momI (s.extract 0 x) = momI s := by
  have he := ext0_all s x hx h
  rw [mom_at s h4, mom_at _ (by rw [he]; exact h4), he]
  unfold mE
  have hz := ext0_size s x hx
  have hn := cnt_size (s.extract 0 x) (s.extract 0 x).size 0 (by omega)
  rw [he, hz, Nat.zero_add] at hn
  rw [hz]
  by_cases h14 : cnt s s.size 0 = 14
  · rw [h14] at hn ⊢
    simp only [Nat.reduceLT, if_false, Nat.lt_irrefl]
    by_cases hd : 14 < s.size ∧ (s.get! 14).toNat = 46
    · have h1 : 14 < x := by
        rcases Nat.lt_or_ge 14 x with g | g
        · exact g
        · have e : x = 14 := by omega
          rw [e] at hp
          exact absurd hd.2 (hp hd.1)
      rw [ext0_get s x 14 hx h1, ext0_cnt s x hx h 6 15 (by omega)]
      rw [if_pos (c := True ∧ 14 < x ∧ (s.get! 14).toNat = 46) ⟨trivial, h1, hd.2⟩, if_pos (c := True ∧ 14 < s.size ∧ (s.get! 14).toNat = 46) ⟨trivial, hd⟩]
    · rw [if_neg (c := True ∧ 14 < s.size ∧ (s.get! 14).toNat = 46) (fun z => hd z.2), if_neg (c := True ∧ 14 < x ∧ ((s.extract 0 x).get! 14).toNat = 46) (fun z => hd ?_)]
      rw [ext0_get s x 14 hx z.2.1] at z
      exact ⟨by omega, z.2.2⟩
  · simp only [h14, false_and, if_false]
/-- Where the first sign stands. -/
theorem sg_first : ∀ l : List UInt8, 0 ≤ Lib.indexAny l [43, 45] → ∃ b, l[(Lib.indexAny l [43, 45]).toNat]? = some b ∧ (b = 43 ∨ b = 45) ∧ ∀ k, k < (Lib.indexAny l [43, 45]).toNat → ∀ c, l[k]? = some c → c ≠ 43 ∧ c ≠ 45
  | [], h => by simp [Lib.indexAny] at h
  | b :: l, h => by
    unfold Lib.indexAny at h ⊢
    by_cases hb : ([43, 45] : List UInt8).contains b = true
    · rw [if_pos hb]
      refine ⟨b, rfl, by simpa using hb, fun k hk => ?_⟩
      simp at hk
    · rw [if_neg hb] at h ⊢
      by_cases h1 : (Lib.indexAny l [43, 45] == -1) = true
      · rw [if_pos h1] at h; omega
      · rw [if_neg h1] at h ⊢
        have h2 := Lib.indexAny_ge [43, 45] l
        have h3 : Lib.indexAny l [43, 45] ≠ -1 := by simpa using h1
        obtain ⟨c, e1, e2, e3⟩ := sg_first l (by omega)
        have e4 : (Lib.indexAny l [43, 45] + 1).toNat = (Lib.indexAny l [43, 45]).toNat + 1 := by omega
        rw [e4]
        refine ⟨c, e1, e2, fun k hk d hd => ?_⟩
        cases k with
        | zero =>
          simp at hd hb
          rw [← hd]
          exact hb
        | succ k => exact e3 k (by omega) d hd
theorem sg_none : ∀ l : List UInt8, ¬ 0 ≤ Lib.indexAny l [43, 45] → ∀ c ∈ l, c ≠ 43 ∧ c ≠ 45
  | [], _, c, hc => by cases hc
  | b :: l, h, c, hc => by
    unfold Lib.indexAny at h
    by_cases hb : ([43, 45] : List UInt8).contains b = true
    · rw [if_pos hb] at h; omega
    · rw [if_neg hb] at h
      have h2 := Lib.indexAny_ge [43, 45] l
      rcases List.mem_cons.1 hc with rfl | hc'
      · simpa using hb
      · refine sg_none l (fun h3 => h ?_) c hc'
        rw [if_neg (by simp; omega)]
        omega
theorem list_at (s : ByteArray) (k : Nat) (h : k < s.size) : s.data.toList[k]? = some (s.get! k) := by
  rw [List.getElem?_eq_getElem (by rw [Array.length_toList]; exact h), ← get_get! s k h]; rfl
theorem isS_iff (s : ByteArray) (k : Nat) : isS s k = true ↔ k < s.size ∧ (s.get! k = 43 ∨ s.get! k = 45) := by
  unfold isS
  simp only [Bool.and_eq_true, decide_eq_true_eq, Bool.or_eq_true]
  constructor
  · rintro ⟨h, h1 | h1⟩
    · exact ⟨h, .inl (UInt8.toNat_inj.1 h1)⟩
    · exact ⟨h, .inr (UInt8.toNat_inj.1 h1)⟩
  · rintro ⟨h, h1 | h1⟩
    · exact ⟨h, .inl (by rw [h1]; rfl)⟩
    · exact ⟨h, .inr (by rw [h1]; rfl)⟩
theorem mE_le (s : ByteArray) (h4 : 4 ≤ cnt s s.size 0) : momI s ≤ s.size := by
  have hn := cnt_size s s.size 0 (by omega)
  rw [mom_at s h4]
  unfold mE
  have h5 : 14 < s.size → 15 + cnt s 6 15 ≤ s.size := fun h => cnt_size s 6 15 (by omega)
  repeat' split
  all_goals omega
theorem moment_eq (s : ByteArray) : moP s = momF s := by
  unfold moP momF
  have hn := cnt_size s s.size 0 (by omega)
  have hc4 := cnt_min s 4 0 (by omega)
  rw [Nat.sub_zero] at hc4
  by_cases h : 0 ≤ sgX s
  · rw [if_pos h]
    obtain ⟨b, e1, e2, e3⟩ := sg_first s.data.toList h
    have hx : (sgX s).toNat < s.size := by
      have := (List.getElem?_eq_some_iff.1 e1).1
      rw [Array.length_toList] at this
      exact this
    have e0 : b = s.get! (sgX s).toNat := by
      have := list_at s (sgX s).toNat hx
      have e1' : s.data.toList[(sgX s).toNat]? = some b := e1
      rw [this] at e1'
      exact (Option.some.inj e1').symm
    have e3' : ∀ k, k < (sgX s).toNat → s.get! k ≠ 43 ∧ s.get! k ≠ 45 := fun k hk => e3 k hk _ (list_at s k (by omega))
    rw [e0] at e2
    generalize (sgX s).toNat = x at *
    have hD : isD s x = false := by
      unfold isD dg
      rcases e2 with e2 | e2 <;> rw [e2] <;> simp
    have hP : (s.get! x).toNat ≠ 46 := by rcases e2 with e2 | e2 <;> rw [e2] <;> decide
    have hS : isS s x = true := (isS_iff s x).2 ⟨hx, e2⟩
    rw [pc_mom, ext0_cnt s x (by omega) hD 4 0 (by omega)]
    by_cases h4 : cnt s 4 0 = 4
    · have h4' : 4 ≤ cnt s s.size 0 := by rw [hc4] at h4; split at h4 <;> omega
      rw [if_pos h4, decide_eq_true h4, Bool.true_and, ext0_mom s x (by omega) hD (fun _ => hP) h4', ext0_size s x (by omega)]
      have hle : momI s ≤ x := by
        have := mE_le (s.extract 0 x) (by rw [ext0_all s x (by omega) hD]; exact h4')
        rwa [ext0_mom s x (by omega) hD (fun _ => hP) h4', ext0_size s x (by omega)] at this
      unfold momE
      by_cases hm : momI s = x
      · rw [hm, if_pos hS, decide_eq_true rfl, Bool.true_and]
        unfold znB
        rw [ext_al, ext_size]
        have hq := cnt_end s s.size (x + 1) (by omega)
        have hq2 := cnt_size s s.size (x + 1) (by omega)
        rw [cnt_is s 4 (x + 1) (cnt s s.size (x + 1)) (fun j a b => by have := cnt_at s s.size (x + 1) (j - (x + 1)) (by omega); rwa [show (x + 1) + (j - (x + 1)) = j from by omega] at this) hq]
        rw [Bool.eq_iff_iff]
        simp only [Bool.and_eq_true, decide_eq_true_eq]
        split <;> omega
      · rw [decide_eq_false hm, Bool.false_and]
        have hns : ¬ isS s (momI s) = true := fun z => by
          have h1 := ((isS_iff s _).1 z).2
          have h2 := e3' (momI s) (by omega)
          rcases h1 with h1 | h1
          · exact h2.1 h1
          · exact h2.2 h1
        rw [if_neg hns, decide_eq_false (by omega)]
    · rw [if_neg h4, decide_eq_false h4]; rfl
  · rw [if_neg h, pc_mom]
    by_cases h4 : cnt s 4 0 = 4
    · rw [if_pos h4, decide_eq_true h4, Bool.true_and]
      unfold momE
      have hns : ¬ isS s (momI s) = true := fun z => by
        obtain ⟨h0, h1⟩ := (isS_iff s _).1 z
        have h2 := sg_none s.data.toList h (s.get! (momI s)) (List.mem_of_getElem? (list_at s _ h0))
        rcases h1 with h1 | h1
        · exact h2.1 h1
        · exact h2.2 h1
      rw [if_neg hns]
    · rw [if_neg h4, decide_eq_false h4]; rfl
end Go.Proofs.YtdggplhkeekdjaaGreatDoor.Ck

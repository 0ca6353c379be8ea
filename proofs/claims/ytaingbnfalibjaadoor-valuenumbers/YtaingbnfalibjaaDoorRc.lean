import Derived.Test.YtaingbnfalibjaaDoorRb
/-
  DERIVED. Each number's text is read back as the number.
-/
namespace Go.Proofs.YtaingbnfalibjaaDoor
open Go Go.Proofs Go.RowKit NumLine

theorem dec_ne (u : Nat) : Lib.decDigits u ≠ [] := List.length_pos_iff.1 (dec_pos u)
theorem itoa_form (e : Int) : Lib.itoa e = sgL (decide (e < 0)) ++ Lib.decDigits e.natAbs := by
  unfold Lib.itoa sgL
  by_cases h : e < 0
  · rw [if_pos h, decide_eq_true h, if_pos rfl]; rfl
  · rw [if_neg h, decide_eq_false h, if_neg (by decide), show e.toNat = e.natAbs by omega]; rfl
theorem prT_form (a : Nm) : prT a = sgL a.neg ++ shT a := by
  unfold prT sgL
  cases a.neg with
  | true => rfl
  | false => rfl

/-- The text is sound, and says the number, perhaps with zeros behind. -/
structure Says (a : Nm) (T : List UInt8) : Prop where
  ok : Ok (ba T)
  neg : nNeg (ba T) = a.neg
  val : ∃ k : Nat, val (nD (ba T)).data.toList = a.d * 10 ^ k ∧ nX (ba T) = a.e - (k : Int)

theorem ba_list (l : List UInt8) : (ba l).data.toList = l := by simp [ba]
theorem says_E (a : Nm) (hl : (sgL a.neg ++ shE a).length ≤ 16) : Says a (sgL a.neg ++ shE a) := by
  have hf : sgL a.neg ++ shE a = sgL a.neg ++ (Lib.decDigits a.d ++ 69 :: (sgL (decide (a.e < 0)) ++ Lib.decDigits a.e.natAbs)) := by unfold shE; rw [itoa_form]
  obtain ⟨h1, h2, h3, h4⟩ := back_exp hf (val_dec a.d).2 (dec_ne _) (val_dec a.e.natAbs).2 (dec_ne _) hl
  refine ⟨h1, h2, 0, ?_, ?_⟩
  · rw [h3, ba_list, (val_dec a.d).1]; simp
  · rw [h4, (val_dec a.e.natAbs).1]
    by_cases h : a.e < 0
    · rw [decide_eq_true h, if_pos rfl]; omega
    · rw [decide_eq_false h, if_neg (by decide)]; omega
theorem says_pos (a : Nm) (he : 0 ≤ a.e) (hl : (sgL a.neg ++ shP a).length ≤ 16) : Says a (sgL a.neg ++ shP a) := by
  have hf : sgL a.neg ++ shP a = sgL a.neg ++ ((Lib.decDigits a.d ++ Lib.repeatL [48] a.e.toNat) ++ ([] ++ [])) := by unfold shP pPos; rw [if_pos he]; simp
  obtain ⟨h1, h2, h3, h4⟩ := back_plain hf (fun b hb => by
    rw [List.mem_append] at hb
    rcases hb with hb | hb
    · exact (val_dec a.d).2 b hb
    · exact zeros_dig _ b hb) (by intro h; exact dec_ne _ (List.append_eq_nil_iff.1 h).1) (by simp) (.inl ⟨rfl, rfl⟩) hl
  refine ⟨h1, h2, a.e.toNat, ?_, ?_⟩
  · rw [h3, ba_list, List.append_nil]
    unfold val
    rw [valN_app, valN_zeros]
    congr 1
    exact (val_dec a.d).1
  · rw [h4]
    simp
    omega
theorem says_neg (a : Nm) (he : ¬ 0 ≤ a.e) (hl : (sgL a.neg ++ shP a).length ≤ 16) : Says a (sgL a.neg ++ shP a) := by
  obtain ⟨n, hn⟩ : ∃ n, (-a.e).toNat = n := ⟨_, rfl⟩
  obtain ⟨E, hE⟩ : ∃ E, Lib.repeatL [48] (1 + n - (Lib.decDigits a.d).length) ++ Lib.decDigits a.d = E := ⟨_, rfl⟩
  have hEl : n < E.length := by
    rw [← hE, List.length_append, Lib.repeatL_length]
    simp
    omega
  have hEd : ∀ b ∈ E, dig b = true := fun b hb => by
    rw [← hE, List.mem_append] at hb
    rcases hb with hb | hb
    · exact zeros_dig _ b hb
    · exact (val_dec a.d).2 b hb
  have hf : sgL a.neg ++ shP a = sgL a.neg ++ (E.take (E.length - n) ++ ([46] ++ E.drop (E.length - n))) := by
    unfold shP ptAt
    rw [if_neg he, hn, hE]
    rfl
  obtain ⟨h1, h2, h3, h4⟩ := back_plain hf (fun b hb => hEd b (List.mem_of_mem_take hb)) (by
    intro h
    have := congrArg List.length h
    rw [List.length_take, List.length_nil] at this
    omega) (fun b hb => hEd b (List.mem_of_mem_drop hb)) (.inr rfl) hl
  refine ⟨h1, h2, 0, ?_, ?_⟩
  · rw [h3, ba_list, List.take_append_drop, ← hE]
    unfold val
    rw [valN_app, valN_zeros]
    simp
    exact (val_dec a.d).1
  · rw [h4, List.length_drop]
    omega
theorem says (a : Nm) (hl : (prT a).length ≤ 16) : Says a (prT a) := by
  rw [prT_form] at hl ⊢
  unfold shT at hl ⊢
  by_cases h1 : a.e < -16 ∨ 16 < a.e
  · rw [if_pos h1] at hl ⊢
    exact says_E a hl
  · rw [if_neg h1] at hl ⊢
    by_cases h2 : (shP a).length ≤ (shE a).length
    · rw [if_pos h2] at hl ⊢
      by_cases h3 : 0 ≤ a.e
      · exact says_pos a h3 hl
      · exact says_neg a h3 hl
    · rw [if_neg h2] at hl ⊢
      exact says_E a hl
/-- What is printed is read back. -/
theorem read_back {a r : Nm} {o : Option (Int × Int)} (hc : Canon a) (hl : (prT a).length ≤ 16) (h : PN (ba (prT a)) r o) : o = none ∧ r = a := by
  have S := says a hl
  obtain ⟨k, h1, h2⟩ := S.val
  rcases h with ⟨_, hx, ho⟩ | ⟨hn, _⟩
  · refine ⟨ho, ?_⟩
    rcases hc with ⟨hz, hn, he⟩ | hc
    · rw [h1, hz, Nat.zero_mul] at hx
      rcases hx with ⟨_, rfl⟩ | ⟨h0, _⟩
      · obtain ⟨an, ad, ae⟩ := a
        dsimp only at *
        subst hz hn he
        rfl
      · exact absurd rfl h0
    · exact ex_one hx hc k S.neg h1 h2
  · exact absurd S.ok hn

/-- What is read is in its one form, and small. -/
theorem read_canon {s : ByteArray} {r : Nm} {o : Option (Int × Int)} (h : PN s r o) : Canon r ∧ r.d < 10000000000000000 ∧ -100000000000000000 ≤ r.e ∧ r.e ≤ 100000000000000000 := by
  rcases h with ⟨hok, hx, _⟩ | ⟨_, rfl, _⟩
  · have hs := hok.1
    have hN := nD_lt s hs
    have hw := whV_lt s hs (n4 s)
    have h3 := n3_le s
    have hXb : -20000000000000000 ≤ nX s ∧ nX s ≤ 20000000000000000 := by unfold nX; split <;> omega
    rcases hx with ⟨_, rfl⟩ | ⟨h0, k, e1, e2, e3, e4⟩
    · exact ⟨.inl ⟨rfl, rfl, rfl⟩, by decide, by decide, by decide⟩
    · have hk := pow_small e2 (by omega) h0
      have hle : r.d * 1 ≤ r.d * 10 ^ k := Nat.mul_le_mul_left _ (Nat.pow_pos (by decide))
      exact ⟨.inr e3, by omega, by omega, by omega⟩
  · exact ⟨.inl ⟨rfl, rfl, rfl⟩, by decide, by decide, by decide⟩
end Go.Proofs.YtaingbnfalibjaaDoor

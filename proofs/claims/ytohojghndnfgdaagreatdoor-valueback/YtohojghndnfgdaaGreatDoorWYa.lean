import Derived.Test.YtohojghndnfgdaaGreatDoorWDf
/-
  DERIVED. A whole number's text is read back.
-/
namespace Go.Proofs.YtohojghndnfgdaaGreatDoor.Wh
open Go Go.Proofs Go.RowKit

def ba (l : List UInt8) : ByteArray := ⟨l.toArray⟩
theorem ba_size (l : List UInt8) : (ba l).size = l.length := by show l.toArray.size = _; rw [List.size_toArray]
theorem ba_ext (l : List UInt8) (a b : Nat) : (ba l).extract a b = ba ((l.take b).drop a) := by
  apply ByteArray.ext
  rw [ByteArray.data_extract]
  apply Array.ext'
  simp [ba, List.drop_take]
/-- Is this byte a digit? -/
def dig (b : UInt8) : Bool := decide (48 ≤ b.toNat) && decide (b.toNat ≤ 57)
/-- So many digits stand at the head. -/
def lead : List UInt8 → Nat
  | [] => 0
  | b :: l => if dig b = true then 1 + lead l else 0
def hd0 : List UInt8 → Nat
  | [] => 0
  | b :: _ => b.toNat
theorem lead_le : ∀ l, lead l ≤ l.length
  | [] => Nat.le_refl _
  | b :: l => by
    rw [lead, List.length_cons]
    have := lead_le l
    split <;> omega
theorem lead_all : ∀ (l m : List UInt8), (∀ b ∈ l, dig b = true) → (∀ x ∈ m.head?, dig x = false) → lead (l ++ m) = l.length
  | [], m, _, h => by
    cases m with
    | nil => rfl
    | cons x m =>
      rw [List.nil_append, lead, if_neg (by rw [h x (by simp)]; decide)]
      rfl
  | b :: l, m, h, h2 => by
    rw [List.cons_append, lead, if_pos (h b (by simp)), lead_all l m (fun c hc => h c (by simp [hc])) h2, List.length_cons]
    omega
theorem ba_get (l : List UInt8) (i : Nat) (h : i < l.length) : (ba l).get! i = l[i] := by
  rw [← get_get! (ba l) i (by rw [ba_size]; exact h)]
  rfl
theorem isD_ba (l : List UInt8) (a : Nat) : isD (ba l) a = match l.drop a with | [] => false | b :: _ => dig b := by
  unfold isD
  rw [ba_size]
  by_cases h : a < l.length
  · rw [List.drop_eq_getElem_cons h]
    dsimp only
    rw [decide_eq_true h, Bool.true_and, ba_get l a h]
    rfl
  · rw [decide_eq_false h, Bool.false_and, List.drop_eq_nil_of_le (by omega)]
theorem nx_ba (l : List UInt8) (a : Nat) : nx (ba l) a false = hd0 (l.drop a) := by
  unfold nx
  rw [ba_size]
  by_cases h : a < l.length
  · rw [if_neg (by simp; exact h), List.drop_eq_getElem_cons h, ba_get l a h]
    rfl
  · rw [if_pos (.inr h), List.drop_eq_nil_of_le (by omega)]
    rfl
theorem cnt_ba (l : List UInt8) : ∀ (m a : Nat), l.length ≤ a + m → cnt (ba l) a m = lead (l.drop a)
  | 0, a, h => by rw [cnt, List.drop_eq_nil_of_le (by omega)]; rfl
  | m + 1, a, h => by
    rw [cnt, isD_ba]
    by_cases hl : a < l.length
    · rw [List.drop_eq_getElem_cons hl]
      dsimp only
      rw [lead, cnt_ba l m (a + 1) (by omega)]
    · rw [List.drop_eq_nil_of_le (by omega)]
      rfl
theorem cnt_all (l : List UInt8) (a : Nat) : cnt (ba l) a (ba l).size = lead (l.drop a) := cnt_ba l _ a (by rw [ba_size]; omega)
theorem ext_ba (l : List UInt8) (a c : Nat) : (ba l).extract a (a + c) = ba ((l.drop a).take c) := by
  rw [ba_ext, List.drop_take]
  congr 2
  omega

theorem valN_app : ∀ (l m : List UInt8) (n : Nat), valN (l ++ m) n = valN m (valN l n)
  | [], _, _ => rfl
  | b :: l, m, n => by rw [List.cons_append, valN, valN, valN_app l m]
theorem val_dec : ∀ (u : Nat), val (Lib.decDigits u) = u ∧ ∀ b ∈ Lib.decDigits u, dig b = true := by
  intro u
  induction u using Nat.strongRecOn with
  | ind u ih =>
    have one : ∀ k, k < 10 → (UInt8.ofNat (48 + k)).toNat = 48 + k := fun k hk => by
      rw [UInt8.toNat_ofNat']
      omega
    have dgt : ∀ k, k < 10 → dig (UInt8.ofNat (48 + k)) = true := fun k hk => by
      unfold dig
      rw [one k hk, decide_eq_true (by omega), decide_eq_true (by omega)]
      rfl
    rw [Lib.decDigits]
    split
    · rename_i h
      refine ⟨?_, ?_⟩
      · show 10 * 0 + ((UInt8.ofNat (48 + u)).toNat - 48) = u
        rw [one u h]
        omega
      · intro b hb
        rw [List.mem_singleton] at hb
        subst hb
        exact dgt u h
    · rename_i h
      obtain ⟨h1, h2⟩ := ih (u / 10) (by omega)
      refine ⟨?_, ?_⟩
      · unfold val at *
        rw [valN_app, h1]
        show 10 * (u / 10) + ((UInt8.ofNat (48 + u % 10)).toNat - 48) = u
        rw [one _ (by omega)]
        omega
      · intro b hb
        rw [List.mem_append, List.mem_singleton] at hb
        rcases hb with hb | rfl
        · exact h2 b hb
        · exact dgt _ (by omega)

theorem dec_short : ∀ (k u : Nat), u < 10 ^ (k + 1) → (Lib.decDigits u).length ≤ k + 1
  | 0, u, h => by rw [Lib.decDigits, dif_pos (by omega)]; exact Nat.le_refl _
  | k + 1, u, h => by
    rw [Lib.decDigits]
    split
    · simp
    · rw [List.length_append, List.length_singleton]
      have := dec_short k (u / 10) (by rw [Nat.pow_succ] at h; omega)
      omega
theorem dec_some (u : Nat) : Lib.decDigits u ≠ [] := by
  rw [Lib.decDigits]
  split <;> simp
theorem dig_hd {l : List UInt8} (h : ∀ b ∈ l, dig b = true) (hl : l ≠ []) : 48 ≤ hd0 l := by
  cases l with
  | nil => exact absurd rfl hl
  | cons b l =>
    have := h b (by simp)
    unfold dig at this
    simp only [Bool.and_eq_true, decide_eq_true_eq] at this
    exact this.1

theorem whole_back {n : Int} (h : ¬ wrong n) : WR ⟨(Lib.itoa n).toArray⟩ = (n, none) := by
  unfold wrong at h
  show WR (ba (Lib.itoa n)) = _
  by_cases hn : n < 0
  · obtain ⟨u, rfl⟩ : ∃ u : Nat, n = -(u : Int) := ⟨n.natAbs, by omega⟩
    rw [Lib.itoa_neg u (by omega)]
    obtain ⟨v, d⟩ := val_dec u
    have hl := dec_short 9 u (by omega)
    have hz := dec_some u
    generalize Lib.decDigits u = D at *
    have hx : nx (ba (45 :: D)) 0 false = 45 := by rw [nx_ba]; rfl
    have hP : wP (ba (45 :: D)) = 1 := by unfold wP tP; rw [hx]; rfl
    have hC : wC (ba (45 :: D)) = D.length := by
      unfold wC; rw [hP, cnt_all, List.drop_one, List.tail_cons]
      have := lead_all D [] d (by simp)
      rwa [List.append_nil] at this
    have hD : 1 ≤ D.length := by cases D with | nil => exact absurd rfl hz | cons _ _ => simp
    have hV : whV (ba (45 :: D)) 0 = -(u : Int) := by
      unfold whV
      have hP' : tP (ba (45 :: D)) 0 43 45 = 1 := hP
      have hC' : cnt (ba (45 :: D)) 1 (ba (45 :: D)).size = D.length := by rw [← hC]; unfold wC; rw [hP]
      dsimp only
      rw [hP', hC', ext_ba, List.drop_one, List.tail_cons, List.take_of_length_le (Nat.le_refl _)]
      rw [if_pos (by unfold tk; rw [hx]; rfl)]
      have : (ba D).data.toList = D := by simp [ba]
      rw [this, v]
    have hS : (ba (45 :: D)).size = D.length + 1 := by rw [ba_size, List.length_cons]
    rw [WR_ok (by omega) (by omega) (by rw [hV]; unfold wrong; omega), hV]
  · obtain ⟨u, rfl⟩ : ∃ u : Nat, n = (u : Int) := ⟨n.natAbs, by omega⟩
    rw [Lib.itoa_nonneg u]
    obtain ⟨v, d⟩ := val_dec u
    have hl := dec_short 9 u (by omega)
    have hz := dec_some u
    generalize Lib.decDigits u = D at *
    have hx : 48 ≤ nx (ba D) 0 false := by rw [nx_ba]; exact dig_hd d hz
    have hP : wP (ba D) = 0 := by unfold wP tP; rw [if_neg (by omega)]
    have hC : wC (ba D) = D.length := by
      unfold wC; rw [hP, cnt_all, List.drop_zero]
      have := lead_all D [] d (by simp)
      rwa [List.append_nil] at this
    have hD : 1 ≤ D.length := by cases D with | nil => exact absurd rfl hz | cons _ _ => simp
    have hV : whV (ba D) 0 = (u : Int) := by
      unfold whV
      have hP' : tP (ba D) 0 43 45 = 0 := hP
      have hC' : cnt (ba D) 0 (ba D).size = D.length := by rw [← hC]; unfold wC; rw [hP]
      dsimp only
      rw [hP', hC', ext_ba, List.drop_zero, List.take_of_length_le (Nat.le_refl _)]
      rw [if_neg (by unfold tk; rw [if_neg (by omega)]; decide)]
      have : (ba D).data.toList = D := by simp [ba]
      rw [this, v]
    have hS : (ba D).size = D.length := ba_size _
    rw [WR_ok (by omega) (by omega) (by rw [hV]; unfold wrong; omega), hV]
theorem WR_good {s : ByteArray} (h : (WR s).2 = none) : ¬ wrong (WR s).1 := by
  unfold WR at h ⊢
  split
  · rename_i c; rw [if_pos c] at h; exact absurd h (by simp)
  · rename_i c; rw [if_neg c] at h
    split
    · rename_i c2; rw [if_pos c2] at h; exact absurd h (by simp)
    · rename_i c2; rw [if_neg c2] at h
      split
      · rename_i c3; rw [if_pos c3] at h; exact absurd h (by simp)
      · rename_i c3; exact c3
end Go.Proofs.YtohojghndnfgdaaGreatDoor.Wh

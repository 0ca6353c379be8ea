import Derived.Test.YtaingbnfalibjaaDoorV
import Derived.Test.YtaingbnfalibjaaDoorZb
/-
  DERIVED. What is printed is read back: texts as lists.
-/
namespace Go.Proofs.YtaingbnfalibjaaDoor
open Go Go.Proofs Go.RowKit NumLine

/-- Is this byte a digit? -/
def dig (b : UInt8) : Bool := decide (48 ≤ b.toNat) && decide (b.toNat ≤ 57)
/-- So many digits stand at the head. -/
def lead : List UInt8 → Nat
  | [] => 0
  | b :: l => if dig b = true then 1 + lead l else 0
def hd0 : List UInt8 → Nat
  | [] => 0
  | b :: _ => b.toNat
theorem lead_le : ∀ l, lead l ≤ l.length
  | [] => Nat.le_refl _
  | b :: l => by
    rw [lead, List.length_cons]
    have := lead_le l
    split <;> omega
theorem lead_all : ∀ (l m : List UInt8), (∀ b ∈ l, dig b = true) → (∀ x ∈ m.head?, dig x = false) → lead (l ++ m) = l.length
  | [], m, _, h => by
    cases m with
    | nil => rfl
    | cons x m =>
      rw [List.nil_append, lead, if_neg (by rw [h x (by simp)]; decide)]
      rfl
  | b :: l, m, h, h2 => by
    rw [List.cons_append, lead, if_pos (h b (by simp)), lead_all l m (fun c hc => h c (by simp [hc])) h2, List.length_cons]
    omega
theorem ba_get (l : List UInt8) (i : Nat) (h : i < l.length) : (ba l).get! i = l[i] := by
  rw [← get_get! (ba l) i (by rw [ba_size]; exact h)]
  rfl
theorem isD_ba (l : List UInt8) (a : Nat) : isD (ba l) a = match l.drop a with | [] => false | b :: _ => dig b := by
  unfold isD
  rw [ba_size]
  by_cases h : a < l.length
  · rw [List.drop_eq_getElem_cons h]
    dsimp only
    rw [decide_eq_true h, Bool.true_and, ba_get l a h]
    rfl
  · rw [decide_eq_false h, Bool.false_and, List.drop_eq_nil_of_le (by omega)]
theorem nx_ba (l : List UInt8) (a : Nat) : nx (ba l) a false = hd0 (l.drop a) := by
  unfold nx
  rw [ba_size]
  by_cases h : a < l.length
  · rw [if_neg (by simp; exact h), List.drop_eq_getElem_cons h, ba_get l a h]
    rfl
  · rw [if_pos (.inr h), List.drop_eq_nil_of_le (by omega)]
    rfl
theorem cnt_ba (l : List UInt8) : ∀ (m a : Nat), l.length ≤ a + m → cnt (ba l) a m = lead (l.drop a)
  | 0, a, h => by rw [cnt, List.drop_eq_nil_of_le (by omega)]; rfl
  | m + 1, a, h => by
    rw [cnt, isD_ba]
    by_cases hl : a < l.length
    · rw [List.drop_eq_getElem_cons hl]
      dsimp only
      rw [lead, cnt_ba l m (a + 1) (by omega)]
    · rw [List.drop_eq_nil_of_le (by omega)]
      rfl
theorem cnt_all (l : List UInt8) (a : Nat) : cnt (ba l) a (ba l).size = lead (l.drop a) := cnt_ba l _ a (by rw [ba_size]; omega)
theorem ext_ba (l : List UInt8) (a c : Nat) : (ba l).extract a (a + c) = ba ((l.drop a).take c) := by
  rw [ba_ext, List.drop_take]
  congr 2
  omega

theorem valN_app : ∀ (l m : List UInt8) (n : Nat), valN (l ++ m) n = valN m (valN l n)
  | [], _, _ => rfl
  | b :: l, m, n => by rw [List.cons_append, valN, valN, valN_app l m]
theorem val_dec : ∀ (u : Nat), val (Lib.decDigits u) = u ∧ ∀ b ∈ Lib.decDigits u, dig b = true := by
  intro u
  induction u using Nat.strongRecOn with
  | ind u ih =>
    have one : ∀ k, k < 10 → (UInt8.ofNat (48 + k)).toNat = 48 + k := fun k hk => by
      rw [UInt8.toNat_ofNat']
      omega
    have dgt : ∀ k, k < 10 → dig (UInt8.ofNat (48 + k)) = true := fun k hk => by
      unfold dig
      rw [one k hk, decide_eq_true (by omega), decide_eq_true (by omega)]
      rfl
    rw [Lib.decDigits]
    split
    · rename_i h
      refine ⟨?_, ?_⟩
      · show 10 * 0 + ((UInt8.ofNat (48 + u)).toNat - 48) = u
        rw [one u h]
        omega
      · intro b hb
        rw [List.mem_singleton] at hb
        subst hb
        exact dgt u h
    · rename_i h
      obtain ⟨h1, h2⟩ := ih (u / 10) (by omega)
      refine ⟨?_, ?_⟩
      · unfold val at *
        rw [valN_app, h1]
        show 10 * (u / 10) + ((UInt8.ofNat (48 + u % 10)).toNat - 48) = u
        rw [one _ (by omega)]
        omega
      · intro b hb
        rw [List.mem_append, List.mem_singleton] at hb
        rcases hb with hb | rfl
        · exact h2 b hb
        · exact dgt _ (by omega)
theorem valN_zeros : ∀ (k n : Nat), valN (Lib.repeatL [48] k) n = n * 10 ^ k
  | 0, n => by simp [Lib.repeatL, valN]
  | k + 1, n => by
    show valN (Lib.repeatL [48] k) (10 * n + ((48 : UInt8).toNat - 48)) = _
    rw [valN_zeros k, show (48 : UInt8).toNat - 48 = 0 from rfl, Nat.pow_succ]
    rw [Nat.add_zero, Nat.mul_comm 10 n, Nat.mul_assoc, Nat.mul_comm 10]
theorem zeros_dig : ∀ (k : Nat), ∀ b ∈ Lib.repeatL [48] k, dig b = true
  | 0, b, h => by simp [Lib.repeatL] at h
  | k + 1, b, h => by
    have h' : b ∈ (48 : UInt8) :: Lib.repeatL [48] k := h
    rw [List.mem_cons] at h'
    rcases h' with rfl | h'
    · decide
    · exact zeros_dig k b h'

/-- One number has one form. -/
theorem ex_one {neg : Bool} {d : Nat} {x : Int} {r a : Nm} (h : Ex neg d x r) (hnz : a.d % 10 ≠ 0) (k : Nat) (h1 : neg = a.neg) (h2 : d = a.d * 10 ^ k) (h3 : x = a.e - (k : Int)) : r = a := by
  have hd : d ≠ 0 := by
    rw [h2]
    have : 0 < a.d * 10 ^ k := Nat.mul_pos (by omega) (Nat.pow_pos (by decide))
    omega
  rcases h with ⟨h0, _⟩ | ⟨_, j, e1, e2, e3, e4⟩
  · exact absurd h0 hd
  · have hjk : j = k := by
      rw [h2] at e2
      rcases Nat.lt_trichotomy j k with hl | hl | hl
      · exfalso
        obtain ⟨m, rfl⟩ : ∃ m, k = j + 1 + m := ⟨k - j - 1, by omega⟩
        have e5 : r.d * 10 ^ j = (a.d * 10 ^ m * 10) * 10 ^ j := by rw [e2, Nat.pow_add, Nat.pow_add, Nat.pow_one]; ac_rfl
        have e6 := Nat.mul_right_cancel (Nat.pow_pos (by decide)) e5
        omega
      · exact hl
      · exfalso
        obtain ⟨m, rfl⟩ : ∃ m, j = k + 1 + m := ⟨j - k - 1, by omega⟩
        have e5 : (r.d * 10 ^ m * 10) * 10 ^ k = a.d * 10 ^ k := by rw [← e2, Nat.pow_add, Nat.pow_add, Nat.pow_one]; ac_rfl
        have e6 := Nat.mul_right_cancel (Nat.pow_pos (by decide)) e5
        omega
    subst hjk
    rw [h2] at e2
    have e6 := Nat.mul_right_cancel (Nat.pow_pos (by decide)) e2
    obtain ⟨rn, rd, re⟩ := r
    obtain ⟨an, ad, ae⟩ := a
    dsimp only at *
    subst e6
    simp only [Nm.mk.injEq, true_and]
    exact ⟨by rw [e1, h1], by omega⟩
end Go.Proofs.YtaingbnfalibjaaDoor

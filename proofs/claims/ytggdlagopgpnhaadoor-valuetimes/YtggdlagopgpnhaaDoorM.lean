import Derived.Test.YtggdlagopgpnhaaDoorL
import Derived.Test.YtggdlagopgpnhaaDoorF
import Derived.Test.YtggdlagopgpnhaaDoorD
/-
  DERIVED. A day's text is read as the day; texts rise.
-/
namespace Go.Proofs.YtggdlagopgpnhaaDoor
open Go Go.Proofs Go.RowKit

theorem valN_snoc : ∀ (l : List UInt8) (b : UInt8) (n : Nat), valN (l ++ [b]) n = 10 * valN l n + (b.toNat - 48)
  | [], b, n => rfl
  | c :: l, b, n => by rw [List.cons_append, valN, valN_snoc l b, valN]
theorem digit_nat (n : Nat) : (UInt8.ofNat (48 + n % 10)).toNat = 48 + n % 10 := by
  rw [UInt8.toNat_ofNat']
  omega
theorem val_pd : ∀ (k n : Nat), n < 10 ^ k → valN (pd n k) 0 = n
  | 0, n, h => by simp at h; subst h; rfl
  | k + 1, n, h => by
    rw [pd, valN_snoc, val_pd k (n / 10) (by rw [Nat.pow_succ] at h; omega), digit_nat]
    omega
theorem pd_digits : ∀ (k n : Nat), ∀ b ∈ pd n k, 48 ≤ b.toNat ∧ b.toNat ≤ 57
  | 0, _, b, h => by simp [pd] at h
  | k + 1, n, b, h => by
    rw [pd, List.mem_append] at h
    rcases h with h | h
    · exact pd_digits k _ b h
    · rw [List.mem_singleton.1 h, digit_nat]; omega

theorem txt_list (y m d : Nat) : (txt y m d).data.toList = pd y 4 ++ pd m 2 ++ pd d 2 := by
  unfold txt pdB
  rw [ByteArray.data_append, ByteArray.data_append]
  simp
theorem txt_digs (y m d : Nat) : Digs (txt y m d) := by
  intro b hb
  rw [txt_list] at hb
  simp only [List.mem_append] at hb
  rcases hb with (hb | hb) | hb
  · exact pd_digits _ _ b hb
  · exact pd_digits _ _ b hb
  · exact pd_digits _ _ b hb
theorem digs_isD {u : ByteArray} (h : Digs u) {a : Nat} (ha : a < u.size) : isD u a = true := by
  have := h (u.get! a) (by
    rw [← get_get! u a ha]
    have h2 : a < u.data.size := ha
    have : u[a] = u.data[a] := rfl
    rw [this]
    exact Array.getElem_mem_toList h2)
  unfold isD
  simp [ha, this]
theorem digs_cnt {u : ByteArray} (h : Digs u) : ∀ m a, a + m ≤ u.size → cnt u a m = m
  | 0, _, _ => rfl
  | m + 1, a, ha => by
    rw [cnt, if_pos (digs_isD h (by omega)), digs_cnt h m (a + 1) (by omega)]
    omega
theorem ext_list (u : ByteArray) (a b : Nat) : (u.extract a b).data.toList = (u.data.toList.take b).drop a := by
  rw [ByteArray.data_extract]
  simp [List.drop_take]

theorem txt_k (y m d : Nat) : k1 (txt y m d) = 4 ∧ k2 (txt y m d) = 2 ∧ k3 (txt y m d) = 2 ∧ b3 (txt y m d) = false := by
  have hd := txt_digs y m d
  have hz := txt_size y m d
  have e1 : k1 (txt y m d) = 4 := digs_cnt hd 4 0 (by omega)
  have e2 : k2 (txt y m d) = 2 := by unfold k2; rw [e1, if_neg (by decide)]; exact digs_cnt hd 2 4 (by omega)
  have eb : b2 (txt y m d) = false := by unfold b2; rw [e1, e2]; rfl
  have e3 : k3 (txt y m d) = 2 := by unfold k3; rw [eb, if_neg (by decide), e1, e2]; exact digs_cnt hd 2 6 (by omega)
  exact ⟨e1, e2, e3, by unfold b3; rw [eb, e3]; rfl⟩
theorem drop_at {l r : List UInt8} {n : Nat} (h : l.length = n) : (l ++ r).drop n = r := by subst h; exact List.drop_left
theorem txt_v (y m d : Nat) (hy : y < 10 ^ 4) (hm : m < 10 ^ 2) (hd : d < 10 ^ 2) : yy (txt y m d) = y ∧ mm (txt y m d) = m ∧ dd (txt y m d) = d := by
  obtain ⟨e1, e2, e3, _⟩ := txt_k y m d
  have l4 := pd_len 4 y
  have l2 := pd_len 2 m
  have l2' := pd_len 2 d
  refine ⟨?_, ?_, ?_⟩
  · unfold yy nv val
    rw [e1, ext_list, txt_list, List.append_assoc]
    rw [show 0 + 4 = (pd y 4).length by omega, List.take_left, List.drop_zero, val_pd 4 y hy]
  · unfold mm nv val
    rw [e1, e2, ext_list, txt_list]
    rw [show 4 + 2 = (pd y 4 ++ pd m 2).length by rw [List.length_append]; omega, List.take_left, drop_at l4, val_pd 2 m hm]
  · unfold dd nv val
    rw [e1, e2, e3, ext_list, List.take_of_length_le (by rw [txt_list]; simp [l4, l2, l2']), txt_list]
    rw [show 4 + 2 = (pd y 4 ++ pd m 2).length by rw [List.length_append]; omega, List.drop_left, val_pd 2 d hd]
theorem txt_o (y m d : Nat) (h : Day y m d) : oP (txt y m d) = none := by
  obtain ⟨h1, h2, h3, h4, h5, h6⟩ := h
  have h31 := md_le y m
  obtain ⟨e1, e2, e3, e4⟩ := txt_k y m d
  obtain ⟨v1, v2, v3⟩ := txt_v y m d (by omega) (by omega) (by omega)
  have hz := txt_size y m d
  unfold oP oe o3 o2 o1
  rw [e4, e1, e2, e3, hz, v1, v2, v3]
  have n1 : (decide ((y : Int) < 1) || decide (9999 < (y : Int))) = false := by simp; omega
  have n2 : (decide ((m : Int) < 1) || decide (12 < (m : Int))) = false := by simp; omega
  have n3 : (decide ((d : Int) < 1) || decide ((md y m : Int) < (d : Int))) = false := by simp; omega
  rw [n1, n2, n3]
  rfl

/-- The day behind a day. -/
def nxt (y m d : Nat) : Nat × Nat × Nat := if d + 1 ≤ md y m then (y, m, d + 1) else if m < 12 then (y, m + 1, 1) else (y + 1, 1, 1)
theorem md_pos (y m : Nat) (h1 : 1 ≤ m) (h2 : m ≤ 12) : 28 ≤ md y m := by
  unfold md
  rw [if_neg (by omega)]
  split
  · omega
  · unfold mL
    have : m - 1 < 12 := by omega
    generalize m - 1 = k at *
    rcases (by omega : k = 0 ∨ k = 1 ∨ k = 2 ∨ k = 3 ∨ k = 4 ∨ k = 5 ∨ k = 6 ∨ k = 7 ∨ k = 8 ∨ k = 9 ∨ k = 10 ∨ k = 11) with rfl | rfl | rfl | rfl | rfl | rfl | rfl | rfl | rfl | rfl | rfl | rfl <;> decide
theorem nxt_is {n y m d : Nat} (h : IsDay n y m d) (hn : n < 3652058) : IsDay (n + 1) (nxt y m d).1 (nxt y m d).2.1 (nxt y m d).2.2 := by
  obtain ⟨⟨h1, h2, h3, h4, h5, h6⟩, h7⟩ := h
  have hcu : cu y m = cu y (m - 1) + md y m := by
    obtain ⟨j, rfl⟩ : ∃ j, m = j + 1 := ⟨m - 1, by omega⟩
    rfl
  unfold num at h7
  unfold nxt
  by_cases hd : d + 1 ≤ md y m
  · rw [if_pos hd]
    exact ⟨⟨h1, h2, h3, h4, by simp only; omega, hd⟩, by unfold num; simp only; omega⟩
  · rw [if_neg hd]
    by_cases hm : m < 12
    · rw [if_pos hm]
      have := md_pos y (m + 1) (by omega) (by omega)
      refine ⟨⟨h1, h2, by simp only; omega, by simp only; omega, by simp only; omega, by simp only; omega⟩, ?_⟩
      unfold num
      simp only [Nat.add_sub_cancel]
      omega
    · rw [if_neg hm]
      obtain rfl : m = 12 := by omega
      have hyl := year_len y h1
      have hy : y < 9999 := by
        rcases Nat.lt_or_ge y 9999 with h | h
        · exact h
        · exfalso
          obtain rfl : y = 9999 := by omega
          have := dA_last
          have e : dA (9999 + 1) = dA 10000 := rfl
          omega
      have := md_pos (y + 1) 1 (by omega) (by omega)
      refine ⟨⟨by simp only; omega, by simp only; omega, by simp only; omega, by simp only; omega, by simp only; omega, by simp only; omega⟩, ?_⟩
      unfold num
      simp only [Nat.sub_self, cu]
      omega
/-- Texts of days rise. -/
theorem nxt_num {y m d : Nat} (h : Day y m d) : y * 10000 + m * 100 + d < (nxt y m d).1 * 10000 + (nxt y m d).2.1 * 100 + (nxt y m d).2.2 := by
  obtain ⟨h1, h2, h3, h4, h5, h6⟩ := h
  have h31 := md_le y m
  unfold nxt
  split
  · simp only; omega
  · split
    · simp only; omega
    · simp only; omega
theorem pd_cat : ∀ (j k a b : Nat), b < 10 ^ j → pd (a * 10 ^ j + b) (k + j) = pd a k ++ pd b j
  | 0, k, a, b, h => by simp at h; subst h; simp [pd]
  | j + 1, k, a, b, h => by
    rw [show k + (j + 1) = k + j + 1 by omega, pd, pd, ← List.append_assoc]
    have e1 : (a * 10 ^ (j + 1) + b) / 10 = a * 10 ^ j + b / 10 := by
      rw [Nat.pow_succ, ← Nat.mul_assoc]; omega
    have e2 : (a * 10 ^ (j + 1) + b) % 10 = b % 10 := by
      rw [Nat.pow_succ, ← Nat.mul_assoc]; omega
    rw [e1, e2, pd_cat j k a (b / 10) (by rw [Nat.pow_succ] at h; omega)]
theorem txt_pd (y m d : Nat) (hm : m < 10 ^ 2) (hd : d < 10 ^ 2) : (txt y m d).data.toList = pd (y * 10000 + m * 100 + d) 8 := by
  rw [txt_list, ← pd_cat 2 4 y m hm, ← pd_cat 2 6 _ d hd]
  congr 1
  omega
theorem lt_app {a b c d : List UInt8} (h : a < b) (hl : a.length = b.length) : a ++ c < b ++ d := by
  induction a generalizing b with
  | nil => cases b with | nil => exact absurd h (by decide) | cons x b => simp at hl
  | cons x a ih =>
    cases b with
    | nil => simp at hl
    | cons y b =>
      rw [List.cons_append, List.cons_append, List.cons_lt_cons_iff]
      rw [List.cons_lt_cons_iff] at h
      rcases h with h | ⟨h1, h2⟩
      · exact .inl h
      · exact .inr ⟨h1, ih h2 (by simpa using hl)⟩
theorem app_lt {c d : List UInt8} (a : List UInt8) (h : c < d) : a ++ c < a ++ d := by
  induction a with
  | nil => exact h
  | cons x a ih => rw [List.cons_append, List.cons_append, List.cons_lt_cons_iff]; exact .inr ⟨rfl, ih⟩
theorem pd_lt : ∀ (k a b : Nat), a < b → b < 10 ^ k → pd a k < pd b k
  | 0, a, b, h1, h2 => by simp at h2; omega
  | k + 1, a, b, h1, h2 => by
    rw [pd, pd]
    rcases Nat.lt_or_ge (a / 10) (b / 10) with h | h
    · have ih := pd_lt k (a / 10) (b / 10) h (by rw [Nat.pow_succ] at h2; omega)
      exact lt_app ih (by rw [pd_len, pd_len])
    · have e : a / 10 = b / 10 := by omega
      rw [e]
      exact app_lt _ (by
        rw [List.cons_lt_cons_iff]
        left
        rw [UInt8.lt_iff_toNat_lt, digit_nat, digit_nat]
        omega)
end Go.Proofs.YtggdlagopgpnhaaDoor

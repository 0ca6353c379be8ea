import Derived.Test.YtehgeninocbpeaaGreatDoorEa
/-
  DERIVED. Days as the law writes them; days in the order of their texts (pure); a day's text, read.
-/
namespace Go.Proofs.YtehgeninocbpeaaGreatDoor.Tm
open Go Go.Proofs Go.RowKit

theorem valN_snoc : ∀ (l : List UInt8) (b : UInt8) (n : Nat), valN (l ++ [b]) n = 10 * valN l n + (b.toNat - 48)
  | [], b, n => rfl
  | c :: l, b, n => by rw [List.cons_append, valN, valN_snoc l b, valN]
theorem digit_nat (n : Nat) : (UInt8.ofNat (48 + n % 10)).toNat = 48 + n % 10 := by
  rw [UInt8.toNat_ofNat']
  omega
theorem val_pd : ∀ (k n : Nat), n < 10 ^ k → valN (pd n k) 0 = n
  | 0, n, h => by simp at h; subst h; rfl
  | k + 1, n, h => by
    rw [pd, valN_snoc, val_pd k (n / 10) (by rw [Nat.pow_succ] at h; omega), digit_nat]
    omega
theorem pd_digits : ∀ (k n : Nat), ∀ b ∈ pd n k, 48 ≤ b.toNat ∧ b.toNat ≤ 57
  | 0, _, b, h => by simp [pd] at h
  | k + 1, n, b, h => by
    rw [pd, List.mem_append] at h
    rcases h with h | h
    · exact pd_digits k _ b h
    · rw [List.mem_singleton.1 h, digit_nat]; omega

theorem txt_list (y m d : Nat) : (txt y m d).data.toList = pd y 4 ++ pd m 2 ++ pd d 2 := by
  unfold txt pdB
  rw [ByteArray.data_append, ByteArray.data_append]
  simp
theorem pd_cat : ∀ (j k a b : Nat), b < 10 ^ j → pd (a * 10 ^ j + b) (k + j) = pd a k ++ pd b j
  | 0, k, a, b, h => by simp at h; subst h; simp [pd]
  | j + 1, k, a, b, h => by
    rw [show k + (j + 1) = k + j + 1 by omega, pd, pd, ← List.append_assoc]
    have e1 : (a * 10 ^ (j + 1) + b) / 10 = a * 10 ^ j + b / 10 := by
      rw [Nat.pow_succ, ← Nat.mul_assoc]; omega
    have e2 : (a * 10 ^ (j + 1) + b) % 10 = b % 10 := by
      rw [Nat.pow_succ, ← Nat.mul_assoc]; omega
    rw [e1, e2, pd_cat j k a (b / 10) (by rw [Nat.pow_succ] at h; omega)]
theorem txt_pd (y m d : Nat) (hm : m < 10 ^ 2) (hd : d < 10 ^ 2) : (txt y m d).data.toList = pd (y * 10000 + m * 100 + d) 8 := by
  rw [txt_list, ← pd_cat 2 4 y m hm, ← pd_cat 2 6 _ d hd]
  congr 1
  omega
theorem lt_app {a b c d : List UInt8} (h : a < b) (hl : a.length = b.length) : a ++ c < b ++ d := by
  induction a generalizing b with
  | nil => cases b with | nil => exact absurd h (by decide) | cons x b => simp at hl
  | cons x a ih =>
    cases b with
    | nil => simp at hl
    | cons y b =>
      rw [List.cons_append, List.cons_append, List.cons_lt_cons_iff]
      rw [List.cons_lt_cons_iff] at h
      rcases h with h | ⟨h1, h2⟩
      · exact .inl h
      · exact .inr ⟨h1, ih h2 (by simpa using hl)⟩
theorem app_lt {c d : List UInt8} (a : List UInt8) (h : c < d) : a ++ c < a ++ d := by
  induction a with
  | nil => exact h
  | cons x a ih => rw [List.cons_append, List.cons_append, List.cons_lt_cons_iff]; exact .inr ⟨rfl, ih⟩
theorem pd_lt : ∀ (k a b : Nat), a < b → b < 10 ^ k → pd a k < pd b k
  | 0, a, b, h1, h2 => by simp at h2; omega
  | k + 1, a, b, h1, h2 => by
    rw [pd, pd]
    rcases Nat.lt_or_ge (a / 10) (b / 10) with h | h
    · have ih := pd_lt k (a / 10) (b / 10) h (by rw [Nat.pow_succ] at h2; omega)
      exact lt_app ih (by rw [pd_len, pd_len])
    · have e : a / 10 = b / 10 := by omega
      rw [e]
      exact app_lt _ (by
        rw [List.cons_lt_cons_iff]
        left
        rw [UInt8.lt_iff_toNat_lt, digit_nat, digit_nat]
        omega)

def bd (v lo hi : Int) : Int := if v < lo then lo else if hi < v then hi else v
theorem bd_is {v lo hi : Int} (h : lo ≤ hi) : lo ≤ bd v lo hi ∧ bd v lo hi ≤ hi := by
  unfold bd
  split
  · omega
  · split <;> omega

set_option maxRecDepth 100000 in
theorem bound_any (w : World) (v lo hi : Int) : Calls Tryz.prog 24 #[.int .i64 v, .int .i64 lo, .int .i64 hi] w fun e w' => e = .returned (.int .i64 (bd v lo hi)) ∧ w = w' := by
  unfold bd
  by_cases h1 : v < lo
  · rw [if_pos h1]
    go_enter Tryz.func24, Tryz.ntmps24
    go_wp2
    go_ret
    exact ⟨rfl, rfl⟩
  · rw [if_neg h1]
    by_cases h2 : hi < v
    · rw [if_pos h2]
      go_enter Tryz.func24, Tryz.ntmps24
      go_wp2
      go_ret
      exact ⟨rfl, rfl⟩
    · rw [if_neg h2]
      go_enter Tryz.func24, Tryz.ntmps24
      go_wp2
      go_ret
      exact ⟨rfl, rfl⟩

/-- A day that every month has. -/
structure D3 (y m d : Nat) : Prop where
  y1 : 1 ≤ y
  y9 : y ≤ 9999
  m1 : 1 ≤ m
  m2 : m ≤ 12
  d1 : 1 ≤ d
  d2 : d ≤ 28

set_option maxRecDepth 100000 in
set_option maxHeartbeats 2000000 in
theorem day11_any (a b c : Int) : ∃ y m d : Nat, D3 y m d ∧ ∀ W, Calls Tryz.prog 11 #[.int .i64 a, .int .i64 b, .int .i64 c] W fun e w' => e = .returned (.string (txt y m d)) ∧ Below W.heap.size W w' := by
  have h1 := bd_is (v := a) (lo := 1) (hi := 9999) (by omega)
  have h2 := bd_is (v := b) (lo := 1) (hi := 12) (by omega)
  have h3 := bd_is (v := c) (lo := 1) (hi := 28) (by omega)
  refine ⟨(bd a 1 9999).toNat, (bd b 1 12).toNat, (bd c 1 28).toNat, ⟨by omega, by omega, by omega, by omega, by omega, by omega⟩, fun W => ?_⟩
  have c1 := bound_any W a 1 9999
  have c2 := bound_any W b 1 12
  have c3 := bound_any W c 1 28
  generalize bd a 1 9999 = y at *
  generalize bd b 1 12 = m at *
  generalize bd c 1 28 = d at *
  obtain ⟨yn, rfl⟩ : ∃ n : Nat, y = n := ⟨y.toNat, by omega⟩
  obtain ⟨mn, rfl⟩ : ∃ n : Nat, m = n := ⟨m.toNat, by omega⟩
  obtain ⟨dn, rfl⟩ : ∃ n : Nat, d = n := ⟨d.toNat, by omega⟩
  have c8 := eight_any W (yn * 10000 + mn * 100 + dn) (by omega)
  have e8 : ((yn * 10000 + mn * 100 + dn : Nat) : Int) = (yn : Int) * 10000 + (mn : Int) * 100 + (dn : Int) := by omega
  rw [e8] at c8
  have eT : Hid (txt ((yn : Int).toNat) ((mn : Int).toNat) ((dn : Int).toNat) = pdB (yn * 10000 + mn * 100 + dn) 8) := by
    show _ = _
    apply ByteArray.ext
    apply Array.ext'
    rw [txt_pd _ _ _ (by simp; omega) (by simp; omega)]
    simp [pdB]
  obtain ⟨T, hT⟩ : ∃ T, txt ((yn : Int).toNat) ((mn : Int).toNat) ((dn : Int).toNat) = T := ⟨_, rfl⟩
  rw [hT] at eT ⊢
  rw [← eT.out] at c8
  clear hT eT e8
  go_enter Tryz.func11, Tryz.ntmps11
  go_wp2_with (go_at_call 24; refine Stop.mk ?_)
  refine Stop.out (c1.mono ?_)
  rintro e W1 ⟨rfl, rfl⟩
  clear c1
  go_wp2_with (go_at_call 24; refine Stop.mk ?_)
  refine Stop.out (c2.mono ?_)
  rintro e W2 ⟨rfl, rfl⟩
  clear c2
  go_wp2_with (go_at_call 24; refine Stop.mk ?_)
  refine Stop.out (c3.mono ?_)
  rintro e W3 ⟨rfl, rfl⟩
  clear c3
  go_wp2_with (go_at_call 23; refine Stop.mk ?_)
  refine Stop.out (c8.mono ?_)
  rintro e W4 ⟨rfl, hb⟩
  clear c8
  go_wp2
  go_ret
  exact ⟨rfl, hb⟩

/-- Days in their order. -/
def code (y m d : Nat) : Nat := y * 10000 + m * 100 + d
theorem md28 {y m : Nat} (h1 : 1 ≤ m) (h2 : m ≤ 12) : 28 ≤ md y m := by
  unfold md
  rw [if_neg (by omega)]
  split
  · omega
  · rcases (by omega : m = 1 ∨ m = 2 ∨ m = 3 ∨ m = 4 ∨ m = 5 ∨ m = 6 ∨ m = 7 ∨ m = 8 ∨ m = 9 ∨ m = 10 ∨ m = 11 ∨ m = 12) with rfl | rfl | rfl | rfl | rfl | rfl | rfl | rfl | rfl | rfl | rfl | rfl <;> decide
theorem cu_succ (y k : Nat) : cu y (k + 1) = cu y k + md y (k + 1) := rfl
theorem cu_mono (y : Nat) : ∀ j k, cu y k ≤ cu y (k + j)
  | 0, k => Nat.le_refl _
  | j + 1, k => by rw [← Nat.add_assoc, cu_succ]; have := cu_mono y j k; omega
theorem cu_12 (y : Nat) : cu y 12 ≤ (if Lp y then 366 else 365) := by
  by_cases h : Lp y
  · rw [if_pos h]; simp [cu, md, h, mL]
  · rw [if_neg h]; simp [cu, md, h, mL]
theorem num_lt {y m d y' m' d' : Nat} (h : D3 y m d) (h' : D3 y' m' d') (hc : code y m d < code y' m' d') : num y m d < num y' m' d' := by
  obtain ⟨a1, a2, a3, a4, a5, a6⟩ := h
  obtain ⟨b1, b2, b3, b4, b5, b6⟩ := h'
  unfold code at hc
  have hm := md28 (y := y) a3 a4
  have hc1 : cu y m = cu y (m - 1) + md y m := by
    obtain ⟨k, rfl⟩ : ∃ k, m = k + 1 := ⟨m - 1, by omega⟩
    rfl
  unfold num
  by_cases hy : y = y'
  · subst hy
    by_cases hmm : m = m'
    · subst hmm; omega
    · have : m < m' := by omega
      have := cu_mono y (m' - 1 - m) m
      rw [show m + (m' - 1 - m) = m' - 1 by omega] at this
      omega
  · have hyy : y < y' := by omega
    have e1 := dA_next y a1
    have e2 := dA_mono (a := y + 1) (by omega) (y' - (y + 1))
    rw [show y + 1 + (y' - (y + 1)) = y' by omega] at e2
    have e3 := cu_mono y (12 - m) m
    rw [show m + (12 - m) = 12 by omega] at e3
    have e4 := cu_12 y
    omega
theorem num_le_iff {y m d y' m' d' : Nat} (h : D3 y m d) (h' : D3 y' m' d') : num y m d ≤ num y' m' d' ↔ code y m d ≤ code y' m' d' := by
  constructor
  · intro hn
    rcases Nat.lt_or_ge (code y' m' d') (code y m d) with h1 | h1
    · have := num_lt h' h h1; omega
    · exact h1
  · intro hc
    rcases Nat.lt_or_ge (code y m d) (code y' m' d') with h1 | h1
    · exact Nat.le_of_lt (num_lt h h' h1)
    · have e : code y m d = code y' m' d' := by omega
      obtain ⟨a1, a2, a3, a4, a5, a6⟩ := h
      obtain ⟨b1, b2, b3, b4, b5, b6⟩ := h'
      unfold code at e
      obtain rfl : y = y' := by omega
      obtain rfl : m = m' := by omega
      obtain rfl : d = d' := by omega
      exact Nat.le_refl _
theorem code_lt {y m d : Nat} (h : D3 y m d) : code y m d < 10 ^ 8 := by
  obtain ⟨a1, a2, a3, a4, a5, a6⟩ := h
  unfold code
  omega
theorem txt_code {y m d : Nat} (h : D3 y m d) : (txt y m d).data.toList = pd (code y m d) 8 := txt_pd y m d (by have := h.m2; omega) (by have := h.d2; omega)
theorem txt_lt_iff {y m d y' m' d' : Nat} (h : D3 y m d) (h' : D3 y' m' d') : (txt y m d).data.toList < (txt y' m' d').data.toList ↔ code y m d < code y' m' d' := by
  rw [txt_code h, txt_code h']
  constructor
  · intro hl
    rcases Nat.lt_or_ge (code y m d) (code y' m' d') with h1 | h1
    · exact h1
    · exfalso
      rcases Nat.lt_or_ge (code y' m' d') (code y m d) with h2 | h2
      · exact List.lt_asymm hl (pd_lt 8 _ _ h2 (code_lt h))
      · rw [show code y m d = code y' m' d' by omega] at hl
        exact List.lt_irrefl _ hl
  · exact fun hc => pd_lt 8 _ _ hc (code_lt h')
end Go.Proofs.YtehgeninocbpeaaGreatDoor.Tm

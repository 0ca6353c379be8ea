import Derived.Test.YtngmleddlfkecaaDoorGc
/-
  DERIVED. Bits turned one by one inside of a piece of a row: what the row then is, and which number the turned bits make.
-/
namespace Go.Proofs.YtngmleddlfkecaaDoor

theorem mul_xor (k a b : Nat) : 2 ^ k * (a ^^^ b) = (2 ^ k * a) ^^^ (2 ^ k * b) := by
  apply Nat.eq_of_testBit_eq
  intro i
  rw [Nat.testBit_xor, Nat.testBit_two_pow_mul, Nat.testBit_two_pow_mul, Nat.testBit_two_pow_mul, Nat.testBit_xor]
  by_cases h : k ≤ i <;> simp [h]

theorem xor_byte {a x : Nat} (ha : a < 256) (hx : x < 256) : a ^^^ x < 256 := Nat.xor_lt_two_pow (n := 8) ha hx

theorem valL_set : ∀ (e : List Nat) (j x : Nat), j < e.length → (∀ y ∈ e, y < 256) → x < 256 → valL (e.set j (e.getD j 0 ^^^ x)) = valL e ^^^ (2 ^ (8 * j) * x)
  | [], j, x, hj, _, _ => by simp at hj
  | b :: r, 0, x, _, hb, hx => by
    have h1 : b < 256 := hb b (by simp)
    simp only [List.set_cons_zero, List.getD_cons_zero, valL, Nat.mul_zero, Nat.pow_zero, Nat.one_mul]
    rw [val_split (xor_byte h1 hx), val_split h1, Nat.xor_assoc, Nat.xor_assoc, Nat.xor_comm x]
  | b :: r, j + 1, x, hj, hb, hx => by
    have h1 : b < 256 := hb b (by simp)
    simp only [List.set_cons_succ, List.getD_cons_succ, valL]
    rw [valL_set r j x (by simpa using hj) (fun y hy => hb y (by simp [hy])) hx, val_split h1, val_split h1, show (256 : Nat) = 2 ^ 8 from rfl, mul_xor, ← Nat.xor_assoc]
    congr 1
    rw [← Nat.mul_assoc, ← Nat.pow_add]
    congr 2
    omega

theorem xorL_length (a b : List Nat) (h : a.length = b.length) : (xorL a b).length = a.length := by simp [xorL, h]

theorem xorL_set : ∀ (p e : List Nat) (j x : Nat), p.length = e.length → j < p.length → (xorL p e).set j ((xorL p e).getD j 0 ^^^ x) = xorL p (e.set j (e.getD j 0 ^^^ x))
  | [], _, j, x, _, hj => by simp at hj
  | a :: p, [], j, x, h, _ => by simp at h
  | a :: p, b :: e, 0, x, _, _ => by simp [xorL, Nat.xor_assoc]
  | a :: p, b :: e, j + 1, x, h, hj => by
    have := xorL_set p e j x (by simpa using h) (by simpa using hj)
    simp only [xorL, List.zipWith_cons_cons, List.set_cons_succ, List.getD_cons_succ] at this ⊢
    rw [this]

theorem xorL_zero : ∀ (p : List Nat), xorL p (List.replicate p.length 0) = p
  | [] => rfl
  | a :: p => by
    have := xorL_zero p
    simp only [xorL, List.length_cons, List.replicate_succ, List.zipWith_cons_cons, Nat.xor_zero] at this ⊢
    rw [this]

theorem valL_zero : ∀ n, valL (List.replicate n 0) = 0
  | 0 => rfl
  | n + 1 => by simp [List.replicate_succ, valL, valL_zero n]

/-- The row, so many bits turned: A ahead of the piece, P the piece, R behind it; E what was turned, Q its bits from 'first' on. -/
structure Turned (A P R : List Nat) (first i : Nat) (L E : List Nat) (Q : Nat) : Prop where
  row : L = A ++ (xorL P E ++ R)
  len : P.length = E.length
  byte : ∀ x ∈ E, x < 256
  val : valL E = 2 ^ first * Q
  lt : Q < 2 ^ i

theorem Turned.zero (A P R : List Nat) (first : Nat) : Turned A P R first 0 (A ++ (P ++ R)) (List.replicate P.length 0) 0 :=
  ⟨by rw [xorL_zero], by simp, by simp, by rw [valL_zero, Nat.mul_zero], by simp⟩

theorem Turned.skip {A P R : List Nat} {first i : Nat} {L E : List Nat} {Q : Nat} (h : Turned A P R first i L E Q) : Turned A P R first (i + 1) L E Q :=
  ⟨h.row, h.len, h.byte, h.val, Nat.lt_of_lt_of_le h.lt (Nat.pow_le_pow_right (by decide) (by omega))⟩

theorem Turned.turn {A P R : List Nat} {first i : Nat} {L E : List Nat} {Q : Nat} (h : Turned A P R first i L E Q) (hat : first + i < 8 * P.length) :
    ∃ E', Turned A P R first (i + 1) (L.set (A.length + (first + i) / 8) (L.getD (A.length + (first + i) / 8) 0 ^^^ 2 ^ ((first + i) % 8))) E' (Q ^^^ 2 ^ i) ∧ Q ^^^ 2 ^ i ≠ 0 := by
  obtain ⟨j, hj⟩ : ∃ j, (first + i) / 8 = j := ⟨_, rfl⟩
  obtain ⟨b, hb⟩ : ∃ b, (first + i) % 8 = b := ⟨_, rfl⟩
  have hjP : j < P.length := by omega
  have hb8 : b < 8 := by omega
  have hx : 2 ^ b < 256 := by
    have : 2 ^ b < 2 ^ 8 := Nat.pow_lt_pow_right (by decide) hb8
    exact this
  have hxl : (xorL P E).length = P.length := xorL_length _ _ h.len
  have hrow : L.set (A.length + j) (L.getD (A.length + j) 0 ^^^ 2 ^ b) = A ++ (xorL P (E.set j (E.getD j 0 ^^^ 2 ^ b)) ++ R) := by
    rw [h.row, List.set_append_right (h := by omega), Nat.add_sub_cancel_left, List.set_append_left (h := by omega), ← xorL_set P E j _ h.len hjP]
    congr 3
    rw [List.getD_eq_getElem?_getD, List.getElem?_append_right (by omega), Nat.add_sub_cancel_left, List.getElem?_append_left (by omega), ← List.getD_eq_getElem?_getD]
  have hQ : Q.testBit i = false := Nat.testBit_lt_two_pow h.lt
  refine ⟨E.set j (E.getD j 0 ^^^ 2 ^ b), ⟨?_, by rw [List.length_set]; exact h.len, ?_, ?_, ?_⟩, ?_⟩
  · rw [hj, hb]; exact hrow
  · intro x hxE
    rcases List.mem_or_eq_of_mem_set hxE with hm | rfl
    · exact h.byte x hm
    · refine xor_byte ?_ hx
      rw [List.getD_eq_getElem?_getD, List.getElem?_eq_getElem (show j < E.length by rw [← h.len]; exact hjP)]
      exact h.byte _ (List.getElem_mem _)
  · rw [valL_set E j _ (by rw [← h.len]; exact hjP) h.byte hx, h.val, mul_xor, ← Nat.pow_add, ← Nat.pow_add, show 8 * j + b = first + i by omega]
  · exact Nat.xor_lt_two_pow (Nat.lt_of_lt_of_le h.lt (Nat.pow_le_pow_right (by decide) (by omega))) (Nat.pow_lt_pow_right (by decide) (by omega))
  · intro h0
    have : (Q ^^^ 2 ^ i).testBit i = true := by rw [Nat.testBit_xor, hQ]; simp
    rw [h0] at this
    simp at this

/-- What the turned row is: bytes and their sum, no longer one another's. -/
theorem Turned.found {A d R : List Nat} {first : Nat} {L E : List Nat} {Q : Nat} (h : Turned A (d ++ dig 4 (crc d)) R first 32 L E Q) (hd : ∀ x ∈ d, x < 256) (hf : first ≤ 8 * (d.length + 4)) (hQ : Q ≠ 0) :
    ∃ d' s', L = A ++ (d' ++ s' ++ R) ∧ d'.length = d.length ∧ s'.length = 4 ∧ crc d' ≠ valL s' ∧ (∀ x ∈ d' ++ s', x < 256) := by
  have hl : (d ++ dig 4 (crc d)).length = d.length + 4 := by simp [dig_length]
  have hxl : (xorL (d ++ dig 4 (crc d)) E).length = d.length + 4 := by rw [xorL_length _ _ h.len, hl]
  obtain ⟨X, hX⟩ : ∃ X, xorL (d ++ dig 4 (crc d)) E = X := ⟨_, rfl⟩
  rw [hX] at hxl
  have hXb : ∀ x ∈ X, x < 256 := by
    intro x hx
    rw [← hX] at hx
    obtain ⟨i, hi, rfl⟩ := List.getElem_of_mem hx
    simp only [xorL, List.getElem_zipWith]
    refine xor_byte ?_ (h.byte _ (List.getElem_mem _))
    have hm : (d ++ dig 4 (crc d))[i]'(by simp only [xorL, List.length_zipWith] at hi; omega) ∈ d ++ dig 4 (crc d) := List.getElem_mem _
    rcases List.mem_append.1 hm with hm | hm
    · exact hd _ hm
    · exact dig_lt _ _ _ hm
  refine ⟨X.take d.length, X.drop d.length, by rw [List.take_append_drop, ← hX]; exact h.row, by rw [List.length_take, hxl]; omega, by rw [List.length_drop, hxl]; omega, ?_, by rw [List.take_append_drop]; exact hXb⟩
  refine flip_found (d := d) (s := dig 4 (crc d)) (e := E) (dig_lt _ _) (fun x hx => hXb x (List.mem_of_mem_drop hx)) (dig_length _ _) (by rw [List.length_drop, hxl]; omega) ?_ h.byte h.len (by rw [List.take_append_drop, hX]) h.val (by rw [← h.len, hl]; exact hf) hQ h.lt
  rw [valL_dig 4 _ (by have := crc_lt d hd; simpa using this)]
end Go.Proofs.YtngmleddlfkecaaDoor

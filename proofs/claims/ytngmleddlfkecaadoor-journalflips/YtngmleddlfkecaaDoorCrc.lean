/-
  DERIVED. CRC-32 on natural numbers: bit by bit, and by halves of a byte; that both are the same; that it stays below 2^32.
-/
namespace Go.Proofs.YtngmleddlfkecaaDoor

def poly : Nat := 3988292384
def tab : List Nat := [0, 498536548, 997073096, 651767980, 1994146192, 1802195444, 1303535960, 1342533948, 3988292384, 4027552580, 3604390888, 3412177804, 2607071920, 2262029012, 2685067896, 3183342108]

/-- One bit. -/
def bit1 (c : Nat) : Nat := if c % 2 = 1 then (c / 2) ^^^ poly else c / 2
/-- So many bits. -/
def bitN : Nat → Nat → Nat
  | 0, c => c
  | n + 1, c => bitN n (bit1 c)
/-- Half a byte, by the table. -/
def nib (c : Nat) : Nat := (c / 16) ^^^ tab.getD (c % 16) 0
/-- A byte. -/
def crcB (c b : Nat) : Nat := bitN 8 (c ^^^ b)
/-- Bytes. -/
def crcL (c : Nat) (bs : List Nat) : Nat := bs.foldl crcB c
/-- The sum. -/
def crc (bs : List Nat) : Nat := crcL 4294967295 bs ^^^ 4294967295

theorem bit1_xor (a b : Nat) : bit1 (a ^^^ b) = bit1 a ^^^ bit1 b := by
  have h2 : (a ^^^ b) % 2 = (a % 2 + b % 2) % 2 := by
    have h := Nat.xor_mod_two_pow (a := a) (b := b) (n := 1)
    simp only [Nat.pow_one] at h
    rw [h]
    rcases Nat.mod_two_eq_zero_or_one a with ha | ha <;> rcases Nat.mod_two_eq_zero_or_one b with hb | hb <;> rw [ha, hb] <;> rfl
  have hd : (a ^^^ b) / 2 = (a / 2) ^^^ (b / 2) := Nat.xor_div_two
  have pp : ∀ x y : Nat, (x ^^^ poly) ^^^ (y ^^^ poly) = x ^^^ y := by
    intro x y
    rw [Nat.xor_comm y poly, Nat.xor_assoc x poly, ← Nat.xor_assoc poly poly y, Nat.xor_self, Nat.zero_xor]
  unfold bit1
  rw [hd, h2]
  rcases Nat.mod_two_eq_zero_or_one a with ha | ha <;> rcases Nat.mod_two_eq_zero_or_one b with hb | hb <;> simp [ha, hb]
  · rw [Nat.xor_assoc]
  · rw [Nat.xor_assoc, Nat.xor_assoc, Nat.xor_comm poly]
  · rw [pp]

theorem bitN_xor : ∀ n a b, bitN n (a ^^^ b) = bitN n a ^^^ bitN n b
  | 0, _, _ => rfl
  | n + 1, a, b => by simp only [bitN]; rw [bit1_xor, bitN_xor n]

theorem bitN_add : ∀ m n c, bitN (m + n) c = bitN n (bitN m c)
  | 0, n, c => by simp [bitN]
  | m + 1, n, c => by rw [Nat.add_right_comm]; simp only [bitN]; exact bitN_add m n _

theorem bit1_even (c : Nat) : bit1 (2 * c) = c := by unfold bit1; simp

theorem bit4_shift (c : Nat) : bitN 4 (16 * c) = c := by
  show bit1 (bit1 (bit1 (bit1 (16 * c)))) = c
  rw [show 16 * c = 2 * (8 * c) by omega, bit1_even, show 8 * c = 2 * (4 * c) by omega, bit1_even, show 4 * c = 2 * (2 * c) by omega, bit1_even, bit1_even]

theorem tab_fact : ∀ n : Fin 16, bitN 4 n.val = tab.getD n.val 0 := by decide

theorem split16 (c : Nat) : c = (16 * (c / 16)) ^^^ (c % 16) := by
  have h := Nat.two_pow_add_eq_or_of_lt (i := 4) (b := c % 16) (by omega) (c / 16)
  have hx : (16 * (c / 16)) ^^^ (c % 16) = (16 * (c / 16)) ||| (c % 16) := by
    apply Nat.eq_of_testBit_eq
    intro i
    rw [Nat.testBit_xor, Nat.testBit_or]
    by_cases hi : i < 4
    · have : (16 * (c / 16)).testBit i = false := by
        rw [show (16 : Nat) = 2 ^ 4 from rfl, Nat.testBit_two_pow_mul]; simp; omega
      simp [this]
    · have : (c % 16).testBit i = false := Nat.testBit_lt_two_pow (Nat.lt_of_lt_of_le (Nat.mod_lt c (by decide)) (show 2 ^ 4 ≤ 2 ^ i from Nat.pow_le_pow_right (by decide) (by omega)))
      simp [this]
  rw [hx, ← h]
  omega

theorem bit4_nib (c : Nat) : bitN 4 c = nib c := by
  have h := tab_fact ⟨c % 16, Nat.mod_lt _ (by decide)⟩
  have h2 : bitN 4 c = bitN 4 ((16 * (c / 16)) ^^^ (c % 16)) := by rw [← split16]
  rw [h2, bitN_xor, bit4_shift]
  simp only at h
  rw [h, nib]

theorem crcB_nib (c b : Nat) : crcB c b = nib (nib (c ^^^ b)) := by
  rw [crcB, show 8 = 4 + 4 from rfl, bitN_add, bit4_nib, bit4_nib]

theorem bit1_lt (c : Nat) (h : c < 2 ^ 32) : bit1 c < 2 ^ 32 := by
  unfold bit1
  split
  · exact Nat.xor_lt_two_pow (by omega) (by decide)
  · omega

theorem bitN_lt : ∀ n c, c < 2 ^ 32 → bitN n c < 2 ^ 32
  | 0, _, h => h
  | n + 1, c, h => bitN_lt n _ (bit1_lt c h)

theorem crcB_lt (c b : Nat) (hc : c < 2 ^ 32) (hb : b < 2 ^ 32) : crcB c b < 2 ^ 32 := bitN_lt 8 _ (Nat.xor_lt_two_pow hc hb)

theorem crcL_lt : ∀ (bs : List Nat) (c : Nat), c < 2 ^ 32 → (∀ b ∈ bs, b < 256) → crcL c bs < 2 ^ 32
  | [], _, h, _ => h
  | b :: bs, c, h, hb => by
    show crcL (crcB c b) bs < 2 ^ 32
    exact crcL_lt bs _ (crcB_lt c b h (by have := hb b (by simp); omega)) (fun x hx => hb x (by simp [hx]))

theorem crc_lt (bs : List Nat) (hb : ∀ b ∈ bs, b < 256) : crc bs < 2 ^ 32 := Nat.xor_lt_two_pow (crcL_lt bs _ (by decide) hb) (by decide)

theorem crcL_snoc (c : Nat) (bs : List Nat) (b : Nat) : crcL c (bs ++ [b]) = crcB (crcL c bs) b := by simp [crcL]

end Go.Proofs.YtngmleddlfkecaaDoor

import Derived.Test.YtngmleddlfkecaaDoorCrc
import Derived.Test.YtngmleddlfkecaaDoorFa
/-
  DERIVED. The sum finds every burst of up to 32 bits: bits that were turned inside of a window of 32, in bytes and their sum, never give bytes whose sum stands behind them.
-/
namespace Go.Proofs.YtngmleddlfkecaaDoor

/-- Bytes, the low one first, as one number. -/
def valL : List Nat → Nat
  | [] => 0
  | b :: r => b + 256 * valL r

theorem bit1_lt32 {c : Nat} (h : c < 4294967296) : bit1 c < 4294967296 := by
  unfold bit1
  split
  · exact Nat.xor_lt_two_pow (n := 32) (by omega) (by decide)
  · omega

theorem bit1_ne {c : Nat} (h : c < 4294967296) (h0 : c ≠ 0) : bit1 c ≠ 0 := by
  unfold bit1
  split
  · intro he
    have h1 : (c / 2).testBit 31 = false := Nat.testBit_lt_two_pow (by omega)
    have h2 : ((c / 2) ^^^ poly).testBit 31 = true := by
      rw [Nat.testBit_xor, h1]; decide
    rw [he] at h2
    simp at h2
  · omega

theorem bitN_ne : ∀ (n : Nat) {c : Nat}, c < 4294967296 → c ≠ 0 → bitN n c ≠ 0
  | 0, _, _, h => h
  | n + 1, _, hl, h => by simp only [bitN]; exact bitN_ne n (bit1_lt32 hl) (bit1_ne hl h)

theorem bitN_shift : ∀ (k q : Nat), bitN k (2 ^ k * q) = q
  | 0, q => by simp [bitN]
  | k + 1, q => by
    simp only [bitN]
    rw [show 2 ^ (k + 1) * q = 2 * (2 ^ k * q) by rw [Nat.pow_succ, Nat.mul_assoc, Nat.mul_left_comm], bit1_even, bitN_shift k q]

theorem val_split {b v : Nat} (hb : b < 256) : b + 256 * v = b ^^^ (256 * v) := by
  have h := Nat.two_pow_add_eq_or_of_lt (i := 8) (b := b) hb v
  have hx : b ^^^ (256 * v) = (256 * v) ||| b := by
    apply Nat.eq_of_testBit_eq
    intro i
    rw [Nat.testBit_xor, Nat.testBit_or]
    by_cases hi : i < 8
    · have : (256 * v).testBit i = false := by
        rw [show 256 * v = 2 ^ 8 * v from rfl, Nat.testBit_two_pow_mul]
        simp; omega
      rw [this]; simp
    · have : b.testBit i = false := Nat.testBit_lt_two_pow (Nat.lt_of_lt_of_le hb (by rw [show 256 = 2 ^ 8 from rfl]; exact Nat.pow_le_pow_right (by decide) (by omega)))
      rw [this]; simp
  rw [hx, ← h]
  show b + 2 ^ 8 * v = 2 ^ 8 * v + b
  omega

theorem crcL_val : ∀ (e : List Nat) (c : Nat), (∀ x ∈ e, x < 256) → crcL c e = bitN (8 * e.length) (c ^^^ valL e)
  | [], c, _ => by simp [crcL, valL, bitN]
  | b :: r, c, h => by
    have hb : b < 256 := h b (by simp)
    have ih := crcL_val r (crcB c b) (fun x hx => h x (by simp [hx]))
    have e1 : crcL c (b :: r) = crcL (crcB c b) r := rfl
    rw [e1, ih, List.length_cons, show 8 * (r.length + 1) = 8 + 8 * r.length by omega, bitN_add, valL, val_split hb, ← Nat.xor_assoc, bitN_xor 8 (c ^^^ b), show 256 * valL r = 2 ^ 8 * valL r from rfl, bitN_shift 8]
    rfl

/-- A burst is seen. -/
theorem burst {e : List Nat} (he : ∀ x ∈ e, x < 256) {first q : Nat} (hv : valL e = 2 ^ first * q) (hf : first ≤ 8 * e.length) (hq : q ≠ 0) (hl : q < 4294967296) : crcL 0 e ≠ 0 := by
  rw [crcL_val e 0 he, Nat.zero_xor, hv, show 8 * e.length = first + (8 * e.length - first) by omega, bitN_add, bitN_shift]
  exact bitN_ne _ hl hq

def xorL (a b : List Nat) : List Nat := List.zipWith (· ^^^ ·) a b

theorem crcL_xor : ∀ (a b : List Nat) (c d : Nat), a.length = b.length → crcL (c ^^^ d) (xorL a b) = crcL c a ^^^ crcL d b
  | [], [], _, _, _ => rfl
  | x :: a, y :: b, c, d, h => by
    have e1 : crcL (c ^^^ d) (xorL (x :: a) (y :: b)) = crcL (crcB (c ^^^ d) (x ^^^ y)) (xorL a b) := rfl
    have e2 : crcB (c ^^^ d) (x ^^^ y) = crcB c x ^^^ crcB d y := by
      unfold crcB
      rw [← bitN_xor]
      congr 1
      rw [Nat.xor_assoc, Nat.xor_assoc, ← Nat.xor_assoc d, Nat.xor_comm d x, Nat.xor_assoc x]
    rw [e1, e2, crcL_xor a b _ _ (by simpa using h)]
    rfl

theorem crcL_append (c : Nat) (a b : List Nat) : crcL c (a ++ b) = crcL (crcL c a) b := by simp [crcL]

theorem valL_lt : ∀ (e : List Nat), (∀ x ∈ e, x < 256) → valL e < 256 ^ e.length
  | [], _ => by simp [valL]
  | b :: r, h => by
    have hb : b < 256 := h b (by simp)
    have ih := valL_lt r (fun x hx => h x (by simp [hx]))
    rw [valL, List.length_cons, Nat.pow_succ]
    omega

/-- Bytes whose sum stands behind them: the register is the same as behind nothing but the sum's own ending. -/
theorem crc_own {d s : List Nat} (hs : ∀ x ∈ s, x < 256) (hl : s.length = 4) (h : crc d = valL s) : crcL 4294967295 (d ++ s) = bitN 32 4294967295 := by
  rw [crcL_append, crcL_val s _ hs, hl, ← h]
  unfold crc
  rw [← Nat.xor_assoc, Nat.xor_self, Nat.zero_xor]

/-- Turned inside of a window of 32 bits, bytes with their sum are no bytes with their sum. -/
theorem flip_found {d s d' s' e : List Nat} (hs : ∀ x ∈ s, x < 256) (hs' : ∀ x ∈ s', x < 256) (hl : s.length = 4) (hl' : s'.length = 4) (h : crc d = valL s)
    (he : ∀ x ∈ e, x < 256) (hel : (d ++ s).length = e.length) (hx : d' ++ s' = xorL (d ++ s) e) {first q : Nat} (hv : valL e = 2 ^ first * q) (hf : first ≤ 8 * e.length) (hq : q ≠ 0) (hql : q < 4294967296) : crc d' ≠ valL s' := by
  intro h'
  have e1 := crc_own hs hl h
  have e2 := crc_own hs' hl' h'
  have e3 := crcL_xor (d ++ s) e 4294967295 0 hel
  rw [Nat.xor_zero, ← hx, e2, e1] at e3
  refine burst he hv hf hq hql ?_
  have e4 : bitN 32 4294967295 ^^^ bitN 32 4294967295 = bitN 32 4294967295 ^^^ (bitN 32 4294967295 ^^^ crcL 0 e) := by rw [← e3]
  rw [← Nat.xor_assoc, Nat.xor_self, Nat.zero_xor] at e4
  exact e4.symm
end Go.Proofs.YtngmleddlfkecaaDoor

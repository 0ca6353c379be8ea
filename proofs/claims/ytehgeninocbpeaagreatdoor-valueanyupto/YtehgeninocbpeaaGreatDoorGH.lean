import Derived.Test.YtehgeninocbpeaaGreatDoorGC
import Derived.Lib.DecodeN
/-
  DERIVED. The document's reading of one element.
-/
namespace Go.Proofs.YtehgeninocbpeaaGreatDoor.Gl
open Go Go.Proofs Go.RowKit

/-- The element at a place, as the document has it, and how long it is. -/
def oneV (s : ByteArray) (i : Nat) : Int := if (Utf8.decode s i).1 = 65533 ∧ (Utf8.decode s i).2 = 1 then -1 - ((s.get! i).toNat : Int) else ((Utf8.decode s i).1 : Int)
def oneW (s : ByteArray) (i : Nat) : Nat := (Utf8.decode s i).2

/-- Does a byte go on with a rune? -/
def Ct (s : ByteArray) (p : Nat) : Prop := p < s.size ∧ 128 ≤ (s.get! p).toNat ∧ (s.get! p).toNat ≤ 191
/-- What so many bytes are worth. -/
def pv (s : ByteArray) (i v0 : Nat) : Nat → Nat
  | 0 => v0
  | k + 1 => pv s i v0 k * 64 + ((s.get! (i + (k + 1))).toNat - 128)

theorem lt256 (s : ByteArray) (p : Nat) : (s.get! p).toNat < 256 := UInt8.toNat_lt _

theorem dec_bad (s : ByteArray) (i : Nat) (h : Utf8.decode s i = (65533, 1)) : oneV s i = -1 - ((s.get! i).toNat : Int) ∧ oneW s i = 1 := by
  unfold oneV oneW
  rw [h]
  exact ⟨if_pos ⟨rfl, rfl⟩, rfl⟩
theorem dec_good (s : ByteArray) (i v n : Nat) (h : Utf8.decode s i = (v, n)) (hn : n ≠ 1) : oneV s i = (v : Int) ∧ oneW s i = n := by
  unfold oneV oneW
  rw [h]
  exact ⟨if_neg (fun h => hn h.2), rfl⟩
theorem dec_low (s : ByteArray) (i : Nat) (hi : i < s.size) (h : (s.get! i).toNat < 128) : oneV s i = ((s.get! i).toNat : Int) ∧ oneW s i = 1 := by
  have hd := decode_ascii s i hi (by rw [get_get! s i hi]; exact h)
  rw [get_get! s i hi] at hd
  unfold oneV oneW
  rw [hd]
  exact ⟨if_neg (fun h => by have := h.1; simp only at this; omega), rfl⟩

set_option maxRecDepth 100000 in
theorem dec_none (s : ByteArray) (i : Nat) (h : (128 ≤ (s.get! i).toNat ∧ (s.get! i).toNat < 194) ∨ 244 < (s.get! i).toNat) : Utf8.decode s i = (65533, 1) := by
  rw [Lib.decode_at]
  have h0 := lt256 s i
  have h1 := lt256 s (i + 1)
  have h2 := lt256 s (i + 2)
  have h3 := lt256 s (i + 3)
  generalize (s.get! i).toNat = b0 at *
  generalize (s.get! (i + 1)).toNat = b1 at *
  generalize (s.get! (i + 2)).toNat = b2 at *
  generalize (s.get! (i + 3)).toNat = b3 at *
  generalize s.size - i = n
  unfold Lib.decodeN
  repeat' split
  all_goals first | rfl | (exfalso; omega)

/-- A lead byte's number of bytes, what it brings, and the least that it may be. -/
def Lead (c n v0 least : Nat) : Prop := (194 ≤ c ∧ c ≤ 223 ∧ n = 2 ∧ v0 = c - 192 ∧ least = 128) ∨ (224 ≤ c ∧ c ≤ 239 ∧ n = 3 ∧ v0 = c - 224 ∧ least = 2048) ∨ (240 ≤ c ∧ c ≤ 244 ∧ n = 4 ∧ v0 = c - 240 ∧ least = 65536)

set_option maxRecDepth 100000 in
theorem dec_cut (s : ByteArray) (i n v0 least k : Nat) (hl : Lead (s.get! i).toNat n v0 least) (hk : 1 ≤ k ∧ k < n) (h : ¬ Ct s (i + k)) : Utf8.decode s i = (65533, 1) := by
  rw [Lib.decode_at]
  have h0 := lt256 s i
  have h1 := lt256 s (i + 1)
  have h2 := lt256 s (i + 2)
  have h3 := lt256 s (i + 3)
  have hc : ¬ (k < s.size - i ∧ 128 ≤ (s.get! (i + k)).toNat ∧ (s.get! (i + k)).toNat ≤ 191) := fun h' => h ⟨by omega, h'.2⟩
  clear h
  have hk3 : k = 1 ∨ k = 2 ∨ k = 3 := by rcases hl with h | h | h <;> omega
  unfold Lead at hl
  rcases hk3 with rfl | rfl | rfl
  all_goals
    generalize (s.get! i).toNat = b0 at *
    generalize (s.get! (i + 1)).toNat = b1 at *
    generalize (s.get! (i + 2)).toNat = b2 at *
    generalize (s.get! (i + 3)).toNat = b3 at *
    generalize s.size - i = m at *
    unfold Lib.decodeN
    repeat' split
    all_goals first | rfl | (exfalso; omega)

/-- May it not be? -/
def Off (v least : Nat) : Prop := v < least ∨ 1114111 < v ∨ (55296 ≤ v ∧ v ≤ 57343)

set_option maxRecDepth 100000 in
set_option maxHeartbeats 4000000 in
theorem dec_all (s : ByteArray) (i n v0 least : Nat) (hl : Lead (s.get! i).toNat n v0 least) (h : ∀ k, 1 ≤ k → k < n → Ct s (i + k)) :
    (Off (pv s i v0 (n - 1)) least → Utf8.decode s i = (65533, 1)) ∧ (¬ Off (pv s i v0 (n - 1)) least → Utf8.decode s i = (pv s i v0 (n - 1), n)) := by
  rw [Lib.decode_at]
  have h0 := lt256 s i
  have h1 := lt256 s (i + 1)
  have h2 := lt256 s (i + 2)
  have h3 := lt256 s (i + 3)
  unfold Off
  rcases hl with ⟨a, b, rfl, rfl, rfl⟩ | ⟨a, b, rfl, rfl, rfl⟩ | ⟨a, b, rfl, rfl, rfl⟩
  · have c1 := h 1 (by omega) (by omega)
    obtain ⟨d1, e1, f1⟩ := c1
    have e : pv s i ((s.get! i).toNat - 192) (2 - 1) = ((s.get! i).toNat - 192) * 64 + ((s.get! (i + 1)).toNat - 128) := rfl
    rw [e]
    have hm : 1 < s.size - i := by omega
    generalize (s.get! i).toNat = b0 at *
    generalize (s.get! (i + 1)).toNat = b1 at *
    generalize (s.get! (i + 2)).toNat = b2 at *
    generalize (s.get! (i + 3)).toNat = b3 at *
    generalize s.size - i = m at *
    clear h e d1
    unfold Lib.decodeN
    constructor <;> intro hh <;> repeat' split
    all_goals first | rfl | (exfalso; omega) | (apply Prod.ext <;> simp only <;> omega)
  · have c1 := h 1 (by omega) (by omega)
    have c2 := h 2 (by omega) (by omega)
    obtain ⟨d1, e1, f1⟩ := c1
    obtain ⟨d2, e2, f2⟩ := c2
    have e : pv s i ((s.get! i).toNat - 224) (3 - 1) = (((s.get! i).toNat - 224) * 64 + ((s.get! (i + 1)).toNat - 128)) * 64 + ((s.get! (i + 2)).toNat - 128) := rfl
    rw [e]
    have hm : 2 < s.size - i := by omega
    generalize (s.get! i).toNat = b0 at *
    generalize (s.get! (i + 1)).toNat = b1 at *
    generalize (s.get! (i + 2)).toNat = b2 at *
    generalize (s.get! (i + 3)).toNat = b3 at *
    generalize s.size - i = m at *
    clear h e d1 d2
    unfold Lib.decodeN
    constructor <;> intro hh <;> repeat' split
    all_goals first | rfl | (exfalso; omega) | (apply Prod.ext <;> simp only <;> omega)
  · have c1 := h 1 (by omega) (by omega)
    have c2 := h 2 (by omega) (by omega)
    have c3 := h 3 (by omega) (by omega)
    obtain ⟨d1, e1, f1⟩ := c1
    obtain ⟨d2, e2, f2⟩ := c2
    obtain ⟨d3, e3, f3⟩ := c3
    have e : pv s i ((s.get! i).toNat - 240) (4 - 1) = ((((s.get! i).toNat - 240) * 64 + ((s.get! (i + 1)).toNat - 128)) * 64 + ((s.get! (i + 2)).toNat - 128)) * 64 + ((s.get! (i + 3)).toNat - 128) := rfl
    rw [e]
    have hm : 3 < s.size - i := by omega
    generalize (s.get! i).toNat = b0 at *
    generalize (s.get! (i + 1)).toNat = b1 at *
    generalize (s.get! (i + 2)).toNat = b2 at *
    generalize (s.get! (i + 3)).toNat = b3 at *
    generalize s.size - i = m at *
    clear h e d1 d2 d3
    unfold Lib.decodeN
    constructor <;> intro hh <;> repeat' split
    all_goals first | rfl | (exfalso; omega) | (apply Prod.ext <;> simp only <;> omega)

theorem pv_le (s : ByteArray) (i v0 : Nat) (h0 : v0 ≤ 31) : ∀ k, k ≤ 3 → (∀ j, 1 ≤ j → j ≤ k → Ct s (i + j)) → pv s i v0 k ≤ 8388607 ∧ (k = 0 → pv s i v0 k ≤ 31) ∧ (k = 1 → pv s i v0 k ≤ 2047) ∧ (k = 2 → pv s i v0 k ≤ 131071)
  | 0, _, _ => ⟨Nat.le_trans h0 (by omega), fun _ => h0, fun h => by omega, fun h => by omega⟩
  | k + 1, hk, hc => by
    have ih := pv_le s i v0 h0 k (by omega) (fun j h1 h2 => hc j h1 (by omega))
    have hb := hc (k + 1) (by omega) (by omega)
    unfold Ct at hb
    have e : pv s i v0 (k + 1) = pv s i v0 k * 64 + ((s.get! (i + (k + 1))).toNat - 128) := rfl
    generalize pv s i v0 (k + 1) = X at *
    generalize pv s i v0 k = Y at *
    generalize (s.get! (i + (k + 1))).toNat = b at *
    refine ⟨?_, ?_, ?_, ?_⟩ <;> omega

end Go.Proofs.YtehgeninocbpeaaGreatDoor.Gl

import Derived.Test.YtehgeninocbpeaaGreatDoorGJ
import Derived.Lib.RuneBytes
/-
  DERIVED. Letters without their case, byte by byte and rune by rune.
-/
namespace Go.Proofs.YtehgeninocbpeaaGreatDoor.Gl
open Go Go.Proofs Go.RowKit

/-- Is the byte there turned? -/
def Turned (s : ByteArray) (i : Nat) : Prop := (65 ≤ (s.get! i).toNat ∧ (s.get! i).toNat ≤ 90) ∨ (0 < i ∧ (s.get! (i - 1)).toNat = 195 ∧ 128 ≤ (s.get! i).toNat ∧ (s.get! i).toNat ≤ 158 ∧ (s.get! i).toNat ≠ 151 ∧ oneW s (i - 1) = 2)
instance (s : ByteArray) (i : Nat) : Decidable (Turned s i) := by unfold Turned; infer_instance
def rf (s : ByteArray) (i : Nat) : UInt8 := if Turned s i then s.get! i + 32 else s.get! i
def fol (s : ByteArray) (n : Nat) : List UInt8 := (List.range n).map (rf s)
theorem fol_succ (s : ByteArray) (n : Nat) : fol s (n + 1) = fol s n ++ [rf s n] := by unfold fol; rw [List.range_succ, List.map_append]; rfl

theorem turned_nat (s : ByteArray) (i : Nat) (h : Turned s i) : (rf s i).toNat = (s.get! i).toNat + 32 := by
  unfold rf
  rw [if_pos h, UInt8.toNat_add]
  unfold Turned at h
  have e : (32 : UInt8).toNat = 32 := rfl
  rw [e]
  omega

/-- What an element is made of. -/
theorem shape (s : ByteArray) (pos : Nat) (h : pos < s.size) :
    ((Utf8.decode s pos).2 = 1 ∧ (((Utf8.decode s pos).1 = (s.get! pos).toNat ∧ (s.get! pos).toNat < 128) ∨ ((Utf8.decode s pos).1 = 65533 ∧ 128 ≤ (s.get! pos).toNat))) ∨
    ((Utf8.decode s pos).2 = 2 ∧ pos + 2 ≤ s.size ∧ 194 ≤ (s.get! pos).toNat ∧ (s.get! pos).toNat ≤ 223 ∧ 128 ≤ (s.get! (pos + 1)).toNat ∧ (s.get! (pos + 1)).toNat ≤ 191 ∧ (Utf8.decode s pos).1 = ((s.get! pos).toNat - 192) * 64 + ((s.get! (pos + 1)).toNat - 128)) ∨
    ((Utf8.decode s pos).2 = 3 ∧ pos + 3 ≤ s.size ∧ 224 ≤ (s.get! pos).toNat ∧ 128 ≤ (s.get! (pos + 1)).toNat ∧ (s.get! (pos + 1)).toNat ≤ 191 ∧ 128 ≤ (s.get! (pos + 2)).toNat ∧ (s.get! (pos + 2)).toNat ≤ 191 ∧ 2048 ≤ (Utf8.decode s pos).1) ∨
    ((Utf8.decode s pos).2 = 4 ∧ pos + 4 ≤ s.size ∧ 224 ≤ (s.get! pos).toNat ∧ 128 ≤ (s.get! (pos + 1)).toNat ∧ (s.get! (pos + 1)).toNat ≤ 191 ∧ 128 ≤ (s.get! (pos + 2)).toNat ∧ (s.get! (pos + 2)).toNat ≤ 191 ∧ 128 ≤ (s.get! (pos + 3)).toNat ∧ (s.get! (pos + 3)).toNat ≤ 191 ∧ 65536 ≤ (Utf8.decode s pos).1) := by
  rw [Lib.decode_at]
  have h0 := lt256 s pos
  have h1 := lt256 s (pos + 1)
  have h2 := lt256 s (pos + 2)
  have h3 := lt256 s (pos + 3)
  generalize (s.get! pos).toNat = b0 at *
  generalize (s.get! (pos + 1)).toNat = b1 at *
  generalize (s.get! (pos + 2)).toNat = b2 at *
  generalize (s.get! (pos + 3)).toNat = b3 at *
  generalize hn : s.size - pos = n at *
  unfold Lib.decodeN
  repeat' split
  all_goals first
    | exact .inl ⟨rfl, .inl ⟨rfl, by omega⟩⟩
    | exact .inl ⟨rfl, .inr ⟨rfl, by omega⟩⟩
    | exact .inr (.inl ⟨rfl, by omega, by omega, by omega, by omega, by omega, by simp only; omega⟩)
    | exact .inr (.inr (.inl ⟨rfl, by omega, by omega, by omega, by omega, by omega, by omega, by simp only; omega⟩))
    | exact .inr (.inr (.inr ⟨rfl, by omega, by omega, by omega, by omega, by omega, by omega, by omega, by omega, by simp only; omega⟩))

/-- No rune of two bytes goes over this place. -/
def Bd (s : ByteArray) (p : Nat) : Prop := 0 < p → (s.get! (p - 1)).toNat = 195 → oneW s (p - 1) ≠ 2

theorem bd_next (s : ByteArray) (pos : Nat) (h : pos < s.size) : Bd s (pos + oneW s pos) := by
  intro _ h2
  have hs := shape s pos h
  have e : oneW s pos = (Utf8.decode s pos).2 := rfl
  rcases hs with ⟨hd, _⟩ | ⟨hd, hs⟩ | ⟨hd, hs⟩ | ⟨hd, hs⟩
  · rw [e, hd, show pos + 1 - 1 = pos by omega, e, hd]; omega
  · rw [e, hd, show pos + 2 - 1 = pos + 1 by omega] at h2; omega
  · rw [e, hd, show pos + 3 - 1 = pos + 2 by omega] at h2; omega
  · rw [e, hd, show pos + 4 - 1 = pos + 3 by omega] at h2; omega

theorem next_le (s : ByteArray) (pos : Nat) (h : pos < s.size) : pos + oneW s pos ≤ s.size := by
  have e : oneW s pos = (Utf8.decode s pos).2 := rfl
  rcases shape s pos h with ⟨hd, _⟩ | ⟨hd, hs⟩ | ⟨hd, hs⟩ | ⟨hd, hs⟩ <;> omega

def bytesFrom (s : ByteArray) (a b : Nat) : List UInt8 := (s.extract a b).data.toList

theorem from_add (s : ByteArray) {a b c : Nat} (h1 : a ≤ b) (h2 : b ≤ c) : bytesFrom s a c = bytesFrom s a b ++ bytesFrom s b c := by
  unfold bytesFrom
  rw [ByteArray.data_extract, ByteArray.data_extract, ByteArray.data_extract]
  simp only [Array.toList_extract, List.extract_eq_take_drop]
  rw [show c - a = (b - a) + (c - b) by omega, List.take_add, List.drop_drop, show a + (b - a) = b by omega]
theorem from_self (s : ByteArray) (a : Nat) : bytesFrom s a a = [] := by
  unfold bytesFrom
  rw [ByteArray.data_extract]
  simp
theorem drop_cons8 {s : ByteArray} {k : Nat} (h : k < s.size) : s.data.toList.drop k = s[k] :: s.data.toList.drop (k + 1) := by
  have h2 : k < s.data.toList.length := by rw [Array.length_toList]; exact h
  rw [List.drop_eq_getElem_cons h2]
  rfl
theorem from_one (s : ByteArray) {a : Nat} (h : a < s.size) : bytesFrom s a (a + 1) = [s.get! a] := by
  unfold bytesFrom
  rw [ByteArray.data_extract]
  simp only [Array.toList_extract, List.extract_eq_take_drop]
  rw [drop_cons8 h, show a + 1 - a = 1 by omega]
  rw [get_get! s a h]
  rfl
end Go.Proofs.YtehgeninocbpeaaGreatDoor.Gl

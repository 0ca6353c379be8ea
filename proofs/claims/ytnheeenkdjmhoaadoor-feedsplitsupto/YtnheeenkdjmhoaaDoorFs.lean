
import Derived.Test.YtnheeenkdjmhoaaDoorFe
import Derived.Laws.RangeAny
import Derived.Lib.OthersKept
/-
  DERIVED. Marks by their escapes: pure, and the document's.
-/
namespace Go.Proofs.YtnheeenkdjmhoaaDoor
open Go Go.Proofs Go.RowKit

/-- A byte, a mark by its escape. -/
def esc1 (c : UInt8) : List UInt8 := if c = 124 then [92, 70, 92] else if c = 94 then [92, 83, 92] else if c = 126 then [92, 82, 92] else if c = 92 then [92, 69, 92] else if c = 38 then [92, 84, 92] else [c]
def escL (l : List UInt8) : List UInt8 := l.flatMap esc1
theorem escL_append (a b : List UInt8) : escL (a ++ b) = escL a ++ escL b := by simp [escL]
theorem escL_one (c : UInt8) : escL [c] = esc1 c := by simp [escL]
theorem esc1_len (c : UInt8) : (esc1 c).length ≤ 3 := by unfold esc1; repeat' split
                                                         all_goals simp
theorem escL_len : ∀ l : List UInt8, (escL l).length ≤ 3 * l.length
  | [] => by simp [escL]
  | c :: l => by
    have h1 := esc1_len c
    have h2 := escL_len l
    have : escL (c :: l) = esc1 c ++ escL l := by simp [escL]
    rw [this, List.length_append, List.length_cons]
    omega
/-- The bytes of a text. -/
def tl (s : ByteArray) : List UInt8 := s.data.toList
theorem tl_len (s : ByteArray) : (tl s).length = s.size := by rw [tl, Array.length_toList]; rfl
theorem tl_app (a b : ByteArray) : tl (a ++ b) = tl a ++ tl b := by rw [tl, tl, tl, ByteArray.data_append, Array.toList_append]
theorem tl_ext {a b : ByteArray} (h : tl a = tl b) : a = b := by
  cases a; cases b; simp only [tl] at h; congr; exact Array.toList_inj.1 h
theorem tl_mk (l : List UInt8) : tl ⟨l.toArray⟩ = l := by simp [tl]
theorem tl_get (s : ByteArray) (k : Nat) (h : k < s.size) : (tl s)[k]'(by rw [tl_len]; exact h) = s[k] := by simp [tl]; rfl
theorem tl_take_succ (s : ByteArray) (k : Nat) (h : k < s.size) : (tl s).take (k + 1) = (tl s).take k ++ [s[k]] := by
  rw [List.take_succ_eq_append_getElem (by rw [tl_len]; exact h), tl_get s k h]
theorem tl_extract (s : ByteArray) (i j : Nat) : tl (s.extract i j) = ((tl s).take j).drop i := by
  simp [tl, ByteArray.data_extract, List.drop_take]
theorem u8_eq {c : UInt8} {n : Nat} (h : c.toNat = n) (hn : n < 256) : c = UInt8.ofNat n := by
  apply UInt8.toNat_inj.1; rw [h]; simp [UInt8.toNat_ofNat']; omega

/-- Which of the marks a byte is, or none. -/
theorem mark_ways (y : Nat) : y = 124 ∨ y = 94 ∨ y = 126 ∨ y = 92 ∨ y = 38 ∨ (y ≠ 124 ∧ y ≠ 94 ∧ y ≠ 126 ∧ y ≠ 92 ∧ y ≠ 38) := by omega

end Go.Proofs.YtnheeenkdjmhoaaDoor

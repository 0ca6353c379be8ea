import Derived.Test.YtggjppelepfcdaaGreatDoorD
import Derived.Ground.NamesProg
import Derived.Shelf.Lay
import Derived.Shelf.Strings.SlTrimAscii
namespace Go.Proofs
open Go.Shelf
shelf_lay Lays.n162 Nm 162 at Tryz as Tryz.lays162
end Go.Proofs

namespace Go.Proofs.YtggjppelepfcdaaGreatDoor
open Go Go.Proofs Go.RowKit Go.Shelf Go.Lib

/-- How many bytes are left, spaces and zeros at the end taken away. -/
def trimN (L : List UInt8) : Nat → Nat
  | 0 => 0
  | n + 1 => if L.getD n 1 = 32 ∨ L.getD n 1 = 0 then trimN L n else n + 1

theorem trimN_le (L : List UInt8) : ∀ n, trimN L n ≤ n
  | 0 => Nat.le_refl _
  | n + 1 => by
    rw [trimN]
    split
    · have := trimN_le L n; omega
    · exact Nat.le_refl _

theorem trim_take (L : List UInt8) : ∀ n, n ≤ L.length → ((L.take n).reverse.dropWhile ([32, 0].contains ·)).reverse = L.take (trimN L n)
  | 0, _ => rfl
  | n + 1, h => by
    have e : L.take (n + 1) = L.take n ++ [L.getD n 1] := by
      rw [List.take_add_one]
      simp [List.getElem?_eq_getElem (show n < L.length by omega), List.getD_eq_getElem?_getD]
    rw [trimN]
    by_cases hc : L.getD n 1 = 32 ∨ L.getD n 1 = 0
    · rw [if_pos hc, e, List.reverse_append, List.reverse_singleton, List.singleton_append, List.dropWhile_cons_of_pos, trim_take L n (by omega)]
      simpa using hc
    · rw [if_neg hc, e, List.reverse_append, List.reverse_singleton, List.singleton_append, List.dropWhile_cons_of_neg]
      · simp
      · simpa using hc

/-- A text without the spaces and zeros at its end. -/
def trimB (s : ByteArray) : ByteArray := s.extract 0 (trimN s.data.toList s.size)

theorem extract_list (s : ByteArray) (n : Nat) : (s.extract 0 n).data.toList = s.data.toList.take n := by
  simp [ByteArray.data_extract]

theorem trimB_eq (s : ByteArray) : (⟨(Lib.trimRightS s.data.toList [32, 0]).toArray⟩ : ByteArray) = trimB s := by
  have h := trim_take s.data.toList s.data.toList.length (Nat.le_refl _)
  rw [List.take_length] at h
  unfold trimB
  apply ByteArray.ext
  apply Array.ext'
  rw [extract_list]
  exact h

set_option maxHeartbeats 1000000 in
theorem trimmed_any (s : ByteArray) (w : World) (hs : s.size ≤ 140737488351232) : Calls Tryz.prog 36 #[.string s] w fun e w' => e = .returned (.string (trimB s)) ∧ Below w.heap.size w w' := by
  have hcon := Any.strings_TrimRight_laid Tryz.lays162 (by kernel_rfl) s ⟨#[32, 0]⟩ w (by omega) (by decide) (ascii_of_all (by decide))
  change Calls Tryz.prog 64 _ _ (fun e w' => e = .returned (.string ⟨(Lib.trimRightS s.data.toList [32, 0]).toArray⟩) ∧ Below w.heap.size w w') at hcon
  rw [trimB_eq] at hcon
  go_enter Tryz.func36, Tryz.ntmps36
  go_wp2_with (go_at_call 64; refine hcon.mono ?_; rintro e w' ⟨rfl, hB⟩)
  go_ret
  exact ⟨rfl, hB⟩
end Go.Proofs.YtggjppelepfcdaaGreatDoor

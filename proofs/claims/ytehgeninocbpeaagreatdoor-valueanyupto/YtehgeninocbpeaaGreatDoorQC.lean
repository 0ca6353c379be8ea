import Derived.Test.YtehgeninocbpeaaGreatDoorQB
import Derived.Deep.OwnRows
/-
  DERIVED. The number of a day.
-/
namespace Go.Proofs.YtehgeninocbpeaaGreatDoor.Tm
open Go Go.Proofs Go.RowKit

/-- The days of so many months. -/
def cu (y : Nat) : Nat → Nat
  | 0 => 0
  | k + 1 => cu y k + md y (k + 1)
theorem md_le (y m : Nat) : md y m ≤ 31 := by
  unfold md
  split
  · omega
  · split
    · omega
    · unfold mL
      rename_i h _
      have : m - 1 < 12 := by omega
      generalize m - 1 = k at *
      rcases (by omega : k = 0 ∨ k = 1 ∨ k = 2 ∨ k = 3 ∨ k = 4 ∨ k = 5 ∨ k = 6 ∨ k = 7 ∨ k = 8 ∨ k = 9 ∨ k = 10 ∨ k = 11) with rfl | rfl | rfl | rfl | rfl | rfl | rfl | rfl | rfl | rfl | rfl | rfl <;> decide
theorem cu_le (y : Nat) : ∀ k, cu y k ≤ 31 * k
  | 0 => by simp [cu]
  | k + 1 => by have := cu_le y k; have := md_le y (k + 1); rw [cu]; omega

/-- A day that is one. -/
def Day (y m d : Nat) : Prop := 1 ≤ y ∧ y ≤ 9999 ∧ 1 ≤ m ∧ m ≤ 12 ∧ 1 ≤ d ∧ d ≤ md y m
def num (y m d : Nat) : Nat := dA y + cu y (m - 1) + d - 1
theorem dA_le {y : Nat} (h : y ≤ 10000) : dA y ≤ 3652059 := by unfold dA; omega
end Go.Proofs.YtehgeninocbpeaaGreatDoor.Tm

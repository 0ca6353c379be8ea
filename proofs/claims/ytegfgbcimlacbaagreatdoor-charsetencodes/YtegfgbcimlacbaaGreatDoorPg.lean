
import Derived.Test.YtegfgbcimlacbaaGreatDoorPf
import Derived.Test.YtegfgbcimlacbaaGreatDoorPa
/-
  DERIVED. The rune that bytes begin with.
-/
namespace Go.Proofs.YtegfgbcimlacbaaGreatDoor
open Go Go.Proofs Go.RowKit

/-- The rune that bytes begin with, and how many of them it has: b is the first. -/
def headS (u : Bool) (kc : ByteArray) (h : Row) (b : Nat) (s : ByteArray) : Nat × Nat :=
  if plainR kc (b : Int) = true then (b, 1)
  else if u = true then uHead s
  else if 160 ≤ b ∧ mean h.1 (b - 160) ≠ 0 then (mean h.1 (b - 160), 1)
  else (0, 0)

end Go.Proofs.YtegfgbcimlacbaaGreatDoor

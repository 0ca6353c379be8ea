import Derived.Test.YtehgeninocbpeaaGreatDoorQE
/-
  DERIVED. Days: which are days, and their numbers.
-/
namespace Go.Proofs.YtehgeninocbpeaaGreatDoor.Tm
open Go Go.Proofs Go.RowKit

def dv (y m d : Int) : Value := .agg #[.int .i64 y, .int .i64 m, .int .i64 d]

/-- The first field that may not be. -/
def uf (y m d : Int) : Int := if y < 1 ∨ 9999 < y then 0 else if m < 1 ∨ 12 < m then 1 else if d < 1 ∨ (md y.toNat m.toNat : Int) < d then 2 else -1

end Go.Proofs.YtehgeninocbpeaaGreatDoor.Tm

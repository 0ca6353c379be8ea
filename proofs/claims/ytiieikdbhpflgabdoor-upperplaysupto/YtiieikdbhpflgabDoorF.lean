import Derived.Test.YtiieikdbhpflgabDoorD
/-
  DERIVED. The law of the whole table.
-/
namespace Go.Proofs.YtiieikdbhpflgabDoor
open Go Go.Proofs Go.RowKit

theorem act_both (w : World) (s e : Int) (hT : Tb w) : Calls Tryd.prog 23 #[.int .i64 s, .int .i64 e] w fun x w' => x = .returned (.int .i64 (actR s e)) ∧ w' = w := by
  rw [← act_same]; exact act_any w s e hT
end Go.Proofs.YtiieikdbhpflgabDoor

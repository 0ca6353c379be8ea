
import Derived.Test.YtlfmihhnijlpiaaGreatDoorRD
/-
  DERIVED. What the program tells of a VR.
-/
namespace Go.Proofs.YtlfmihhnijlpiaaGreatDoor.Rp
open Go Go.Proofs Go.RowKit

theorem repOf_open (w : World) (v : Int) : ∃ cf ff, FunV cf ∧ FunV ff ∧ Calls Tryz.prog 25 #[.int .i64 v] w fun e w' => e = .returned (.tuple #[.agg #[.string (nm (vn v)), .int .u8 (pd (vn v)), .int .i64 (un (vn v)), .int .i64 (mo (vn v)), .bool (tx (vn v)), .bool (ch (vn v)), .bool (mu (vn v)), .bool (lo (vn v)), cf, ff], .bool (decide (1 ≤ v ∧ v ≤ 28))]) ∧ Below w.heap.size w w' := by
  obtain ⟨cf, ff, h1, h2, h3⟩ := rep_shape v
  have := repOf_any w v
  rw [h3] at this
  exact ⟨cf, ff, h1, h2, this⟩

/-- What there is to know of a VR, as a value. -/
def infoV (k : Nat) : Value := .agg #[.string (nm k), .int .u8 (pd k), .int .i64 (un k), .int .i64 (mo k), .bool (tx k), .bool (ch k), .bool (mu k), .bool (lo k)]

end Go.Proofs.YtlfmihhnijlpiaaGreatDoor.Rp

import Derived.Test.YtggjppelepfcdaaGreatDoorD
/-
  DERIVED. What the program tells of a VR.
-/
namespace Go.Proofs.YtggjppelepfcdaaGreatDoor
open Go Go.Proofs Go.RowKit

theorem repOf_open (w : World) (v : Int) : ∃ cf ff, FunV cf ∧ FunV ff ∧ Calls Tryz.prog 32 #[.int .i64 v] w fun e w' => e = .returned (.tuple #[.agg #[.string (nm (vn v)), .int .u8 (pd (vn v)), .int .i64 (un (vn v)), .int .i64 (mo (vn v)), .bool (tx (vn v)), .bool (ch (vn v)), .bool (mu (vn v)), .bool (lo (vn v)), cf, ff], .bool (decide (1 ≤ v ∧ v ≤ 28))]) ∧ Below w.heap.size w w' := by
  obtain ⟨cf, ff, h1, h2, h3⟩ := rep_shape v
  have := repOf_any w v
  rw [h3] at this
  exact ⟨cf, ff, h1, h2, this⟩

set_option maxRecDepth 100000 in
theorem text_any (w : World) (v : Int) : Calls Tryz.prog 13 #[.int .i64 v] w fun e w' => e = .returned (.bool (tx (vn v))) ∧ Below w.heap.size w w' := by
  obtain ⟨cf, ff, hcf, hff, c⟩ := repOf_open w v
  generalize nm (vn v) = n at c
  generalize pd (vn v) = p at c
  generalize un (vn v) = u at c
  generalize mo (vn v) = m at c
  generalize tx (vn v) = t at c ⊢
  generalize ch (vn v) = c' at c
  generalize mu (vn v) = q at c
  generalize lo (vn v) = l at c
  generalize decide (1 ≤ v ∧ v ≤ 28) = b at c
  rcases hcf with rfl | ⟨j, rfl⟩ <;> rcases hff with rfl | ⟨j2, rfl⟩
  all_goals go_enter Tryz.func13, Tryz.ntmps13
  all_goals go_wp2_with (first | (go_at_call 32; refine c.mono ?_; rintro e W1 ⟨rfl, hb⟩) | fail)
  all_goals go_ret
  all_goals exact ⟨rfl, hb.alloc hb.size _⟩

set_option maxRecDepth 100000 in
theorem unified_any (w : World) (v : Int) : Calls Tryz.prog 14 #[.int .i64 v] w fun e w' => e = .returned (.bool (ch (vn v))) ∧ Below w.heap.size w w' := by
  obtain ⟨cf, ff, hcf, hff, c⟩ := repOf_open w v
  generalize nm (vn v) = n at c
  generalize pd (vn v) = p at c
  generalize un (vn v) = u at c
  generalize mo (vn v) = m at c
  generalize tx (vn v) = t at c
  generalize ch (vn v) = c' at c ⊢
  generalize mu (vn v) = q at c
  generalize lo (vn v) = l at c
  generalize decide (1 ≤ v ∧ v ≤ 28) = b at c
  rcases hcf with rfl | ⟨j, rfl⟩ <;> rcases hff with rfl | ⟨j2, rfl⟩
  all_goals go_enter Tryz.func14, Tryz.ntmps14
  all_goals go_wp2_with (first | (go_at_call 32; refine c.mono ?_; rintro e W1 ⟨rfl, hb⟩) | fail)
  all_goals go_ret
  all_goals exact ⟨rfl, hb.alloc hb.size _⟩

set_option maxRecDepth 100000 in
theorem vrword_any (w : World) (v : Int) : Calls Tryz.prog 9 #[.int .i64 v] w fun e w' => e = .returned (.string (nm (vn v))) ∧ Below w.heap.size w w' := by
  obtain ⟨cf, ff, hcf, hff, c⟩ := repOf_open w v
  generalize nm (vn v) = n at c ⊢
  generalize pd (vn v) = p at c
  generalize un (vn v) = u at c
  generalize mo (vn v) = m at c
  generalize tx (vn v) = t at c
  generalize ch (vn v) = c' at c
  generalize mu (vn v) = q at c
  generalize lo (vn v) = l at c
  generalize decide (1 ≤ v ∧ v ≤ 28) = b at c
  rcases hcf with rfl | ⟨j, rfl⟩ <;> rcases hff with rfl | ⟨j2, rfl⟩
  all_goals go_enter Tryz.func9, Tryz.ntmps9
  all_goals go_wp2_with (first | (go_at_call 32; refine c.mono ?_; rintro e W1 ⟨rfl, hb⟩) | fail)
  all_goals go_ret
  all_goals exact ⟨rfl, hb.alloc hb.size _⟩

/-- What there is to know of a VR, as a value. -/
def infoV (k : Nat) : Value := .agg #[.string (nm k), .int .u8 (pd k), .int .i64 (un k), .int .i64 (mo k), .bool (tx k), .bool (ch k), .bool (mu k), .bool (lo k)]

end Go.Proofs.YtggjppelepfcdaaGreatDoor

import Derived.Test.YtfjcmniicbppdaaFk
/-
  DERIVED. The document's Ack.
-/
namespace Go.Proofs.Ytfjcmniicbppdaa
open Go Go.Proofs Go.RowKit

set_option maxRecDepth 100000 in
theorem no_any (a c : Int) (w : World) : Calls Try.prog 31 #[.int .i64 c, .int .i64 a] w fun e w' => ∃ v, e = .returned v ∧ RErr w' v (some (a, c)) ∧ Below w.heap.size w w' := by
  obtain ⟨W1, hW1⟩ : ∃ W1, w.alloc (.cells #[.slice none 0 0, .int .i64 0] 51) = W1 := ⟨_, rfl⟩
  have hb1 : Below w.heap.size w W1 := hW1 ▸ (Below.refl _ _).alloc (Nat.le_refl _) _
  have hs1 : w.heap.size < W1.heap.size := by rw [← hW1]; simp
  have a0 : W1.cell? ⟨w.heap.size, 0, none⟩ = some (.slice none 0 0) := by rw [← hW1]; simp
  have a1 : W1.cell? ⟨w.heap.size, 1, none⟩ = some (.int .i64 0) := by rw [← hW1]; simp
  have af : ∀ i, W1.frozen? ⟨w.heap.size, i, none⟩ = false := fun i => by rw [← hW1]; simp
  go_enter Try.func31, Try.ntmps31
  go_wp2_with (go_at_call 41; refine StopF.out ?_)
  clear hW1
  refine StopF.mk ((new0_any c a _).mono ?_)
  rintro e W2 ⟨rfl, hb2, g0, g1, hlt⟩
  have x0 := (hb2.cell (p := ⟨w.heap.size, 0, none⟩) hs1).trans a0
  have x1 := (hb2.cell (p := ⟨w.heap.size, 1, none⟩) hs1).trans a1
  have xf := fun j => (hb2.frozen (p := ⟨w.heap.size, j, none⟩) hs1).trans (af j)
  go_wp2
  refine bodyPost_ret (v := .agg #[.slice (some ⟨W1.heap.size + 1, 0, none⟩) 1 1, .int .i64 c]) (by simp [results, Try.results31, go_sem, x0, x1]) rfl ?_
  refine ⟨_, rfl, ⟨_, _, rfl, ?_, ?_⟩, ((hb1.trans (hb2.mono hb1.size)).setCell (p := ⟨w.heap.size, 0, none⟩) (Nat.le_refl _) _).setCell (p := ⟨w.heap.size, 1, none⟩) (Nat.le_refl _) _⟩
  · exact (cell_set_off (by omega)).trans ((cell_set_off (by omega)).trans g0)
  · exact (cell_set_off (by omega)).trans ((cell_set_off (by omega)).trans g1)

set_option maxRecDepth 100000 in
theorem none_any (w : World) : Calls Try.prog 33 #[] w fun e w' => e = .returned (.agg #[.slice none 0 0, .int .i64 0]) ∧ Below w.heap.size w w' := by
  go_enter Try.func33, Try.ntmps33
  go_wp2
  exact bodyPost_ret (v := .agg #[.slice none 0 0, .int .i64 0]) (by simp [results, Try.results33, go_sem]) rfl ⟨rfl, (Below.refl _ _).alloc (Nat.le_refl _) _⟩

end Go.Proofs.Ytfjcmniicbppdaa

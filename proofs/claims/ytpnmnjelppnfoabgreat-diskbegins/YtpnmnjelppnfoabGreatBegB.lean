import Derived.Test.YtpnmnjelppnfoabGreatProg
import Derived.Test.YtpnmnjelppnfoabGreatBegA
import Derived.WalkKit
import Derived.WalkSpells
import Derived.WalkLawsBesides
import Derived.Deep.QuietTactic
import Derived.BigQuiet
import Derived.BigRegion
namespace Go.Proofs.YtpnmnjelppnfoabGreat
open Go.RowKit

set_option maxHeartbeats 400000 in
theorem new0_any (c at' : Int) (w : World) : Calls Tryz.prog 121 #[.string { data := #[100, 105, 115, 107] }, .int .i64 at', .int .i64 c] w fun e w' => e = .returned (.agg #[.slice (some ⟨w.heap.size + 1, 0, none⟩) 1 1, .int .i64 c]) ∧ Below w.heap.size w w' ∧ w'.cell? ⟨w.heap.size + 1, 0, none⟩ = some (.string { data := #[100, 105, 115, 107] }) ∧ w'.cell? ⟨w.heap.size + 1, 1, none⟩ = some (.int .i64 at') ∧ w.heap.size + 1 < w'.heap.size := by
  go_enter Tryz.func121, Tryz.ntmps121
  go_wp2
  refine bodyPost_ret (v := .agg #[.slice (some ⟨w.heap.size + 1, 0, none⟩) 1 1, .int .i64 c]) (by simp [results, Tryz.results121, go_sem]) rfl ⟨rfl, ((Below.refl _ _).alloc (Nat.le_refl _) _).alloc (by simp) _, by simp, by simp, by simp⟩


set_option maxHeartbeats 400000 in
theorem refNo_any (c at' : Int) (w : World) : Calls Tryz.prog 68 #[.int .i64 c, .int .i64 at'] w fun e w' => ∃ g, e = .returned (.agg #[.slice (some ⟨g, 0, none⟩) 1 1, .int .i64 c]) ∧ Below w.heap.size w w' ∧ w'.cell? ⟨g, 0, none⟩ = some (.string { data := #[100, 105, 115, 107] }) ∧ w'.cell? ⟨g, 1, none⟩ = some (.int .i64 at') ∧ w.heap.size ≤ g ∧ g < w'.heap.size := by
  obtain ⟨W1, hW1⟩ : ∃ W1, w.alloc (.cells #[.slice none 0 0, .int .i64 0] 62) = W1 := ⟨_, rfl⟩
  have hb1 : Below w.heap.size w W1 := hW1 ▸ (Below.refl _ _).alloc (Nat.le_refl _) _
  have hs1 : w.heap.size < W1.heap.size := by rw [← hW1]; simp
  have a0 : W1.cell? ⟨w.heap.size, 0, none⟩ = some (.slice none 0 0) := by rw [← hW1]; simp
  have a1 : W1.cell? ⟨w.heap.size, 1, none⟩ = some (.int .i64 0) := by rw [← hW1]; simp
  have af : ∀ i, W1.frozen? ⟨w.heap.size, i, none⟩ = false := fun i => by rw [← hW1]; simp
  go_enter Tryz.func68, Tryz.ntmps68
  go_wp2_with (go_at_call 121; refine (new0_any _ _ _).mono ?_; rintro e W2 ⟨rfl, hb2, q0, q1, hz⟩; have b0 := (hb2.cell (p := ⟨w.heap.size, 0, none⟩) hs1).trans a0; have b1 := (hb2.cell (p := ⟨w.heap.size, 1, none⟩) hs1).trans a1; have bf := fun i => (hb2.frozen (p := ⟨w.heap.size, i, none⟩) hs1).trans (af i))
  refine bodyPost_ret (v := .agg #[.slice (some ⟨W1.heap.size + 1, 0, none⟩) 1 1, .int .i64 c]) (by simp [results, Tryz.results68, go_sem, b0, b1]) rfl ?_
  exact ⟨W1.heap.size + 1, rfl, (((hb1.trans (hb2.mono hb1.size)).setCell (p := ⟨w.heap.size, 0, none⟩) (Nat.le_refl _) _).setCell (p := ⟨w.heap.size, 1, none⟩) (Nat.le_refl _) _), (cell_set_off (by omega)).trans ((cell_set_off (by omega)).trans q0), (cell_set_off (by omega)).trans ((cell_set_off (by omega)).trans q1), by omega, by simpa using hz⟩

set_option maxRecDepth 100000 in
set_option maxHeartbeats 800000 in
theorem same_none (w : World) : Calls Tryz.prog 71 #[.agg #[.slice none 0 0, .int .i64 0], .agg #[.slice none 0 0, .int .i64 0]] w fun e w' => e = .returned (.bool true) ∧ Below w.heap.size w w' := by
  go_enter Tryz.func71, Tryz.ntmps71
  go_wp2
  refine wp_loop_rounds 1 ?_
  rw [rounds_succ]
  go_wp2
  go_ret
  exact ⟨rfl, ((Below.refl _ _).alloc (Nat.le_refl _) _).alloc (by simp) _⟩

set_option maxRecDepth 100000 in
set_option maxHeartbeats 800000 in
theorem same_one (g h cg ch : Nat) (c at' : Int) (w : World) (g0 : w.cell? ⟨g, 0, none⟩ = some (.string { data := #[100, 105, 115, 107] })) (g1 : w.cell? ⟨g, 1, none⟩ = some (.int .i64 at')) (h0 : w.cell? ⟨h, 0, none⟩ = some (.string { data := #[100, 105, 115, 107] })) (h1 : w.cell? ⟨h, 1, none⟩ = some (.int .i64 at')) (hg : g < w.heap.size) (hh : h < w.heap.size) :
    Calls Tryz.prog 71 #[.agg #[.slice (some ⟨g, 0, none⟩) 1 cg, .int .i64 c], .agg #[.slice (some ⟨h, 0, none⟩) 1 ch, .int .i64 c]] w fun e w' => e = .returned (.bool true) ∧ Below w.heap.size w w' := by
  go_enter Tryz.func71, Tryz.ntmps71
  go_wp2
  refine wp_loop_rounds 2 ?_
  rw [rounds_succ]
  go_wp2
  go_quiet (fail)
  go_wp2
  rw [rounds_succ]
  go_wp2
  go_ret
  exact ⟨rfl, below_drewN (((Below.refl _ _).alloc (Nat.le_refl _) _).alloc (by simp) _) _⟩

end Go.Proofs.YtpnmnjelppnfoabGreat

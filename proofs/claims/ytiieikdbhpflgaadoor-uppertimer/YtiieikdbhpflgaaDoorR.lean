import Derived.Test.YtiieikdbhpflgaaDoorH
import Derived.Test.YtiieikdbhpflgaaDoorF
/-
  DERIVED. What a provider does that New did not give.
-/
namespace Go.Proofs.YtiieikdbhpflgaaDoor
open Go Go.Proofs Go.RowKit

theorem act0 (e : Int) : actR 0 e = 0 := by
  rw [← act_same, actP, if_pos (by omega)]

theorem do_nil (w : World) (Q : Array Value) : Calls Tryd.prog 13 #[.pointer none, .agg Q] w fun e w' => e = .returned (.slice none 0 0) ∧ Below w.heap.size w w' := by
  go_enter Tryd.func13, Tryd.ntmps13
  go_wp2
  go_ret
  exact ⟨rfl, (Below.refl _ _).alloc (Nat.le_refl _) _⟩

theorem tick0 (w : World) (q : Nat) (h : w.cell? ⟨q, 1, none⟩ = some (.int .i64 0)) : Calls Tryd.prog 31 #[.pointer (some ⟨q, 0, none⟩)] w fun e w' => e = .returned (.bool false) ∧ w' = w := by
  have hr := runs_any w q 0 h
  go_enter Tryd.func31, Tryd.ntmps31
  go_wp2_with (go_at_call 35; refine hr.mono ?_; rintro x W ⟨rfl, rfl⟩)
  go_ret
  exact ⟨rfl, rfl⟩

set_option maxRecDepth 100000 in
set_option maxHeartbeats 1000000 in
theorem do_plain (w : World) (q : Nat) (Q : Array Value) (kd : Int) (hQ : Q[0]? = some (.int .i64 kd)) (hT : Tb w) (h1 : w.cell? ⟨q, 1, none⟩ = some (.int .i64 0)) (h2 : w.cell? ⟨q, 2, none⟩ = some (.int .i64 0)) :
    Calls Tryd.prog 13 #[.pointer (some ⟨q, 0, none⟩), .agg Q] w fun e w' => e = .returned (.slice none 0 0) ∧ Below w.heap.size w w' := by
  obtain ⟨W1, hW1⟩ : ∃ W1, w.alloc (.cells Q 50) = W1 := ⟨_, rfl⟩
  have hb1 : Below w.heap.size w W1 := hW1 ▸ (Below.refl _ _).alloc (Nat.le_refl _) _
  have hq : q < w.heap.size := cell_lt h1
  have g1 := (hb1.cell (p := ⟨q, 1, none⟩) hq).trans h1
  have g2 := (hb1.cell (p := ⟨q, 2, none⟩) hq).trans h2
  have k0 : W1.cell? ⟨w.heap.size, 0, none⟩ = some (.int .i64 kd) := by
    rw [← hW1, cell_of_row _ _ _ _ _ _ (alloc_new w _)]; exact hQ
  by_cases hk : kd = 20
  · subst hk
    go_enter Tryd.func13, Tryd.ntmps13
    go_wp2_with (go_at_call 31; refine (tick0 W1 q g1).mono ?_; rintro x W ⟨rfl, rfl⟩)
    go_ret
    exact ⟨rfl, hb1⟩
  · have hk2 : (kd == 20) = false := by simpa using hk
    have h8 : Calls Tryd.prog 8 #[.int .i64 0, .int .i64 kd] W1.drew fun x w' => x = .returned (.int .i64 0) ∧ w' = W1.drew := by
      have := act_both W1.drew 0 kd (hT.on hb1.drew)
      rwa [act0] at this
    go_enter Tryd.func13, Tryd.ntmps13
    go_wp2
    go_region_with (go_at_call 8; refine h8.mono ?_; rintro x W ⟨rfl, rfl⟩)
    all_goals
      go_wp2
      go_ret
      exact ⟨rfl, hb1.drew⟩
end Go.Proofs.YtiieikdbhpflgaaDoor

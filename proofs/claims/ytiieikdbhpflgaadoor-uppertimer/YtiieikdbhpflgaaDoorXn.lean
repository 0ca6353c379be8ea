import Derived.Test.YtiieikdbhpflgaaDoorXm
/-
  DERIVED. The timer: turn, runs, tick.
-/
namespace Go.Proofs.YtiieikdbhpflgaaDoor
open Go Go.Proofs Go.RowKit

set_option maxRecDepth 100000 in
theorem runs9_any (w : World) (p : Nat) (l : Int) (h1 : w.cell? ⟨p, 1, none⟩ = some (.int .i64 l)) : Calls Tryd.prog 35 #[.pointer (some ⟨p, 0, none⟩)] w fun e w' => e = .returned (.bool (decide (0 < l))) ∧ w' = w := by
  by_cases h : 0 < l
  · go_enter Tryd.func35, Tryd.ntmps35
    go_wp2
    go_ret
    exact ⟨by simp [h], rfl⟩
  · go_enter Tryd.func35, Tryd.ntmps35
    go_wp2
    go_ret
    exact ⟨by simp [h], rfl⟩
/-- The timer behind an action. -/
def tuW (w : World) (p : Nat) (a t : Int) : World := if t = 1 then w.setCell ⟨p, 1, none⟩ (.int .i64 a) else if t = 2 then w.setCell ⟨p, 1, none⟩ (.int .i64 0) else w
set_option maxRecDepth 100000 in
theorem turn_any (w : World) (p : Nat) (a l t : Int) (h0 : w.cell? ⟨p, 0, none⟩ = some (.int .i64 a)) (h1 : w.cell? ⟨p, 1, none⟩ = some (.int .i64 l)) (hf : w.frozen? ⟨p, 1, none⟩ = false) : Calls Tryd.prog 55 #[.pointer (some ⟨p, 0, none⟩), .int .i64 t] w fun e w' => e = .returned (.tuple #[]) ∧ w' = tuW w p a t := by
  unfold tuW
  by_cases t1 : t = 1
  · rw [if_pos t1]
    subst t1
    go_enter Tryd.func55, Tryd.ntmps55
    go_wp2
    first | go_end0 | refine bodyPost_end (results_none rfl _ _ _) rfl ?_ | refine bodyPost_ret (results_none rfl _ _ _) rfl ?_ | (simp only [Exit.inBlock, Exit.then]; refine bodyPost_end (results_none rfl _ _ _) rfl ?_)
    exact ⟨rfl, rfl⟩
  · rw [if_neg t1]
    by_cases t2 : t = 2
    · rw [if_pos t2]
      subst t2
      go_enter Tryd.func55, Tryd.ntmps55
      go_wp2
      first | go_end0 | refine bodyPost_end (results_none rfl _ _ _) rfl ?_ | refine bodyPost_ret (results_none rfl _ _ _) rfl ?_ | (simp only [Exit.inBlock, Exit.then]; refine bodyPost_end (results_none rfl _ _ _) rfl ?_)
      exact ⟨rfl, rfl⟩
    · rw [if_neg t2]
      go_enter Tryd.func55, Tryd.ntmps55
      go_wp2
      first | go_end0 | refine bodyPost_end (results_none rfl _ _ _) rfl ?_ | refine bodyPost_ret (results_none rfl _ _ _) rfl ?_ | (simp only [Exit.inBlock, Exit.then]; refine bodyPost_end (results_none rfl _ _ _) rfl ?_)
      exact ⟨rfl, rfl⟩
set_option maxRecDepth 100000 in
theorem tick_off (w : World) (p : Nat) (l : Int) (h1 : w.cell? ⟨p, 1, none⟩ = some (.int .i64 l)) (h : ¬ 0 < l) : Calls Tryd.prog 31 #[.pointer (some ⟨p, 0, none⟩)] w fun e w' => e = .returned (.bool false) ∧ w' = w := by
  have hr := runs9_any w p l h1
  rw [show decide (0 < l) = false by simp [h]] at hr
  go_enter Tryd.func31, Tryd.ntmps31
  go_wp2_with (go_at_call 35; refine hr.mono ?_; rintro e w' ⟨rfl, rfl⟩)
  go_ret
  exact ⟨rfl, rfl⟩
set_option maxRecDepth 100000 in
theorem tick_on (w : World) (p : Nat) (l : Int) (h1 : w.cell? ⟨p, 1, none⟩ = some (.int .i64 l)) (hf : w.frozen? ⟨p, 1, none⟩ = false) (h : 0 < l) (h2 : l ≤ 9223372036854775807) : Calls Tryd.prog 31 #[.pointer (some ⟨p, 0, none⟩)] w fun e w' => e = .returned (.bool (decide (l = 1))) ∧ w' = w.setCell ⟨p, 1, none⟩ (.int .i64 (l - 1)) := by
  have hr := runs9_any w p l h1
  rw [show decide (0 < l) = true by simp [h]] at hr
  have hc : (w.setCell ⟨p, 1, none⟩ (.int .i64 (l - 1))).cell? ⟨p, 1, none⟩ = some (.int .i64 (l - 1)) := cell_set_eq h1
  have hr2 := runs9_any (w.setCell ⟨p, 1, none⟩ (.int .i64 (l - 1))) p (l - 1) hc
  have hw : IntKind.wrap .i64 (l - 1) = l - 1 := by simp [IntKind.wrap_i64]; omega
  have hd : (!decide (1 < l)) = decide (l = 1) := by
    by_cases h3 : l = 1
    · subst h3; rfl
    · have : 1 < l := by omega
      simp [h3, this]
  have HD : Hid ((!decide (1 < l)) = decide (l = 1)) := hd
  clear hd
  go_enter Tryd.func31, Tryd.ntmps31
  go_wp2_with (first | (go_at_call 35; refine hr.mono ?_; rintro e w' ⟨rfl, rfl⟩) | (go_at_call 35; refine hr2.mono ?_; rintro e w' ⟨rfl, rfl⟩))
  go_ret
  exact ⟨by rw [← HD.out]; rfl, rfl⟩
end Go.Proofs.YtiieikdbhpflgaaDoor

import Derived.Test.YtghaeolehjgmnaaGreatDoorPl
/-
  DERIVED. The document's small functions of Decode: Control, Ends, Stands below A0.
-/
namespace Go.Proofs.YtghaeolehjgmnaaGreatDoor
open Go Go.Proofs Go.RowKit

def ctlS (k : Int) (b : Nat) : Bool := decide (k = 0) && (b == 9 || b == 10 || b == 12 || b == 13)
def endS (k : Int) (b : Nat) : Bool := if k = 0 then ctlS 0 b else if k = 2 then (b == 92 || b == 94 || b == 61) else b == 92

set_option maxRecDepth 100000 in
theorem ctl_any (w : World) (k : Int) (b : Nat) : Calls Tryz.prog 19 #[.int .i64 k, .int .u8 (b : Int)] w fun e w' => e = .returned (.bool (ctlS k b)) ∧ w = w' := by
  by_cases hk : k = 0
  · subst hk
    rcases (show b = 9 ∨ b = 10 ∨ b = 12 ∨ b = 13 ∨ (¬ b = 9 ∧ ¬ b = 10 ∧ ¬ b = 12 ∧ ¬ b = 13) by omega) with rfl | rfl | rfl | rfl | ⟨h1, h2, h3, h4⟩
    case inr.inr.inr.inr =>
      have e : ctlS 0 b = false := by simp [ctlS, h1, h2, h3, h4]
      rw [e]
      have d1 : ¬ (b : Int) = 9 := by omega
      have d2 : ¬ (b : Int) = 10 := by omega
      have d3 : ¬ (b : Int) = 12 := by omega
      have d4 : ¬ (b : Int) = 13 := by omega
      clear e h1 h2 h3 h4
      go_enter Tryz.func19, Tryz.ntmps19
      go_wp2
      go_ret
      exact ⟨by simp_all, rfl⟩
    all_goals (
      go_enter Tryz.func19, Tryz.ntmps19
      go_wp2
      go_ret
      exact ⟨rfl, rfl⟩)
  · have e : ctlS k b = false := by simp [ctlS, hk]
    rw [e]
    have d : decide (k = 0) = false := by simp [hk]
    clear e
    go_enter Tryz.func19, Tryz.ntmps19
    go_wp2
    go_ret
    exact ⟨by simp_all, rfl⟩

set_option maxRecDepth 100000 in
theorem rends_any (w : World) (k : Int) (b : Nat) : Calls Tryz.prog 24 #[.int .i64 k, .int .u8 (b : Int)] w fun e w' => e = .returned (.bool (endS k b)) ∧ w = w' := by
  by_cases hk : k = 0
  · subst hk
    rw [show endS 0 b = ctlS 0 b from by simp [endS]]
    have hc := ctl_any w 0 b
    go_enter Tryz.func24, Tryz.ntmps24
    go_wp2_with (first | (go_at_call 19; refine hc.mono ?_; rintro e w' ⟨rfl, rfl⟩) | fail)
    go_ret
    exact ⟨rfl, rfl⟩
  · have d : decide (k = 0) = false := by simp [hk]
    by_cases hk2 : k = 2
    · subst hk2
      clear hk
      rcases (show b = 92 ∨ b = 94 ∨ b = 61 ∨ (¬ b = 92 ∧ ¬ b = 94 ∧ ¬ b = 61) by omega) with rfl | rfl | rfl | ⟨h1, h2, h3⟩
      case inr.inr.inr =>
        have e : endS 2 b = false := by simp [endS, h1, h2, h3]
        rw [e]
        have d1 : ¬ (b : Int) = 92 := by omega
        have d2 : ¬ (b : Int) = 94 := by omega
        have d3 : ¬ (b : Int) = 61 := by omega
        clear e h1 h2 h3
        go_enter Tryz.func24, Tryz.ntmps24
        go_wp2
        go_ret
        exact ⟨by simp_all, rfl⟩
      all_goals (
        go_enter Tryz.func24, Tryz.ntmps24
        go_wp2
        go_ret
        exact ⟨rfl, rfl⟩)
    · have d2 : decide (k = 2) = false := by simp [hk2]
      have e : endS k b = (b == 92) := by simp [endS, hk, hk2]
      rw [e]
      clear e
      by_cases h1 : b = 92
      · subst h1
        go_enter Tryz.func24, Tryz.ntmps24
        go_wp2
        go_ret
        exact ⟨rfl, rfl⟩
      · have d1 : ¬ (b : Int) = 92 := by omega
        rw [show (b == 92) = false from by simp [h1]]
        go_enter Tryz.func24, Tryz.ntmps24
        go_wp2
        go_ret
        exact ⟨by simp_all, rfl⟩

set_option maxRecDepth 100000 in
theorem stands_low (w : World) (rep : Int) (b : Nat) (hb : b < 160) : Calls Tryz.prog 22 #[.int .i64 rep, .int .u8 (b : Int)] w fun e w' => e = .returned (.int .i32 0) ∧ w = w' := by
  have h1 : decide ((b : Int) < 160) = true := by simp; omega
  go_enter Tryz.func22, Tryz.ntmps22
  go_wp2
  go_ret
  exact ⟨rfl, rfl⟩

end Go.Proofs.YtghaeolehjgmnaaGreatDoor

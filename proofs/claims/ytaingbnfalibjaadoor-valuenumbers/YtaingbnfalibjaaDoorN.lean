import Derived.Test.YtaingbnfalibjaaDoorE
import Derived.Test.YtaingbnfalibjaaDoorNl
/-
  DERIVED. Signs, orders, one form.
-/
namespace Go.Proofs.YtaingbnfalibjaaDoor
open Go Go.Proofs Go.RowKit NumLine

/-- A decimal number in the program's hands. -/
def nv (a : Nm) : Value := .agg #[.bool a.neg, .int .u64 (a.d : Int), .int .i64 a.e]

theorem nan43_any (w : World) (x : Int) : Calls Tryd.prog 43 #[.int .i64 x] w fun e w' => e = .returned (.bool false) ∧ w = w' := by
  have hx : (x != x) = false := by simp
  go_enter Tryd.func43, Tryd.ntmps43
  go_wp2
  go_ret
  exact ⟨rfl, rfl⟩
theorem nan55_any (w : World) (x : Int) : Calls Tryd.prog 55 #[.int .u64 x] w fun e w' => e = .returned (.bool false) ∧ w = w' := by
  have hx : (x != x) = false := by simp
  go_enter Tryd.func55, Tryd.ntmps55
  go_wp2
  go_ret
  exact ⟨rfl, rfl⟩

set_option maxRecDepth 100000 in
theorem cmp24_any (w : World) (x y : Int) : Calls Tryd.prog 24 #[.int .i64 x, .int .i64 y] w fun e w' => e = .returned (.int .i64 (cmpI x y)) ∧ w = w' := by
  have c1 := fun W => nan43_any W x
  have c2 := fun W => nan43_any W y
  unfold cmpI
  by_cases h1 : x < y
  · rw [if_pos h1]
    go_enter Tryd.func24, Tryd.ntmps24
    go_wp2_with (go_at_call 43; first | (refine (c1 _).mono ?_; rintro e w' ⟨rfl, rfl⟩) | (refine (c2 _).mono ?_; rintro e w' ⟨rfl, rfl⟩))
    go_ret
    exact ⟨rfl, rfl⟩
  · rw [if_neg h1]
    by_cases h2 : y < x
    · rw [if_pos h2]
      go_enter Tryd.func24, Tryd.ntmps24
      go_wp2_with (go_at_call 43; first | (refine (c1 _).mono ?_; rintro e w' ⟨rfl, rfl⟩) | (refine (c2 _).mono ?_; rintro e w' ⟨rfl, rfl⟩))
      go_ret
      exact ⟨rfl, rfl⟩
    · rw [if_neg h2]
      go_enter Tryd.func24, Tryd.ntmps24
      go_wp2_with (go_at_call 43; first | (refine (c1 _).mono ?_; rintro e w' ⟨rfl, rfl⟩) | (refine (c2 _).mono ?_; rintro e w' ⟨rfl, rfl⟩))
      go_ret
      exact ⟨rfl, rfl⟩

set_option maxRecDepth 100000 in
theorem cmp45_any (w : World) (x y : Nat) : Calls Tryd.prog 45 #[.int .u64 (x : Int), .int .u64 (y : Int)] w fun e w' => e = .returned (.int .i64 (cmpI (x : Int) (y : Int))) ∧ w = w' := by
  have c1 := fun W => nan55_any W (x : Int)
  have c2 := fun W => nan55_any W (y : Int)
  unfold cmpI
  by_cases h1 : (x : Int) < (y : Int)
  · rw [if_pos h1]
    go_enter Tryd.func45, Tryd.ntmps45
    go_wp2_with (go_at_call 55; first | (refine (c1 _).mono ?_; rintro e w' ⟨rfl, rfl⟩) | (refine (c2 _).mono ?_; rintro e w' ⟨rfl, rfl⟩))
    go_ret
    exact ⟨rfl, rfl⟩
  · rw [if_neg h1]
    by_cases h2 : (y : Int) < (x : Int)
    · rw [if_pos h2]
      go_enter Tryd.func45, Tryd.ntmps45
      go_wp2_with (go_at_call 55; first | (refine (c1 _).mono ?_; rintro e w' ⟨rfl, rfl⟩) | (refine (c2 _).mono ?_; rintro e w' ⟨rfl, rfl⟩))
      go_ret
      exact ⟨rfl, rfl⟩
    · rw [if_neg h2]
      go_enter Tryd.func45, Tryd.ntmps45
      go_wp2_with (go_at_call 55; first | (refine (c1 _).mono ?_; rintro e w' ⟨rfl, rfl⟩) | (refine (c2 _).mono ?_; rintro e w' ⟨rfl, rfl⟩))
      go_ret
      exact ⟨rfl, rfl⟩

set_option maxRecDepth 100000 in
theorem sign_any (w : World) (a : Nm) : Calls Tryd.prog 25 #[.agg #[.bool a.neg, .int .u64 (a.d : Int), .int .i64 a.e]] w fun e w' => e = .returned (.int .i64 (sgn a)) ∧ w' = w.alloc (.cells #[.bool a.neg, .int .u64 (a.d : Int), .int .i64 a.e] 24) := by
  obtain ⟨n, d, x⟩ := a
  unfold sgn
  dsimp only
  by_cases h : d = 0
  · subst h
    rw [if_pos rfl]
    go_enter Tryd.func25, Tryd.ntmps25
    go_wp2
    go_ret
    exact ⟨rfl, rfl⟩
  · rw [if_neg h]
    have hI : ((d : Int) == 0) = false := by simp; exact h
    cases n with
    | true =>
      go_enter Tryd.func25, Tryd.ntmps25
      go_wp2
      go_ret
      exact ⟨rfl, rfl⟩
    | false =>
      go_enter Tryd.func25, Tryd.ntmps25
      go_wp2
      go_ret
      exact ⟨rfl, rfl⟩
end Go.Proofs.YtaingbnfalibjaaDoor

import Derived.Test.YtehgeninocbpeaaDoorQTg
/-
  DERIVED. The document's calendar: years, months, days that are none.
-/
namespace Go.Proofs.YtehgeninocbpeaaDoor.Tm
open Go Go.Proofs Go.RowKit

theorem md_law (y m : Nat) (h1 : 1 ≤ m) (h2 : m ≤ 12) : md y m = if m = 4 ∨ m = 6 ∨ m = 9 ∨ m = 11 then 30 else if m = 2 then (if Lp y then 29 else 28) else 31 := by
  unfold md
  rw [if_neg (by omega)]
  rcases (by omega : m = 1 ∨ m = 2 ∨ m = 3 ∨ m = 4 ∨ m = 5 ∨ m = 6 ∨ m = 7 ∨ m = 8 ∨ m = 9 ∨ m = 10 ∨ m = 11 ∨ m = 12) with rfl | rfl | rfl | rfl | rfl | rfl | rfl | rfl | rfl | rfl | rfl | rfl
  all_goals simp [mL]



set_option maxRecDepth 100000 in
theorem leap66_any (w : World) (y : Nat) : Calls Tryd.prog 58 #[.int .i64 (y : Int)] w fun e w' => e = .returned (.bool (decide (Lp y))) ∧ w = w' := by
  by_cases h4 : y % 4 = 0
  · have a4 : ((y : Int) % 4 == 0) = true := by simp; omega
    by_cases h1 : y % 100 = 0
    · have e : decide (Lp y) = decide (y % 400 = 0) := by unfold Lp; simp [h4, h1]
      rw [e]
      have a1 : ((y : Int) % 100 == 0) = true := by simp; omega
      have a1' : (y : Int) % 100 = 0 := by omega
      have a0 : decide (y % 400 = 0) = ((y : Int) % 400 == 0) := by rw [Bool.eq_iff_iff, decide_eq_true_eq, beq_iff_eq]; omega
      rw [a0]
      clear a0 e
      go_enter Tryd.func58, Tryd.ntmps58
      go_wp2
      go_ret
      exact ⟨rfl, rfl⟩
    · have e : decide (Lp y) = true := by unfold Lp; simp [h4, h1]
      rw [e]
      have a1 : ((y : Int) % 100 == 0) = false := by simp; omega
      have a1' : ¬ ((y : Int) % 100 = 0) := by omega
      clear e
      go_enter Tryd.func58, Tryd.ntmps58
      go_wp2
      go_ret
      exact ⟨rfl, rfl⟩
  · have e : decide (Lp y) = false := by unfold Lp; simp [h4]
    rw [e]
    have a4 : ((y : Int) % 4 == 0) = false := by simp; omega
    clear e
    go_enter Tryd.func58, Tryd.ntmps58
    go_wp2
    go_ret
    exact ⟨rfl, rfl⟩
/-- A year's days. -/
def yl (y : Nat) : Nat := if Lp y then 366 else 365

set_option maxRecDepth 100000 in
theorem year38_any (w : World) (y : Nat) : Calls Tryd.prog 34 #[.int .i64 (y : Int)] w fun e w' => e = .returned (.int .i64 (yl y : Nat)) ∧ w = w' := by
  have c := leap66_any w y
  unfold yl
  by_cases h : Lp y
  · rw [if_pos h]
    have e : decide (Lp y) = true := by simpa using h
    rw [e] at c
    clear e h
    go_enter Tryd.func34, Tryd.ntmps34
    go_wp2_with (go_at_call 58; refine c.mono ?_; rintro e w' ⟨rfl, rfl⟩)
    go_ret
    exact ⟨rfl, rfl⟩
  · rw [if_neg h]
    have e : decide (Lp y) = false := by simpa using h
    rw [e] at c
    clear e h
    go_enter Tryd.func34, Tryd.ntmps34
    go_wp2_with (go_at_call 58; refine c.mono ?_; rintro e w' ⟨rfl, rfl⟩)
    go_ret
    exact ⟨rfl, rfl⟩

set_option maxRecDepth 100000 in
theorem month39_any (w : World) (y m : Nat) (h1 : 1 ≤ m) (h2 : m ≤ 12) : Calls Tryd.prog 35 #[.int .i64 (y : Int), .int .i64 (m : Int)] w fun e w' => e = .returned (.int .i64 (md y m : Nat)) ∧ w = w' := by
  have c := leap66_any w y
  rw [md_law y m h1 h2]
  have hm : m = 1 ∨ m = 2 ∨ m = 3 ∨ m = 4 ∨ m = 5 ∨ m = 6 ∨ m = 7 ∨ m = 8 ∨ m = 9 ∨ m = 10 ∨ m = 11 ∨ m = 12 := by omega
  clear h1 h2
  by_cases hL : Lp y
  · have e : decide (Lp y) = true := by simpa using hL
    rw [e] at c
    simp only [if_pos hL]
    clear e hL
    rcases hm with rfl | rfl | rfl | rfl | rfl | rfl | rfl | rfl | rfl | rfl | rfl | rfl
    all_goals
      go_enter Tryd.func35, Tryd.ntmps35
      go_wp2_with (go_at_call 58; refine c.mono ?_; rintro e w' ⟨rfl, rfl⟩)
      go_ret
      exact ⟨rfl, rfl⟩
  · have e : decide (Lp y) = false := by simpa using hL
    rw [e] at c
    simp only [if_neg hL]
    clear e hL
    rcases hm with rfl | rfl | rfl | rfl | rfl | rfl | rfl | rfl | rfl | rfl | rfl | rfl
    all_goals
      go_enter Tryd.func35, Tryd.ntmps35
      go_wp2_with (go_at_call 58; refine c.mono ?_; rintro e w' ⟨rfl, rfl⟩)
      go_ret
      exact ⟨rfl, rfl⟩

set_option maxRecDepth 100000 in
set_option maxHeartbeats 1000000 in
theorem dayNo_any (w : World) (y m d : Int) : Calls Tryd.prog 39 #[dv y m d] w fun e w' => e = .returned (.int .i64 (uf y m d)) ∧ Below w.heap.size w w' := by
  obtain ⟨W, hW⟩ : ∃ W, w.alloc (.cells #[.int .i64 y, .int .i64 m, .int .i64 d] 38) = W := ⟨_, rfl⟩
  have HB : Hid (Below w.heap.size w W) := hW ▸ (Below.refl _ _).alloc (Nat.le_refl _) _
  have q0 : W.cell? ⟨w.heap.size, 0, none⟩ = some (.int .i64 y) := by rw [← hW]; simp
  have q1 : W.cell? ⟨w.heap.size, 1, none⟩ = some (.int .i64 m) := by rw [← hW]; simp
  have q2 : W.cell? ⟨w.heap.size, 2, none⟩ = some (.int .i64 d) := by rw [← hW]; simp
  unfold uf dv
  by_cases h1 : y < 1
  · rw [if_pos (.inl h1)]
    go_enter Tryd.func39, Tryd.ntmps39
    go_wp2
    go_ret
    exact ⟨rfl, HB.out⟩
  · by_cases h2 : 9999 < y
    · rw [if_pos (.inr h2)]
      go_enter Tryd.func39, Tryd.ntmps39
      go_wp2
      go_ret
      exact ⟨rfl, HB.out⟩
    · rw [if_neg (fun h => by omega)]
      by_cases h3 : m < 1
      · rw [if_pos (.inl h3)]
        go_enter Tryd.func39, Tryd.ntmps39
        go_wp2
        go_ret
        exact ⟨rfl, HB.out⟩
      · by_cases h4 : 12 < m
        · rw [if_pos (.inr h4)]
          go_enter Tryd.func39, Tryd.ntmps39
          go_wp2
          go_ret
          exact ⟨rfl, HB.out⟩
        · rw [if_neg (fun h => by omega)]
          obtain ⟨yn, rfl⟩ : ∃ yn : Nat, y = yn := ⟨y.toNat, by omega⟩
          obtain ⟨mn, rfl⟩ : ∃ mn : Nat, m = mn := ⟨m.toNat, by omega⟩
          have c := fun W' => month39_any W' yn mn (by omega) (by omega)
          rw [Int.toNat_natCast, Int.toNat_natCast]
          generalize md yn mn = L at *
          have c' := fun n => c (W.drewN n)
          have h1' : decide ((yn : Int) < 1) = false := by simp; omega
          have h2' : decide ((9999 : Int) < (yn : Int)) = false := by simp; omega
          have h3' : decide ((mn : Int) < 1) = false := by simp; omega
          have h4' : decide ((12 : Int) < (mn : Int)) = false := by simp; omega
          by_cases h5 : d < 1
          · rw [if_pos (.inl h5)]
            have h5' : decide (d < 1) = true := by simpa using h5
            clear c c'
            go_enter Tryd.func39, Tryd.ntmps39
            go_wp2
            go_quiet (fail)
            go_wp2
            go_ret
            exact ⟨rfl, below_drewN HB.out _⟩
          · have h5' : decide (d < 1) = false := by simpa using h5
            by_cases h6 : (L : Int) < d
            · rw [if_pos (.inr h6)]
              have h6' : decide ((L : Int) < d) = true := by simpa using h6
              clear h5 h6
              go_enter Tryd.func39, Tryd.ntmps39
              go_wp2
              go_quiet (first | (go_at_call 35; exact (c' _).mono fun _ _ h => ⟨h.1, _, h.2.symm⟩) | fail)
              go_wp2
              go_ret
              exact ⟨rfl, below_drewN HB.out _⟩
            · rw [if_neg (fun h => by omega)]
              have h6' : decide ((L : Int) < d) = false := by simpa using h6
              clear h5 h6
              go_enter Tryd.func39, Tryd.ntmps39
              go_wp2
              go_quiet (first | (go_at_call 35; exact (c' _).mono fun _ _ h => ⟨h.1, _, h.2.symm⟩) | fail)
              go_wp2
              go_ret
              exact ⟨rfl, below_drewN HB.out _⟩

end Go.Proofs.YtehgeninocbpeaaDoor.Tm

import Derived.Test.YtggdlagopgpnhaaDoorM
/-
  DERIVED. The law of the calendar, walked.
-/
namespace Go.Proofs.YtggdlagopgpnhaaDoor
open Go Go.Proofs Go.RowKit

theorem dateOf_no (w : World) (n : Int) (h : n < 0 ∨ 3652058 < n) : Calls Tryd.prog 6 #[.int .i64 n] w (PostR w (dv 0 0 0) (some (0, 101))) := by
  obtain ⟨r, hr⟩ : ∃ r, w.heap.size = r := ⟨_, rfl⟩
  obtain ⟨W0, hW0⟩ : ∃ W0, w.alloc (.cells #[.int .i64 0, .int .i64 0, .int .i64 0] 23) = W0 := ⟨_, rfl⟩
  have hb0 : Below r w W0 := by rw [← hW0, ← hr]; exact (Below.refl _ _).alloc (Nat.le_refl _) _
  have hlt : r < W0.heap.size := by rw [← hW0, ← hr]; simp
  have a0 : W0.cell? ⟨r, 0, none⟩ = some (.int .i64 0) := by rw [← hW0, ← hr]; simp
  have a1 : W0.cell? ⟨r, 1, none⟩ = some (.int .i64 0) := by rw [← hW0, ← hr]; simp
  have a2 : W0.cell? ⟨r, 2, none⟩ = some (.int .i64 0) := by rw [← hW0, ← hr]; simp
  have af : ∀ i, W0.frozen? ⟨r, i, none⟩ = false := fun i => by rw [← hW0, ← hr]; simp
  have c24 := refusal_any 0 101 W0
  have HB0 : Hid (Below r w W0) := hb0
  clear hb0
  have hI : decide (n < 0) = true ∨ (decide (n < 0) = false ∧ decide (3652058 < n) = true) := by
    by_cases h0 : n < 0
    · exact .inl (by simpa using h0)
    · exact .inr ⟨by simpa using h0, by simpa using h.resolve_left h0⟩
  clear h
  rcases hI with hI | ⟨hI, hI2⟩
  all_goals
    go_enter Tryd.func6, Tryd.ntmps6
    go_wp2_with (go_at_call 24; refine Stop.mk ?_)
    refine Stop.out (c24.mono ?_)
    rintro e W1 ⟨v, rfl, hv, hb1⟩
    have b0 := (hb1.cell (p := ⟨r, 0, none⟩) hlt).trans a0
    have b1 := (hb1.cell (p := ⟨r, 1, none⟩) hlt).trans a1
    have b2 := (hb1.cell (p := ⟨r, 2, none⟩) hlt).trans a2
    have bf := fun i => (hb1.frozen (p := ⟨r, i, none⟩) hlt).trans (af i)
    have HB1 : Hid (Below r w W1) := HB0.out.trans (hb1.mono (by omega))
    have HD : Hid (Dbt W1 r v (some (0, 101))) := ⟨hv, fun p' hp' => by
      rintro rfl
      obtain ⟨q', hq', hF⟩ := hv
      rw [hp'] at hq'
      obtain rfl : p' = q' := by simpa using hq'
      have := hF.2.2
      rw [b2] at this
      cases this⟩
    clear hv hb1 c24 a0 a1 a2 af
    go_wp2
    refine bodyPost_ret (v := .tuple #[dv 0 0 0, v]) (by simp [results, Tryd.results6, go_sem, dv, b0, b1, b2]) rfl ⟨v, rfl, ?_, ?_⟩
    · exact (HD.out.grown (grown_set (grown_set (grown_set (grown_refl _ _) 0 _) 1 _) 2 _)).1
    · rw [hr]
      exact ((HB1.out.setCell (p := ⟨r, 0, none⟩) (Nat.le_refl _) _).setCell (p := ⟨r, 1, none⟩) (Nat.le_refl _) _).setCell (p := ⟨r, 2, none⟩) (Nat.le_refl _) _

/-- How the law says a month's length. -/
theorem md_law (y m : Nat) (h1 : 1 ≤ m) (h2 : m ≤ 12) : md y m = if m = 4 ∨ m = 6 ∨ m = 9 ∨ m = 11 then 30 else if m = 2 then (if Lp y then 29 else 28) else 31 := by
  unfold md
  rw [if_neg (by omega)]
  rcases (by omega : m = 1 ∨ m = 2 ∨ m = 3 ∨ m = 4 ∨ m = 5 ∨ m = 6 ∨ m = 7 ∨ m = 8 ∨ m = 9 ∨ m = 10 ∨ m = 11 ∨ m = 12) with rfl | rfl | rfl | rfl | rfl | rfl | rfl | rfl | rfl | rfl | rfl | rfl
  all_goals simp [mL]

def PostN (w : World) (v : Value) (e : Ending) (w' : World) : Prop := e = .returned v ∧ Below w.heap.size w w'

set_option maxRecDepth 100000 in
set_option maxHeartbeats 1000000 in
theorem next_1 (w : World) (y d : Nat) (hd1 : d ≤ 31) : Calls Tryd.prog 8 #[dv y 1 d] w (PostN w (if d + 1 ≤ 31 then dv y 1 ((d : Int) + 1) else dv y 2 1)) := by
  by_cases hd : d + 1 ≤ 31
  · rw [if_pos hd]
    have hI : ¬ ((31 : Int) < (d : Int) + 1) := by omega
    have hdI : (d : Int) + 1 ≤ 40 := by omega
    unfold dv
    go_enter Tryd.func8, Tryd.ntmps8
    go_wp2
    exact bodyPost_ret (v := .agg #[.int .i64 (y : Int), .int .i64 1, .int .i64 ((d : Int) + 1)]) (by simp [results, Tryd.results8, go_sem]) rfl ⟨rfl, ((Below.refl _ _).alloc (Nat.le_refl _) _).alloc (by simp) _⟩
  · rw [if_neg hd]
    obtain rfl : d = 31 := by omega
    unfold dv
    go_enter Tryd.func8, Tryd.ntmps8
    go_wp2
    exact bodyPost_ret (v := .agg #[.int .i64 (y : Int), .int .i64 2, .int .i64 1]) (by simp [results, Tryd.results8, go_sem]) rfl ⟨rfl, ((Below.refl _ _).alloc (Nat.le_refl _) _).alloc (by simp) _⟩

set_option maxRecDepth 100000 in
set_option maxHeartbeats 1000000 in
theorem next_3 (w : World) (y d : Nat) (hd1 : d ≤ 31) : Calls Tryd.prog 8 #[dv y 3 d] w (PostN w (if d + 1 ≤ 31 then dv y 3 ((d : Int) + 1) else dv y 4 1)) := by
  by_cases hd : d + 1 ≤ 31
  · rw [if_pos hd]
    have hI : ¬ ((31 : Int) < (d : Int) + 1) := by omega
    have hdI : (d : Int) + 1 ≤ 40 := by omega
    unfold dv
    go_enter Tryd.func8, Tryd.ntmps8
    go_wp2
    exact bodyPost_ret (v := .agg #[.int .i64 (y : Int), .int .i64 3, .int .i64 ((d : Int) + 1)]) (by simp [results, Tryd.results8, go_sem]) rfl ⟨rfl, ((Below.refl _ _).alloc (Nat.le_refl _) _).alloc (by simp) _⟩
  · rw [if_neg hd]
    obtain rfl : d = 31 := by omega
    unfold dv
    go_enter Tryd.func8, Tryd.ntmps8
    go_wp2
    exact bodyPost_ret (v := .agg #[.int .i64 (y : Int), .int .i64 4, .int .i64 1]) (by simp [results, Tryd.results8, go_sem]) rfl ⟨rfl, ((Below.refl _ _).alloc (Nat.le_refl _) _).alloc (by simp) _⟩

set_option maxRecDepth 100000 in
set_option maxHeartbeats 1000000 in
theorem next_4 (w : World) (y d : Nat) (hd1 : d ≤ 30) : Calls Tryd.prog 8 #[dv y 4 d] w (PostN w (if d + 1 ≤ 30 then dv y 4 ((d : Int) + 1) else dv y 5 1)) := by
  by_cases hd : d + 1 ≤ 30
  · rw [if_pos hd]
    have hI : ¬ ((30 : Int) < (d : Int) + 1) := by omega
    have hdI : (d : Int) + 1 ≤ 40 := by omega
    unfold dv
    go_enter Tryd.func8, Tryd.ntmps8
    go_wp2
    exact bodyPost_ret (v := .agg #[.int .i64 (y : Int), .int .i64 4, .int .i64 ((d : Int) + 1)]) (by simp [results, Tryd.results8, go_sem]) rfl ⟨rfl, ((Below.refl _ _).alloc (Nat.le_refl _) _).alloc (by simp) _⟩
  · rw [if_neg hd]
    obtain rfl : d = 30 := by omega
    unfold dv
    go_enter Tryd.func8, Tryd.ntmps8
    go_wp2
    exact bodyPost_ret (v := .agg #[.int .i64 (y : Int), .int .i64 5, .int .i64 1]) (by simp [results, Tryd.results8, go_sem]) rfl ⟨rfl, ((Below.refl _ _).alloc (Nat.le_refl _) _).alloc (by simp) _⟩

set_option maxRecDepth 100000 in
set_option maxHeartbeats 1000000 in
theorem next_5 (w : World) (y d : Nat) (hd1 : d ≤ 31) : Calls Tryd.prog 8 #[dv y 5 d] w (PostN w (if d + 1 ≤ 31 then dv y 5 ((d : Int) + 1) else dv y 6 1)) := by
  by_cases hd : d + 1 ≤ 31
  · rw [if_pos hd]
    have hI : ¬ ((31 : Int) < (d : Int) + 1) := by omega
    have hdI : (d : Int) + 1 ≤ 40 := by omega
    unfold dv
    go_enter Tryd.func8, Tryd.ntmps8
    go_wp2
    exact bodyPost_ret (v := .agg #[.int .i64 (y : Int), .int .i64 5, .int .i64 ((d : Int) + 1)]) (by simp [results, Tryd.results8, go_sem]) rfl ⟨rfl, ((Below.refl _ _).alloc (Nat.le_refl _) _).alloc (by simp) _⟩
  · rw [if_neg hd]
    obtain rfl : d = 31 := by omega
    unfold dv
    go_enter Tryd.func8, Tryd.ntmps8
    go_wp2
    exact bodyPost_ret (v := .agg #[.int .i64 (y : Int), .int .i64 6, .int .i64 1]) (by simp [results, Tryd.results8, go_sem]) rfl ⟨rfl, ((Below.refl _ _).alloc (Nat.le_refl _) _).alloc (by simp) _⟩

set_option maxRecDepth 100000 in
set_option maxHeartbeats 1000000 in
theorem next_6 (w : World) (y d : Nat) (hd1 : d ≤ 30) : Calls Tryd.prog 8 #[dv y 6 d] w (PostN w (if d + 1 ≤ 30 then dv y 6 ((d : Int) + 1) else dv y 7 1)) := by
  by_cases hd : d + 1 ≤ 30
  · rw [if_pos hd]
    have hI : ¬ ((30 : Int) < (d : Int) + 1) := by omega
    have hdI : (d : Int) + 1 ≤ 40 := by omega
    unfold dv
    go_enter Tryd.func8, Tryd.ntmps8
    go_wp2
    exact bodyPost_ret (v := .agg #[.int .i64 (y : Int), .int .i64 6, .int .i64 ((d : Int) + 1)]) (by simp [results, Tryd.results8, go_sem]) rfl ⟨rfl, ((Below.refl _ _).alloc (Nat.le_refl _) _).alloc (by simp) _⟩
  · rw [if_neg hd]
    obtain rfl : d = 30 := by omega
    unfold dv
    go_enter Tryd.func8, Tryd.ntmps8
    go_wp2
    exact bodyPost_ret (v := .agg #[.int .i64 (y : Int), .int .i64 7, .int .i64 1]) (by simp [results, Tryd.results8, go_sem]) rfl ⟨rfl, ((Below.refl _ _).alloc (Nat.le_refl _) _).alloc (by simp) _⟩

set_option maxRecDepth 100000 in
set_option maxHeartbeats 1000000 in
theorem next_7 (w : World) (y d : Nat) (hd1 : d ≤ 31) : Calls Tryd.prog 8 #[dv y 7 d] w (PostN w (if d + 1 ≤ 31 then dv y 7 ((d : Int) + 1) else dv y 8 1)) := by
  by_cases hd : d + 1 ≤ 31
  · rw [if_pos hd]
    have hI : ¬ ((31 : Int) < (d : Int) + 1) := by omega
    have hdI : (d : Int) + 1 ≤ 40 := by omega
    unfold dv
    go_enter Tryd.func8, Tryd.ntmps8
    go_wp2
    exact bodyPost_ret (v := .agg #[.int .i64 (y : Int), .int .i64 7, .int .i64 ((d : Int) + 1)]) (by simp [results, Tryd.results8, go_sem]) rfl ⟨rfl, ((Below.refl _ _).alloc (Nat.le_refl _) _).alloc (by simp) _⟩
  · rw [if_neg hd]
    obtain rfl : d = 31 := by omega
    unfold dv
    go_enter Tryd.func8, Tryd.ntmps8
    go_wp2
    exact bodyPost_ret (v := .agg #[.int .i64 (y : Int), .int .i64 8, .int .i64 1]) (by simp [results, Tryd.results8, go_sem]) rfl ⟨rfl, ((Below.refl _ _).alloc (Nat.le_refl _) _).alloc (by simp) _⟩

set_option maxRecDepth 100000 in
set_option maxHeartbeats 1000000 in
theorem next_8 (w : World) (y d : Nat) (hd1 : d ≤ 31) : Calls Tryd.prog 8 #[dv y 8 d] w (PostN w (if d + 1 ≤ 31 then dv y 8 ((d : Int) + 1) else dv y 9 1)) := by
  by_cases hd : d + 1 ≤ 31
  · rw [if_pos hd]
    have hI : ¬ ((31 : Int) < (d : Int) + 1) := by omega
    have hdI : (d : Int) + 1 ≤ 40 := by omega
    unfold dv
    go_enter Tryd.func8, Tryd.ntmps8
    go_wp2
    exact bodyPost_ret (v := .agg #[.int .i64 (y : Int), .int .i64 8, .int .i64 ((d : Int) + 1)]) (by simp [results, Tryd.results8, go_sem]) rfl ⟨rfl, ((Below.refl _ _).alloc (Nat.le_refl _) _).alloc (by simp) _⟩
  · rw [if_neg hd]
    obtain rfl : d = 31 := by omega
    unfold dv
    go_enter Tryd.func8, Tryd.ntmps8
    go_wp2
    exact bodyPost_ret (v := .agg #[.int .i64 (y : Int), .int .i64 9, .int .i64 1]) (by simp [results, Tryd.results8, go_sem]) rfl ⟨rfl, ((Below.refl _ _).alloc (Nat.le_refl _) _).alloc (by simp) _⟩

set_option maxRecDepth 100000 in
set_option maxHeartbeats 1000000 in
theorem next_9 (w : World) (y d : Nat) (hd1 : d ≤ 30) : Calls Tryd.prog 8 #[dv y 9 d] w (PostN w (if d + 1 ≤ 30 then dv y 9 ((d : Int) + 1) else dv y 10 1)) := by
  by_cases hd : d + 1 ≤ 30
  · rw [if_pos hd]
    have hI : ¬ ((30 : Int) < (d : Int) + 1) := by omega
    have hdI : (d : Int) + 1 ≤ 40 := by omega
    unfold dv
    go_enter Tryd.func8, Tryd.ntmps8
    go_wp2
    exact bodyPost_ret (v := .agg #[.int .i64 (y : Int), .int .i64 9, .int .i64 ((d : Int) + 1)]) (by simp [results, Tryd.results8, go_sem]) rfl ⟨rfl, ((Below.refl _ _).alloc (Nat.le_refl _) _).alloc (by simp) _⟩
  · rw [if_neg hd]
    obtain rfl : d = 30 := by omega
    unfold dv
    go_enter Tryd.func8, Tryd.ntmps8
    go_wp2
    exact bodyPost_ret (v := .agg #[.int .i64 (y : Int), .int .i64 10, .int .i64 1]) (by simp [results, Tryd.results8, go_sem]) rfl ⟨rfl, ((Below.refl _ _).alloc (Nat.le_refl _) _).alloc (by simp) _⟩

set_option maxRecDepth 100000 in
set_option maxHeartbeats 1000000 in
theorem next_10 (w : World) (y d : Nat) (hd1 : d ≤ 31) : Calls Tryd.prog 8 #[dv y 10 d] w (PostN w (if d + 1 ≤ 31 then dv y 10 ((d : Int) + 1) else dv y 11 1)) := by
  by_cases hd : d + 1 ≤ 31
  · rw [if_pos hd]
    have hI : ¬ ((31 : Int) < (d : Int) + 1) := by omega
    have hdI : (d : Int) + 1 ≤ 40 := by omega
    unfold dv
    go_enter Tryd.func8, Tryd.ntmps8
    go_wp2
    exact bodyPost_ret (v := .agg #[.int .i64 (y : Int), .int .i64 10, .int .i64 ((d : Int) + 1)]) (by simp [results, Tryd.results8, go_sem]) rfl ⟨rfl, ((Below.refl _ _).alloc (Nat.le_refl _) _).alloc (by simp) _⟩
  · rw [if_neg hd]
    obtain rfl : d = 31 := by omega
    unfold dv
    go_enter Tryd.func8, Tryd.ntmps8
    go_wp2
    exact bodyPost_ret (v := .agg #[.int .i64 (y : Int), .int .i64 11, .int .i64 1]) (by simp [results, Tryd.results8, go_sem]) rfl ⟨rfl, ((Below.refl _ _).alloc (Nat.le_refl _) _).alloc (by simp) _⟩

set_option maxRecDepth 100000 in
set_option maxHeartbeats 1000000 in
theorem next_11 (w : World) (y d : Nat) (hd1 : d ≤ 30) : Calls Tryd.prog 8 #[dv y 11 d] w (PostN w (if d + 1 ≤ 30 then dv y 11 ((d : Int) + 1) else dv y 12 1)) := by
  by_cases hd : d + 1 ≤ 30
  · rw [if_pos hd]
    have hI : ¬ ((30 : Int) < (d : Int) + 1) := by omega
    have hdI : (d : Int) + 1 ≤ 40 := by omega
    unfold dv
    go_enter Tryd.func8, Tryd.ntmps8
    go_wp2
    exact bodyPost_ret (v := .agg #[.int .i64 (y : Int), .int .i64 11, .int .i64 ((d : Int) + 1)]) (by simp [results, Tryd.results8, go_sem]) rfl ⟨rfl, ((Below.refl _ _).alloc (Nat.le_refl _) _).alloc (by simp) _⟩
  · rw [if_neg hd]
    obtain rfl : d = 30 := by omega
    unfold dv
    go_enter Tryd.func8, Tryd.ntmps8
    go_wp2
    exact bodyPost_ret (v := .agg #[.int .i64 (y : Int), .int .i64 12, .int .i64 1]) (by simp [results, Tryd.results8, go_sem]) rfl ⟨rfl, ((Below.refl _ _).alloc (Nat.le_refl _) _).alloc (by simp) _⟩

set_option maxRecDepth 100000 in
set_option maxHeartbeats 1000000 in
theorem next_12 (w : World) (y d : Nat) (hy : y ≤ 9999) (hd1 : d ≤ 31) : Calls Tryd.prog 8 #[dv y 12 d] w (PostN w (if d + 1 ≤ 31 then dv y 12 ((d : Int) + 1) else dv ((y : Int) + 1) 1 1)) := by
  by_cases hd : d + 1 ≤ 31
  · rw [if_pos hd]
    have hI : ¬ ((31 : Int) < (d : Int) + 1) := by omega
    have hdI : (d : Int) + 1 ≤ 40 := by omega
    unfold dv
    go_enter Tryd.func8, Tryd.ntmps8
    go_wp2
    exact bodyPost_ret (v := .agg #[.int .i64 (y : Int), .int .i64 12, .int .i64 ((d : Int) + 1)]) (by simp [results, Tryd.results8, go_sem]) rfl ⟨rfl, ((Below.refl _ _).alloc (Nat.le_refl _) _).alloc (by simp) _⟩
  · rw [if_neg hd]
    obtain rfl : d = 31 := by omega
    unfold dv
    go_enter Tryd.func8, Tryd.ntmps8
    go_wp2
    exact bodyPost_ret (v := .agg #[.int .i64 ((y : Int) + 1), .int .i64 1, .int .i64 1]) (by simp [results, Tryd.results8, go_sem]) rfl ⟨rfl, ((Below.refl _ _).alloc (Nat.le_refl _) _).alloc (by simp) _⟩

set_option maxRecDepth 100000 in
set_option maxHeartbeats 1000000 in
theorem next_2a (w : World) (y d : Nat) (hy : y ≤ 9999) (hd1 : d ≤ 29) (h0 : y % 400 = 0) : Calls Tryd.prog 8 #[dv y 2 d] w (PostN w (if d + 1 ≤ 29 then dv y 2 ((d : Int) + 1) else dv y 3 1)) := by
  have a0 : ((y : Int) % 400 == 0) = true := by simp; omega
  by_cases hd : d + 1 ≤ 29
  · rw [if_pos hd]
    have hI : ¬ ((29 : Int) < (d : Int) + 1) := by omega
    have hdI : (d : Int) + 1 ≤ 40 := by omega
    unfold dv
    go_enter Tryd.func8, Tryd.ntmps8
    go_wp2
    exact bodyPost_ret (v := .agg #[.int .i64 (y : Int), .int .i64 2, .int .i64 ((d : Int) + 1)]) (by simp [results, Tryd.results8, go_sem]) rfl ⟨rfl, ((Below.refl _ _).alloc (Nat.le_refl _) _).alloc (by simp) _⟩
  · rw [if_neg hd]
    obtain rfl : d = 29 := by omega
    unfold dv
    go_enter Tryd.func8, Tryd.ntmps8
    go_wp2
    exact bodyPost_ret (v := .agg #[.int .i64 (y : Int), .int .i64 3, .int .i64 1]) (by simp [results, Tryd.results8, go_sem]) rfl ⟨rfl, ((Below.refl _ _).alloc (Nat.le_refl _) _).alloc (by simp) _⟩

set_option maxRecDepth 100000 in
set_option maxHeartbeats 1000000 in
theorem next_2b (w : World) (y d : Nat) (hy : y ≤ 9999) (hd1 : d ≤ 29) (h4 : y % 4 = 0) (h1 : y % 100 ≠ 0) : Calls Tryd.prog 8 #[dv y 2 d] w (PostN w (if d + 1 ≤ 29 then dv y 2 ((d : Int) + 1) else dv y 3 1)) := by
  have a0 : ((y : Int) % 400 == 0) = false := by simp; omega
  have a4 : ((y : Int) % 4 == 0) = true := by simp; omega
  have a1 : ((y : Int) % 100 == 0) = false := by simp; omega
  have a1' : ¬ ((y : Int) % 100 = 0) := by omega
  by_cases hd : d + 1 ≤ 29
  · rw [if_pos hd]
    have hI : ¬ ((29 : Int) < (d : Int) + 1) := by omega
    have hdI : (d : Int) + 1 ≤ 40 := by omega
    unfold dv
    go_enter Tryd.func8, Tryd.ntmps8
    go_wp2
    exact bodyPost_ret (v := .agg #[.int .i64 (y : Int), .int .i64 2, .int .i64 ((d : Int) + 1)]) (by simp [results, Tryd.results8, go_sem]) rfl ⟨rfl, ((Below.refl _ _).alloc (Nat.le_refl _) _).alloc (by simp) _⟩
  · rw [if_neg hd]
    obtain rfl : d = 29 := by omega
    unfold dv
    go_enter Tryd.func8, Tryd.ntmps8
    go_wp2
    exact bodyPost_ret (v := .agg #[.int .i64 (y : Int), .int .i64 3, .int .i64 1]) (by simp [results, Tryd.results8, go_sem]) rfl ⟨rfl, ((Below.refl _ _).alloc (Nat.le_refl _) _).alloc (by simp) _⟩

set_option maxRecDepth 100000 in
set_option maxHeartbeats 1000000 in
theorem next_2c (w : World) (y d : Nat) (hy : y ≤ 9999) (hd1 : d ≤ 28) (h0 : y % 400 ≠ 0) (h4 : y % 4 = 0) (h1 : y % 100 = 0) : Calls Tryd.prog 8 #[dv y 2 d] w (PostN w (if d + 1 ≤ 28 then dv y 2 ((d : Int) + 1) else dv y 3 1)) := by
  have a0 : ((y : Int) % 400 == 0) = false := by simp; omega
  have a4 : ((y : Int) % 4 == 0) = true := by simp; omega
  have a1 : ((y : Int) % 100 == 0) = true := by simp; omega
  have a1' : (y : Int) % 100 = 0 := by omega
  by_cases hd : d + 1 ≤ 28
  · rw [if_pos hd]
    have hI : ¬ ((28 : Int) < (d : Int) + 1) := by omega
    have hdI : (d : Int) + 1 ≤ 40 := by omega
    unfold dv
    go_enter Tryd.func8, Tryd.ntmps8
    go_wp2
    exact bodyPost_ret (v := .agg #[.int .i64 (y : Int), .int .i64 2, .int .i64 ((d : Int) + 1)]) (by simp [results, Tryd.results8, go_sem]) rfl ⟨rfl, ((Below.refl _ _).alloc (Nat.le_refl _) _).alloc (by simp) _⟩
  · rw [if_neg hd]
    obtain rfl : d = 28 := by omega
    unfold dv
    go_enter Tryd.func8, Tryd.ntmps8
    go_wp2
    exact bodyPost_ret (v := .agg #[.int .i64 (y : Int), .int .i64 3, .int .i64 1]) (by simp [results, Tryd.results8, go_sem]) rfl ⟨rfl, ((Below.refl _ _).alloc (Nat.le_refl _) _).alloc (by simp) _⟩

set_option maxRecDepth 100000 in
set_option maxHeartbeats 1000000 in
theorem next_2d (w : World) (y d : Nat) (hy : y ≤ 9999) (hd1 : d ≤ 28) (h4 : y % 4 ≠ 0) : Calls Tryd.prog 8 #[dv y 2 d] w (PostN w (if d + 1 ≤ 28 then dv y 2 ((d : Int) + 1) else dv y 3 1)) := by
  have a0 : ((y : Int) % 400 == 0) = false := by simp; omega
  have a4 : ((y : Int) % 4 == 0) = false := by simp; omega
  by_cases hd : d + 1 ≤ 28
  · rw [if_pos hd]
    have hI : ¬ ((28 : Int) < (d : Int) + 1) := by omega
    have hdI : (d : Int) + 1 ≤ 40 := by omega
    unfold dv
    go_enter Tryd.func8, Tryd.ntmps8
    go_wp2
    exact bodyPost_ret (v := .agg #[.int .i64 (y : Int), .int .i64 2, .int .i64 ((d : Int) + 1)]) (by simp [results, Tryd.results8, go_sem]) rfl ⟨rfl, ((Below.refl _ _).alloc (Nat.le_refl _) _).alloc (by simp) _⟩
  · rw [if_neg hd]
    obtain rfl : d = 28 := by omega
    unfold dv
    go_enter Tryd.func8, Tryd.ntmps8
    go_wp2
    exact bodyPost_ret (v := .agg #[.int .i64 (y : Int), .int .i64 3, .int .i64 1]) (by simp [results, Tryd.results8, go_sem]) rfl ⟨rfl, ((Below.refl _ _).alloc (Nat.le_refl _) _).alloc (by simp) _⟩

theorem next8_any (w : World) (y m d : Nat) (h : Day y m d) : Calls Tryd.prog 8 #[dv y m d] w (PostN w (dv (nxt y m d).1 (nxt y m d).2.1 (nxt y m d).2.2)) := by
  obtain ⟨h1, h2, h3, h4, h5, h6⟩ := h
  have hl := md_law y m h3 h4
  unfold nxt
  rcases (by omega : m = 1 ∨ m = 2 ∨ m = 3 ∨ m = 4 ∨ m = 5 ∨ m = 6 ∨ m = 7 ∨ m = 8 ∨ m = 9 ∨ m = 10 ∨ m = 11 ∨ m = 12) with rfl | rfl | rfl | rfl | rfl | rfl | rfl | rfl | rfl | rfl | rfl | rfl
  · have hL : md y 1 = 31 := by rw [hl, if_neg (by omega), if_neg (by omega)]
    have hc := next_1 w y d (by omega)
    rw [hL]
    by_cases hd : d + 1 ≤ 31
    · rw [if_pos hd] at hc ⊢; exact hc
    · rw [if_neg hd] at hc ⊢; exact hc
  · by_cases g0 : y % 400 = 0
    · have hL : md y 2 = 29 := by rw [hl, if_neg (by omega), if_pos rfl, if_pos ⟨by omega, .inr g0⟩]
      have hc := next_2a w y d h2 (by omega) g0
      rw [hL]
      by_cases hd : d + 1 ≤ 29
      · rw [if_pos hd] at hc ⊢; exact hc
      · rw [if_neg hd] at hc ⊢; exact hc
    · by_cases g4 : y % 4 = 0
      · by_cases g1 : y % 100 = 0
        · have hL : md y 2 = 28 := by rw [hl, if_neg (by omega), if_pos rfl, if_neg (fun hl => by rcases hl.2 with h | h; exact h g1; exact g0 h)]
          have hc := next_2c w y d h2 (by omega) g0 g4 g1
          rw [hL]
          by_cases hd : d + 1 ≤ 28
          · rw [if_pos hd] at hc ⊢; exact hc
          · rw [if_neg hd] at hc ⊢; exact hc
        · have hL : md y 2 = 29 := by rw [hl, if_neg (by omega), if_pos rfl, if_pos ⟨g4, .inl g1⟩]
          have hc := next_2b w y d h2 (by omega) g4 g1
          rw [hL]
          by_cases hd : d + 1 ≤ 29
          · rw [if_pos hd] at hc ⊢; exact hc
          · rw [if_neg hd] at hc ⊢; exact hc
      · have hL : md y 2 = 28 := by rw [hl, if_neg (by omega), if_pos rfl, if_neg (fun hl => g4 hl.1)]
        have hc := next_2d w y d h2 (by omega) g4
        rw [hL]
        by_cases hd : d + 1 ≤ 28
        · rw [if_pos hd] at hc ⊢; exact hc
        · rw [if_neg hd] at hc ⊢; exact hc
  · have hL : md y 3 = 31 := by rw [hl, if_neg (by omega), if_neg (by omega)]
    have hc := next_3 w y d (by omega)
    rw [hL]
    by_cases hd : d + 1 ≤ 31
    · rw [if_pos hd] at hc ⊢; exact hc
    · rw [if_neg hd] at hc ⊢; exact hc
  · have hL : md y 4 = 30 := by rw [hl, if_pos (by omega)]
    have hc := next_4 w y d (by omega)
    rw [hL]
    by_cases hd : d + 1 ≤ 30
    · rw [if_pos hd] at hc ⊢; exact hc
    · rw [if_neg hd] at hc ⊢; exact hc
  · have hL : md y 5 = 31 := by rw [hl, if_neg (by omega), if_neg (by omega)]
    have hc := next_5 w y d (by omega)
    rw [hL]
    by_cases hd : d + 1 ≤ 31
    · rw [if_pos hd] at hc ⊢; exact hc
    · rw [if_neg hd] at hc ⊢; exact hc
  · have hL : md y 6 = 30 := by rw [hl, if_pos (by omega)]
    have hc := next_6 w y d (by omega)
    rw [hL]
    by_cases hd : d + 1 ≤ 30
    · rw [if_pos hd] at hc ⊢; exact hc
    · rw [if_neg hd] at hc ⊢; exact hc
  · have hL : md y 7 = 31 := by rw [hl, if_neg (by omega), if_neg (by omega)]
    have hc := next_7 w y d (by omega)
    rw [hL]
    by_cases hd : d + 1 ≤ 31
    · rw [if_pos hd] at hc ⊢; exact hc
    · rw [if_neg hd] at hc ⊢; exact hc
  · have hL : md y 8 = 31 := by rw [hl, if_neg (by omega), if_neg (by omega)]
    have hc := next_8 w y d (by omega)
    rw [hL]
    by_cases hd : d + 1 ≤ 31
    · rw [if_pos hd] at hc ⊢; exact hc
    · rw [if_neg hd] at hc ⊢; exact hc
  · have hL : md y 9 = 30 := by rw [hl, if_pos (by omega)]
    have hc := next_9 w y d (by omega)
    rw [hL]
    by_cases hd : d + 1 ≤ 30
    · rw [if_pos hd] at hc ⊢; exact hc
    · rw [if_neg hd] at hc ⊢; exact hc
  · have hL : md y 10 = 31 := by rw [hl, if_neg (by omega), if_neg (by omega)]
    have hc := next_10 w y d (by omega)
    rw [hL]
    by_cases hd : d + 1 ≤ 31
    · rw [if_pos hd] at hc ⊢; exact hc
    · rw [if_neg hd] at hc ⊢; exact hc
  · have hL : md y 11 = 30 := by rw [hl, if_pos (by omega)]
    have hc := next_11 w y d (by omega)
    rw [hL]
    by_cases hd : d + 1 ≤ 30
    · rw [if_pos hd] at hc ⊢; exact hc
    · rw [if_neg hd] at hc ⊢; exact hc
  · have hL : md y 12 = 31 := by rw [hl, if_neg (by omega), if_neg (by omega)]
    have hc := next_12 w y d h2 (by omega)
    rw [hL]
    by_cases hd : d + 1 ≤ 31
    · rw [if_pos hd] at hc ⊢; exact hc
    · rw [if_neg hd] at hc ⊢; exact hc
end Go.Proofs.YtggdlagopgpnhaaDoor

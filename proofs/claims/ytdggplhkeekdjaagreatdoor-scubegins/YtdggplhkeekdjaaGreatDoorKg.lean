import Derived.Test.YtdggplhkeekdjaaGreatDoorKf
/-
  DERIVED. The document's forms, by kinds.
-/
namespace Go.Proofs.YtdggplhkeekdjaaGreatDoor.Ck
open Go Go.Proofs Go.RowKit

theorem formed_6 (w : World) (s : ByteArray) (hs : s.size ≤ 140737488351232) : Calls Tryz.prog 42 #[.int .i64 6, .string s] w fun e w' => e = .returned (.bool (dcF s)) ∧ w = w' := by
  have c := decimalForm_any w s hs
  generalize dcF s = Z at *
  go_enter Tryz.func42, Tryz.ntmps42
  go_wp2_with (go_at_call 58; refine Stop.mk ?_)
  refine Stop.out (c.mono ?_)
  rintro e W1 ⟨rfl, rfl⟩
  go_wp2
  go_ret
  exact ⟨rfl, rfl⟩
theorem formed_7 (w : World) (s : ByteArray) (hs : s.size ≤ 140737488351232) : Calls Tryz.prog 42 #[.int .i64 7, .string s] w fun e w' => e = .returned (.bool (momF s)) ∧ w = w' := by
  have c := moment_any w s hs
  generalize momF s = Z at *
  go_enter Tryz.func42, Tryz.ntmps42
  go_wp2_with (go_at_call 60; refine Stop.mk ?_)
  refine Stop.out (c.mono ?_)
  rintro e W1 ⟨rfl, rfl⟩
  go_wp2
  go_ret
  exact ⟨rfl, rfl⟩
theorem formed_23 (w : World) (s : ByteArray) (hs : s.size ≤ 140737488351232) : Calls Tryz.prog 42 #[.int .i64 23, .string s] w fun e w' => e = .returned (.bool (uidF s)) ∧ w = w' := by
  have c := ruid_any w s hs
  generalize uidF s = Z at *
  go_enter Tryz.func42, Tryz.ntmps42
  go_wp2_with (go_at_call 62; refine Stop.mk ?_)
  refine Stop.out (c.mono ?_)
  rintro e W1 ⟨rfl, rfl⟩
  go_wp2
  go_ret
  exact ⟨rfl, rfl⟩
theorem formed_15 (w : World) (s : ByteArray) (hs : s.size ≤ 140737488351232) : Calls Tryz.prog 42 #[.int .i64 15, .string s] w fun e w' => e = .returned (.bool (nmF s)) ∧ w = w' := by
  have c := rname_any w s hs
  generalize nmF s = Z at *
  go_enter Tryz.func42, Tryz.ntmps42
  go_wp2_with (go_at_call 63; refine Stop.mk ?_)
  refine Stop.out (c.mono ?_)
  rintro e W1 ⟨rfl, rfl⟩
  go_wp2
  go_ret
  exact ⟨rfl, rfl⟩
theorem formed_10 (w : World) (s : ByteArray) (hs : s.size ≤ 17) : Calls Tryz.prog 42 #[.int .i64 10, .string s] w fun e w' => e = .returned (.bool (whF s)) ∧ w = w' := by
  have c := wholeForm_any w s hs
  generalize whF s = Z at *
  go_enter Tryz.func42, Tryz.ntmps42
  go_wp2_with (go_at_call 59; refine Stop.mk ?_)
  refine Stop.out (c.mono ?_)
  rintro e W1 ⟨rfl, rfl⟩
  go_wp2
  go_ret
  exact ⟨rfl, rfl⟩
theorem formed_21 (w : World) (s : ByteArray) (hs : s.size ≤ 140737488351232) : Calls Tryz.prog 42 #[.int .i64 21, .string s] w fun e w' => e = .returned (.bool (clk s 0 == (s.size : Int))) ∧ w = w' := by
  have c := clock_any w s 0 hs (Nat.zero_le _)
  generalize clk s 0 = Z at *
  go_enter Tryz.func42, Tryz.ntmps42
  go_wp2_with (go_at_call 61; refine Stop.mk ?_)
  refine Stop.out (c.mono ?_)
  rintro e W1 ⟨rfl, rfl⟩
  go_wp2
  go_ret
  exact ⟨rfl, rfl⟩
theorem formed_5 (w : World) (s : ByteArray) : Calls Tryz.prog 42 #[.int .i64 5, .string s] w fun e w' => e = .returned (.bool ((s.size : Int) == 8)) ∧ w = w' := by
  go_enter Tryz.func42, Tryz.ntmps42
  go_wp2
  go_ret
  exact ⟨rfl, rfl⟩
theorem formed_2 (w : World) (s : ByteArray) (hs : s.size ≤ 140737488351232) : Calls Tryz.prog 42 #[.int .i64 2, .string s] w fun e w' => e = .returned (.bool (decide (s.size = 4) && decide (cnt s 4 0 = 3))) ∧ w = w' := by
  have c := upTo_any w s 0 4 hs (Nat.zero_le _) (by omega)
  simp only [Nat.zero_add] at c
  generalize cnt s 4 0 = k at *
  by_cases h4 : s.size = 4
  · have e4 : ((s.size : Int) == 4) = true := by rw [h4]; rfl
    rw [decide_eq_true h4, Bool.true_and]
    by_cases hk : k = 3
    · subst hk
      go_enter Tryz.func42, Tryz.ntmps42
      go_wp2_with (go_at_call 57; refine Stop.mk ?_)
      refine Stop.out (c.mono ?_)
      rintro e W1 ⟨rfl, rfl⟩
      go_wp2
      go_ret
      exact ⟨rfl, rfl⟩
    · have ek : ((k : Int) == 3) = false := beq_eq_false_iff_ne.2 (by omega)
      rw [decide_eq_false hk]
      go_enter Tryz.func42, Tryz.ntmps42
      go_wp2_with (go_at_call 57; refine Stop.mk ?_)
      refine Stop.out (c.mono ?_)
      rintro e W1 ⟨rfl, rfl⟩
      go_wp2
      go_ret
      exact ⟨rfl, rfl⟩
  · have e4 : ((s.size : Int) == 4) = false := beq_eq_false_iff_ne.2 (by omega)
    rw [decide_eq_false h4, Bool.false_and]
    clear c
    go_enter Tryz.func42, Tryz.ntmps42
    go_wp2
    go_ret
    exact ⟨rfl, rfl⟩
theorem formed_else (w : World) (v : Int) (h : v ≠ 2 ∧ v ≠ 5 ∧ v ≠ 6 ∧ v ≠ 10 ∧ v ≠ 7 ∧ v ≠ 21 ∧ v ≠ 23 ∧ v ≠ 15) (s : ByteArray) : Calls Tryz.prog 42 #[.int .i64 v, .string s] w fun e w' => e = .returned (.bool true) ∧ w = w' := by
  have e2 : (v == 2) = false := beq_eq_false_iff_ne.2 (by omega)
  have e5 : (v == 5) = false := beq_eq_false_iff_ne.2 (by omega)
  have e6 : (v == 6) = false := beq_eq_false_iff_ne.2 (by omega)
  have e10 : (v == 10) = false := beq_eq_false_iff_ne.2 (by omega)
  have e7 : (v == 7) = false := beq_eq_false_iff_ne.2 (by omega)
  have e21 : (v == 21) = false := beq_eq_false_iff_ne.2 (by omega)
  have e23 : (v == 23) = false := beq_eq_false_iff_ne.2 (by omega)
  have e15 : (v == 15) = false := beq_eq_false_iff_ne.2 (by omega)
  clear h
  go_enter Tryz.func42, Tryz.ntmps42
  go_wp2
  go_ret
  exact ⟨rfl, rfl⟩

/-- What bytes may stand in a value of that kind. -/
def plB (v : Int) (c : Nat) : Bool :=
  if v = 1 then decide (32 ≤ c) && (decide (c ≤ 126) && decide (c ≠ 92))
  else if v = 2 then dg c || amB c [68, 87, 77, 89]
  else if v = 4 then dg c || ((decide (65 ≤ c) && decide (c ≤ 90)) || amB c [32, 95])
  else if v = 5 then dg c
  else if v = 6 then dg c || amB c [43, 45, 46, 69, 101, 32]
  else if v = 7 then dg c || amB c [43, 45, 46]
  else if v = 21 ∨ v = 23 then dg c || decide (c = 46)
  else if v = 10 then dg c || amB c [43, 45, 32]
  else if v = 26 then decide (33 ≤ c) && (decide (c ≤ 126) && decide (c ≠ 92))
  else true
set_option maxRecDepth 100000 in
theorem plain_1 (w : World) (c : Nat) : Calls Tryz.prog 56 #[.int .i64 1, .int .u8 (c : Int)] w fun e w' => e = .returned (.bool (plB 1 c)) ∧ w = w' := by
  show Calls Tryz.prog 56 #[.int .i64 1, .int .u8 (c : Int)] w fun e w' => e = .returned (.bool (decide (32 ≤ c) && (decide (c ≤ 126) && decide (c ≠ 92)))) ∧ w = w'
  by_cases h1 : 32 ≤ c
  · have i1 : (c : Int) ≥ 32 := by omega
    rw [decide_eq_true h1, Bool.true_and]
    by_cases h2 : c ≤ 126
    · have i2 : (c : Int) ≤ 126 := by omega
      rw [decide_eq_true h2, Bool.true_and]
      by_cases h3 : c = 92
      · subst h3
        go_enter Tryz.func56, Tryz.ntmps56
        go_wp2
        go_ret
        exact ⟨rfl, rfl⟩
      · have i3 : ((c : Int) != 92) = true := by simp; omega
        rw [decide_eq_true h3]
        go_enter Tryz.func56, Tryz.ntmps56
        go_wp2
        go_ret
        exact ⟨rfl, rfl⟩
    · have i2 : ¬ ((c : Int) ≤ 126) := by omega
      rw [decide_eq_false h2, Bool.false_and]
      go_enter Tryz.func56, Tryz.ntmps56
      go_wp2
      go_ret
      exact ⟨rfl, rfl⟩
  · have i1 : ¬ ((c : Int) ≥ 32) := by omega
    rw [decide_eq_false h1, Bool.false_and]
    go_enter Tryz.func56, Tryz.ntmps56
    go_wp2
    go_ret
    exact ⟨rfl, rfl⟩
set_option maxRecDepth 100000 in
theorem plain_26 (w : World) (c : Nat) : Calls Tryz.prog 56 #[.int .i64 26, .int .u8 (c : Int)] w fun e w' => e = .returned (.bool (plB 26 c)) ∧ w = w' := by
  show Calls Tryz.prog 56 #[.int .i64 26, .int .u8 (c : Int)] w fun e w' => e = .returned (.bool (decide (33 ≤ c) && (decide (c ≤ 126) && decide (c ≠ 92)))) ∧ w = w'
  by_cases h1 : 33 ≤ c
  · have i1 : (c : Int) ≥ 33 := by omega
    rw [decide_eq_true h1, Bool.true_and]
    by_cases h2 : c ≤ 126
    · have i2 : (c : Int) ≤ 126 := by omega
      rw [decide_eq_true h2, Bool.true_and]
      by_cases h3 : c = 92
      · subst h3
        go_enter Tryz.func56, Tryz.ntmps56
        go_wp2
        go_ret
        exact ⟨rfl, rfl⟩
      · have i3 : ((c : Int) != 92) = true := by simp; omega
        rw [decide_eq_true h3]
        go_enter Tryz.func56, Tryz.ntmps56
        go_wp2
        go_ret
        exact ⟨rfl, rfl⟩
    · have i2 : ¬ ((c : Int) ≤ 126) := by omega
      rw [decide_eq_false h2, Bool.false_and]
      go_enter Tryz.func56, Tryz.ntmps56
      go_wp2
      go_ret
      exact ⟨rfl, rfl⟩
  · have i1 : ¬ ((c : Int) ≥ 33) := by omega
    rw [decide_eq_false h1, Bool.false_and]
    go_enter Tryz.func56, Tryz.ntmps56
    go_wp2
    go_ret
    exact ⟨rfl, rfl⟩
set_option maxRecDepth 100000 in
theorem plain_2 (w : World) (c : Nat) : Calls Tryz.prog 56 #[.int .i64 2, .int .u8 (c : Int)] w fun e w' => e = .returned (.bool (plB 2 c)) ∧ w = w' := by
  show Calls Tryz.prog 56 #[.int .i64 2, .int .u8 (c : Int)] w fun e w' => e = .returned (.bool (dg c || amB c [68, 87, 77, 89])) ∧ w = w'
  have c1 := rdigit_any w c
  have c2 : Calls Tryz.prog 88 #[.int .u8 (c : Int), .string ⟨#[68, 87, 77, 89]⟩] w fun e w' => e = .returned (.bool (amB c [68, 87, 77, 89])) ∧ w = w' := among_any w c ⟨#[68, 87, 77, 89]⟩ (by decide)
  generalize amB c [68, 87, 77, 89] = Z at *
  cases hd : dg c with
  | true =>
    rw [hd] at c1
    rw [Bool.true_or]
    clear c2
    go_enter Tryz.func56, Tryz.ntmps56
    go_wp2_with (go_at_call 87; refine Stop.mk ?_)
    refine Stop.out (c1.mono ?_)
    rintro e W1 ⟨rfl, rfl⟩
    go_wp2
    go_ret
    exact ⟨rfl, rfl⟩
  | false =>
    rw [hd] at c1
    rw [Bool.false_or]
    go_enter Tryz.func56, Tryz.ntmps56
    go_wp2_with (go_at_call 87; refine Stop.mk ?_)
    refine Stop.out (c1.mono ?_)
    rintro e W1 ⟨rfl, rfl⟩
    go_wp2_with (go_at_call 88; refine Stop.mk ?_)
    refine Stop.out (c2.mono ?_)
    rintro e W1 ⟨rfl, rfl⟩
    go_wp2
    go_ret
    exact ⟨rfl, rfl⟩
set_option maxRecDepth 100000 in
theorem plain_6 (w : World) (c : Nat) : Calls Tryz.prog 56 #[.int .i64 6, .int .u8 (c : Int)] w fun e w' => e = .returned (.bool (plB 6 c)) ∧ w = w' := by
  show Calls Tryz.prog 56 #[.int .i64 6, .int .u8 (c : Int)] w fun e w' => e = .returned (.bool (dg c || amB c [43, 45, 46, 69, 101, 32])) ∧ w = w'
  have c1 := rdigit_any w c
  have c2 : Calls Tryz.prog 88 #[.int .u8 (c : Int), .string ⟨#[43, 45, 46, 69, 101, 32]⟩] w fun e w' => e = .returned (.bool (amB c [43, 45, 46, 69, 101, 32])) ∧ w = w' := among_any w c ⟨#[43, 45, 46, 69, 101, 32]⟩ (by decide)
  generalize amB c [43, 45, 46, 69, 101, 32] = Z at *
  cases hd : dg c with
  | true =>
    rw [hd] at c1
    rw [Bool.true_or]
    clear c2
    go_enter Tryz.func56, Tryz.ntmps56
    go_wp2_with (go_at_call 87; refine Stop.mk ?_)
    refine Stop.out (c1.mono ?_)
    rintro e W1 ⟨rfl, rfl⟩
    go_wp2
    go_ret
    exact ⟨rfl, rfl⟩
  | false =>
    rw [hd] at c1
    rw [Bool.false_or]
    go_enter Tryz.func56, Tryz.ntmps56
    go_wp2_with (go_at_call 87; refine Stop.mk ?_)
    refine Stop.out (c1.mono ?_)
    rintro e W1 ⟨rfl, rfl⟩
    go_wp2_with (go_at_call 88; refine Stop.mk ?_)
    refine Stop.out (c2.mono ?_)
    rintro e W1 ⟨rfl, rfl⟩
    go_wp2
    go_ret
    exact ⟨rfl, rfl⟩
set_option maxRecDepth 100000 in
theorem plain_7 (w : World) (c : Nat) : Calls Tryz.prog 56 #[.int .i64 7, .int .u8 (c : Int)] w fun e w' => e = .returned (.bool (plB 7 c)) ∧ w = w' := by
  show Calls Tryz.prog 56 #[.int .i64 7, .int .u8 (c : Int)] w fun e w' => e = .returned (.bool (dg c || amB c [43, 45, 46])) ∧ w = w'
  have c1 := rdigit_any w c
  have c2 : Calls Tryz.prog 88 #[.int .u8 (c : Int), .string ⟨#[43, 45, 46]⟩] w fun e w' => e = .returned (.bool (amB c [43, 45, 46])) ∧ w = w' := among_any w c ⟨#[43, 45, 46]⟩ (by decide)
  generalize amB c [43, 45, 46] = Z at *
  cases hd : dg c with
  | true =>
    rw [hd] at c1
    rw [Bool.true_or]
    clear c2
    go_enter Tryz.func56, Tryz.ntmps56
    go_wp2_with (go_at_call 87; refine Stop.mk ?_)
    refine Stop.out (c1.mono ?_)
    rintro e W1 ⟨rfl, rfl⟩
    go_wp2
    go_ret
    exact ⟨rfl, rfl⟩
  | false =>
    rw [hd] at c1
    rw [Bool.false_or]
    go_enter Tryz.func56, Tryz.ntmps56
    go_wp2_with (go_at_call 87; refine Stop.mk ?_)
    refine Stop.out (c1.mono ?_)
    rintro e W1 ⟨rfl, rfl⟩
    go_wp2_with (go_at_call 88; refine Stop.mk ?_)
    refine Stop.out (c2.mono ?_)
    rintro e W1 ⟨rfl, rfl⟩
    go_wp2
    go_ret
    exact ⟨rfl, rfl⟩
set_option maxRecDepth 100000 in
theorem plain_10 (w : World) (c : Nat) : Calls Tryz.prog 56 #[.int .i64 10, .int .u8 (c : Int)] w fun e w' => e = .returned (.bool (plB 10 c)) ∧ w = w' := by
  show Calls Tryz.prog 56 #[.int .i64 10, .int .u8 (c : Int)] w fun e w' => e = .returned (.bool (dg c || amB c [43, 45, 32])) ∧ w = w'
  have c1 := rdigit_any w c
  have c2 : Calls Tryz.prog 88 #[.int .u8 (c : Int), .string ⟨#[43, 45, 32]⟩] w fun e w' => e = .returned (.bool (amB c [43, 45, 32])) ∧ w = w' := among_any w c ⟨#[43, 45, 32]⟩ (by decide)
  generalize amB c [43, 45, 32] = Z at *
  cases hd : dg c with
  | true =>
    rw [hd] at c1
    rw [Bool.true_or]
    clear c2
    go_enter Tryz.func56, Tryz.ntmps56
    go_wp2_with (go_at_call 87; refine Stop.mk ?_)
    refine Stop.out (c1.mono ?_)
    rintro e W1 ⟨rfl, rfl⟩
    go_wp2
    go_ret
    exact ⟨rfl, rfl⟩
  | false =>
    rw [hd] at c1
    rw [Bool.false_or]
    go_enter Tryz.func56, Tryz.ntmps56
    go_wp2_with (go_at_call 87; refine Stop.mk ?_)
    refine Stop.out (c1.mono ?_)
    rintro e W1 ⟨rfl, rfl⟩
    go_wp2_with (go_at_call 88; refine Stop.mk ?_)
    refine Stop.out (c2.mono ?_)
    rintro e W1 ⟨rfl, rfl⟩
    go_wp2
    go_ret
    exact ⟨rfl, rfl⟩
theorem plain_5 (w : World) (c : Nat) : Calls Tryz.prog 56 #[.int .i64 5, .int .u8 (c : Int)] w fun e w' => e = .returned (.bool (plB 5 c)) ∧ w = w' := by
  show Calls Tryz.prog 56 #[.int .i64 5, .int .u8 (c : Int)] w fun e w' => e = .returned (.bool (dg c)) ∧ w = w'
  have c1 := rdigit_any w c
  generalize dg c = Z at *
  go_enter Tryz.func56, Tryz.ntmps56
  go_wp2_with (go_at_call 87; refine Stop.mk ?_)
  refine Stop.out (c1.mono ?_)
  rintro e W1 ⟨rfl, rfl⟩
  go_wp2
  go_ret
  exact ⟨rfl, rfl⟩
theorem plain_21 (w : World) (c : Nat) : Calls Tryz.prog 56 #[.int .i64 21, .int .u8 (c : Int)] w fun e w' => e = .returned (.bool (plB 21 c)) ∧ w = w' := by
  show Calls Tryz.prog 56 #[.int .i64 21, .int .u8 (c : Int)] w fun e w' => e = .returned (.bool (dg c || decide (c = 46))) ∧ w = w'
  have c1 := rdigit_any w c
  cases hd : dg c with
  | true =>
    rw [hd] at c1
    rw [Bool.true_or]
    go_enter Tryz.func56, Tryz.ntmps56
    go_wp2_with (go_at_call 87; refine Stop.mk ?_)
    refine Stop.out (c1.mono ?_)
    rintro e W1 ⟨rfl, rfl⟩
    go_wp2
    go_ret
    exact ⟨rfl, rfl⟩
  | false =>
    rw [hd] at c1
    rw [Bool.false_or]
    have e46 : decide (c = 46) = ((c : Int) == 46) := by rw [Bool.eq_iff_iff, decide_eq_true_eq, beq_iff_eq]; omega
    rw [e46]
    clear e46
    go_enter Tryz.func56, Tryz.ntmps56
    go_wp2_with (go_at_call 87; refine Stop.mk ?_)
    refine Stop.out (c1.mono ?_)
    rintro e W1 ⟨rfl, rfl⟩
    go_wp2
    go_ret
    exact ⟨rfl, rfl⟩
theorem plain_23 (w : World) (c : Nat) : Calls Tryz.prog 56 #[.int .i64 23, .int .u8 (c : Int)] w fun e w' => e = .returned (.bool (plB 23 c)) ∧ w = w' := by
  show Calls Tryz.prog 56 #[.int .i64 23, .int .u8 (c : Int)] w fun e w' => e = .returned (.bool (dg c || decide (c = 46))) ∧ w = w'
  have c1 := rdigit_any w c
  cases hd : dg c with
  | true =>
    rw [hd] at c1
    rw [Bool.true_or]
    go_enter Tryz.func56, Tryz.ntmps56
    go_wp2_with (go_at_call 87; refine Stop.mk ?_)
    refine Stop.out (c1.mono ?_)
    rintro e W1 ⟨rfl, rfl⟩
    go_wp2
    go_ret
    exact ⟨rfl, rfl⟩
  | false =>
    rw [hd] at c1
    rw [Bool.false_or]
    have e46 : decide (c = 46) = ((c : Int) == 46) := by rw [Bool.eq_iff_iff, decide_eq_true_eq, beq_iff_eq]; omega
    rw [e46]
    clear e46
    go_enter Tryz.func56, Tryz.ntmps56
    go_wp2_with (go_at_call 87; refine Stop.mk ?_)
    refine Stop.out (c1.mono ?_)
    rintro e W1 ⟨rfl, rfl⟩
    go_wp2
    go_ret
    exact ⟨rfl, rfl⟩
end Go.Proofs.YtdggplhkeekdjaaGreatDoor.Ck

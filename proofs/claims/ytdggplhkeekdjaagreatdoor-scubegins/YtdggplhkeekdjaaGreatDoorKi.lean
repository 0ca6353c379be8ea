import Derived.Test.YtdggplhkeekdjaaGreatDoorKh
/-
  DERIVED. The document's characters, by kinds.
-/
namespace Go.Proofs.YtdggplhkeekdjaaGreatDoor.Ck
open Go Go.Proofs Go.RowKit

set_option maxRecDepth 100000 in
set_option maxHeartbeats 2000000 in
theorem rune_any (w : World) (s : ByteArray) (i : Nat) (hs : s.size ≤ 140737488351232) (hi : i < s.size) :
    Calls Tryz.prog 54 #[.string s, .int .i64 (i : Int)] w fun e w' => e = .returned (.tuple #[.int .i64 (rn s i).1, .int .i64 ((rn s i).2 : Nat)]) ∧ w = w' := by
  have r1 := rune_1 w s i hs hi
  have r2 := rune_2 w s i hs hi
  have r3 := rune_3 w s i hs hi
  unfold rn
  by_cases h0 : (s.get! i).toNat < 128
  · rw [if_pos h0]
    clear r1 r2 r3
    obtain ⟨b, hb⟩ : ∃ b, s[i].toNat = b := ⟨_, rfl⟩
    have hgb : (s.get! i).toNat = b := by rw [← get_get! s i hi, hb]
    rw [hgb] at h0 ⊢
    clear hgb
    have x0 : (b : Int) < 128 := by omega
    go_enter Tryz.func54, Tryz.ntmps54
    go_wp2
    refine bodyPost_ret (v := .tuple #[.int .i64 (b : Int), .int .i64 1]) (by simp [results, Tryz.results54, go_sem]) rfl ⟨rfl, rfl⟩
  rw [if_neg h0]
  by_cases h1 : 194 ≤ (s.get! i).toNat ∧ (s.get! i).toNat ≤ 223
  · rw [if_pos h1]; exact r1 h1.1 h1.2
  rw [if_neg h1]
  by_cases h2 : 224 ≤ (s.get! i).toNat ∧ (s.get! i).toNat ≤ 239
  · rw [if_pos h2]; exact r2 h2.1 h2.2
  rw [if_neg h2]
  by_cases h3 : 240 ≤ (s.get! i).toNat ∧ (s.get! i).toNat ≤ 244
  · rw [if_pos h3]; exact r3 h3.1 h3.2
  rw [if_neg h3]
  clear r1 r2 r3
  obtain ⟨b, hb⟩ : ∃ b, s[i].toNat = b := ⟨_, rfl⟩
  have hgb : (s.get! i).toNat = b := by rw [← get_get! s i hi, hb]
  rw [hgb] at h0 h1 h2 h3
  have hb256 : b < 256 := by rw [← hgb]; exact UInt8.toNat_lt _
  clear hgb
  have x0 : ¬ ((b : Int) < 128) := by omega
  by_cases h4 : b < 194
  · have x1 : ¬ ((b : Int) ≥ 194) := by omega
    have x3 : ¬ ((b : Int) ≥ 224) := by omega
    have x5 : ¬ ((b : Int) ≥ 240) := by omega
    go_enter Tryz.func54, Tryz.ntmps54
    go_wp2
    refine bodyPost_ret (v := .tuple #[.int .i64 (-1), .int .i64 1]) (by simp [results, Tryz.results54, go_sem]) rfl ⟨rfl, rfl⟩
  · have x1 : (b : Int) ≥ 194 := by omega
    have x2 : ¬ ((b : Int) ≤ 223) := by omega
    have x3 : (b : Int) ≥ 224 := by omega
    have x4 : ¬ ((b : Int) ≤ 239) := by omega
    have x5 : (b : Int) ≥ 240 := by omega
    have x6 : ¬ ((b : Int) ≤ 244) := by omega
    go_enter Tryz.func54, Tryz.ntmps54
    go_wp2
    refine bodyPost_ret (v := .tuple #[.int .i64 (-1), .int .i64 1]) (by simp [results, Tryz.results54, go_sem]) rfl ⟨rfl, rfl⟩

/-- A control character. -/
def ctl (c : Int) : Bool := decide (c < 32) || (decide (127 ≤ c) && decide (c ≤ 159))
def ends (c : Int) : Bool := (c == 9) || ((c == 10) || ((c == 12) || (c == 13)))
/-- Which characters may stand in a text: of several lines, or of one. -/
def chB (long : Bool) (c : Int) : Bool := if c < 0 then false else if ctl c = true then long && ends c else long || (c != 92)

set_option maxRecDepth 100000 in
set_option maxHeartbeats 2000000 in
theorem char_12 (w : World) (c : Int) : Calls Tryz.prog 55 #[.int .i64 12, .int .i64 c] w fun e w' => e = .returned (.bool (chB true c)) ∧ w = w' := by
  unfold chB ctl
  by_cases h0 : c < 0
  · rw [if_pos h0]
    go_enter Tryz.func55, Tryz.ntmps55
    go_wp2
    go_ret
    exact ⟨rfl, rfl⟩
  rw [if_neg h0]
  by_cases h1 : c < 32
  · rw [if_pos (by rw [decide_eq_true h1]; rfl)]
    unfold ends
    rw [Bool.true_and]
    by_cases k9 : c = 9
    · subst k9
      go_enter Tryz.func55, Tryz.ntmps55
      go_wp2
      go_ret
      exact ⟨rfl, rfl⟩
    · have e9 : (c == 9) = false := beq_eq_false_iff_ne.2 k9
      by_cases k10 : c = 10
      · subst k10
        go_enter Tryz.func55, Tryz.ntmps55
        go_wp2
        go_ret
        exact ⟨rfl, rfl⟩
      · have e10 : (c == 10) = false := beq_eq_false_iff_ne.2 k10
        by_cases k12 : c = 12
        · subst k12
          go_enter Tryz.func55, Tryz.ntmps55
          go_wp2
          go_ret
          exact ⟨rfl, rfl⟩
        · have e12 : (c == 12) = false := beq_eq_false_iff_ne.2 k12
          rw [e9, e10, e12]
          go_enter Tryz.func55, Tryz.ntmps55
          go_wp2
          go_ret
          exact ⟨rfl, rfl⟩
  · by_cases h2 : 127 ≤ c ∧ c ≤ 159
    · rw [if_pos (by rw [decide_eq_true h2.1, decide_eq_true h2.2]; simp)]
      have i1 : c ≥ 127 := h2.1
      have i2 : c ≤ 159 := h2.2
      unfold ends
      rw [Bool.true_and]
      by_cases k9 : c = 9
      · subst k9
        go_enter Tryz.func55, Tryz.ntmps55
        go_wp2
        go_ret
        exact ⟨rfl, rfl⟩
      · have e9 : (c == 9) = false := beq_eq_false_iff_ne.2 k9
        by_cases k10 : c = 10
        · subst k10
          go_enter Tryz.func55, Tryz.ntmps55
          go_wp2
          go_ret
          exact ⟨rfl, rfl⟩
        · have e10 : (c == 10) = false := beq_eq_false_iff_ne.2 k10
          by_cases k12 : c = 12
          · subst k12
            go_enter Tryz.func55, Tryz.ntmps55
            go_wp2
            go_ret
            exact ⟨rfl, rfl⟩
          · have e12 : (c == 12) = false := beq_eq_false_iff_ne.2 k12
            rw [e9, e10, e12]
            go_enter Tryz.func55, Tryz.ntmps55
            go_wp2
            go_ret
            exact ⟨rfl, rfl⟩
    · rw [if_neg (by simp; omega)]
      by_cases h3 : c ≥ 127
      · have i2 : ¬ (c ≤ 159) := by omega
        rw [Bool.true_or]
        by_cases k92 : c = 92
        · subst k92
          go_enter Tryz.func55, Tryz.ntmps55
          go_wp2
          go_ret
          exact ⟨rfl, rfl⟩
        · have e92 : (c != 92) = true := by simp; omega
          go_enter Tryz.func55, Tryz.ntmps55
          go_wp2
          go_ret
          exact ⟨rfl, rfl⟩
      · have i2 : ¬ (c ≥ 127) := h3
        rw [Bool.true_or]
        by_cases k92 : c = 92
        · subst k92
          go_enter Tryz.func55, Tryz.ntmps55
          go_wp2
          go_ret
          exact ⟨rfl, rfl⟩
        · have e92 : (c != 92) = true := by simp; omega
          go_enter Tryz.func55, Tryz.ntmps55
          go_wp2
          go_ret
          exact ⟨rfl, rfl⟩
set_option maxRecDepth 100000 in
set_option maxHeartbeats 2000000 in
theorem char_20 (w : World) (c : Int) : Calls Tryz.prog 55 #[.int .i64 20, .int .i64 c] w fun e w' => e = .returned (.bool (chB true c)) ∧ w = w' := by
  unfold chB ctl
  by_cases h0 : c < 0
  · rw [if_pos h0]
    go_enter Tryz.func55, Tryz.ntmps55
    go_wp2
    go_ret
    exact ⟨rfl, rfl⟩
  rw [if_neg h0]
  by_cases h1 : c < 32
  · rw [if_pos (by rw [decide_eq_true h1]; rfl)]
    unfold ends
    rw [Bool.true_and]
    by_cases k9 : c = 9
    · subst k9
      go_enter Tryz.func55, Tryz.ntmps55
      go_wp2
      go_ret
      exact ⟨rfl, rfl⟩
    · have e9 : (c == 9) = false := beq_eq_false_iff_ne.2 k9
      by_cases k10 : c = 10
      · subst k10
        go_enter Tryz.func55, Tryz.ntmps55
        go_wp2
        go_ret
        exact ⟨rfl, rfl⟩
      · have e10 : (c == 10) = false := beq_eq_false_iff_ne.2 k10
        by_cases k12 : c = 12
        · subst k12
          go_enter Tryz.func55, Tryz.ntmps55
          go_wp2
          go_ret
          exact ⟨rfl, rfl⟩
        · have e12 : (c == 12) = false := beq_eq_false_iff_ne.2 k12
          rw [e9, e10, e12]
          go_enter Tryz.func55, Tryz.ntmps55
          go_wp2
          go_ret
          exact ⟨rfl, rfl⟩
  · by_cases h2 : 127 ≤ c ∧ c ≤ 159
    · rw [if_pos (by rw [decide_eq_true h2.1, decide_eq_true h2.2]; simp)]
      have i1 : c ≥ 127 := h2.1
      have i2 : c ≤ 159 := h2.2
      unfold ends
      rw [Bool.true_and]
      by_cases k9 : c = 9
      · subst k9
        go_enter Tryz.func55, Tryz.ntmps55
        go_wp2
        go_ret
        exact ⟨rfl, rfl⟩
      · have e9 : (c == 9) = false := beq_eq_false_iff_ne.2 k9
        by_cases k10 : c = 10
        · subst k10
          go_enter Tryz.func55, Tryz.ntmps55
          go_wp2
          go_ret
          exact ⟨rfl, rfl⟩
        · have e10 : (c == 10) = false := beq_eq_false_iff_ne.2 k10
          by_cases k12 : c = 12
          · subst k12
            go_enter Tryz.func55, Tryz.ntmps55
            go_wp2
            go_ret
            exact ⟨rfl, rfl⟩
          · have e12 : (c == 12) = false := beq_eq_false_iff_ne.2 k12
            rw [e9, e10, e12]
            go_enter Tryz.func55, Tryz.ntmps55
            go_wp2
            go_ret
            exact ⟨rfl, rfl⟩
    · rw [if_neg (by simp; omega)]
      by_cases h3 : c ≥ 127
      · have i2 : ¬ (c ≤ 159) := by omega
        rw [Bool.true_or]
        by_cases k92 : c = 92
        · subst k92
          go_enter Tryz.func55, Tryz.ntmps55
          go_wp2
          go_ret
          exact ⟨rfl, rfl⟩
        · have e92 : (c != 92) = true := by simp; omega
          go_enter Tryz.func55, Tryz.ntmps55
          go_wp2
          go_ret
          exact ⟨rfl, rfl⟩
      · have i2 : ¬ (c ≥ 127) := h3
        rw [Bool.true_or]
        by_cases k92 : c = 92
        · subst k92
          go_enter Tryz.func55, Tryz.ntmps55
          go_wp2
          go_ret
          exact ⟨rfl, rfl⟩
        · have e92 : (c != 92) = true := by simp; omega
          go_enter Tryz.func55, Tryz.ntmps55
          go_wp2
          go_ret
          exact ⟨rfl, rfl⟩
set_option maxRecDepth 100000 in
set_option maxHeartbeats 2000000 in
theorem char_28 (w : World) (c : Int) : Calls Tryz.prog 55 #[.int .i64 28, .int .i64 c] w fun e w' => e = .returned (.bool (chB true c)) ∧ w = w' := by
  unfold chB ctl
  by_cases h0 : c < 0
  · rw [if_pos h0]
    go_enter Tryz.func55, Tryz.ntmps55
    go_wp2
    go_ret
    exact ⟨rfl, rfl⟩
  rw [if_neg h0]
  by_cases h1 : c < 32
  · rw [if_pos (by rw [decide_eq_true h1]; rfl)]
    unfold ends
    rw [Bool.true_and]
    by_cases k9 : c = 9
    · subst k9
      go_enter Tryz.func55, Tryz.ntmps55
      go_wp2
      go_ret
      exact ⟨rfl, rfl⟩
    · have e9 : (c == 9) = false := beq_eq_false_iff_ne.2 k9
      by_cases k10 : c = 10
      · subst k10
        go_enter Tryz.func55, Tryz.ntmps55
        go_wp2
        go_ret
        exact ⟨rfl, rfl⟩
      · have e10 : (c == 10) = false := beq_eq_false_iff_ne.2 k10
        by_cases k12 : c = 12
        · subst k12
          go_enter Tryz.func55, Tryz.ntmps55
          go_wp2
          go_ret
          exact ⟨rfl, rfl⟩
        · have e12 : (c == 12) = false := beq_eq_false_iff_ne.2 k12
          rw [e9, e10, e12]
          go_enter Tryz.func55, Tryz.ntmps55
          go_wp2
          go_ret
          exact ⟨rfl, rfl⟩
  · by_cases h2 : 127 ≤ c ∧ c ≤ 159
    · rw [if_pos (by rw [decide_eq_true h2.1, decide_eq_true h2.2]; simp)]
      have i1 : c ≥ 127 := h2.1
      have i2 : c ≤ 159 := h2.2
      unfold ends
      rw [Bool.true_and]
      by_cases k9 : c = 9
      · subst k9
        go_enter Tryz.func55, Tryz.ntmps55
        go_wp2
        go_ret
        exact ⟨rfl, rfl⟩
      · have e9 : (c == 9) = false := beq_eq_false_iff_ne.2 k9
        by_cases k10 : c = 10
        · subst k10
          go_enter Tryz.func55, Tryz.ntmps55
          go_wp2
          go_ret
          exact ⟨rfl, rfl⟩
        · have e10 : (c == 10) = false := beq_eq_false_iff_ne.2 k10
          by_cases k12 : c = 12
          · subst k12
            go_enter Tryz.func55, Tryz.ntmps55
            go_wp2
            go_ret
            exact ⟨rfl, rfl⟩
          · have e12 : (c == 12) = false := beq_eq_false_iff_ne.2 k12
            rw [e9, e10, e12]
            go_enter Tryz.func55, Tryz.ntmps55
            go_wp2
            go_ret
            exact ⟨rfl, rfl⟩
    · rw [if_neg (by simp; omega)]
      by_cases h3 : c ≥ 127
      · have i2 : ¬ (c ≤ 159) := by omega
        rw [Bool.true_or]
        by_cases k92 : c = 92
        · subst k92
          go_enter Tryz.func55, Tryz.ntmps55
          go_wp2
          go_ret
          exact ⟨rfl, rfl⟩
        · have e92 : (c != 92) = true := by simp; omega
          go_enter Tryz.func55, Tryz.ntmps55
          go_wp2
          go_ret
          exact ⟨rfl, rfl⟩
      · have i2 : ¬ (c ≥ 127) := h3
        rw [Bool.true_or]
        by_cases k92 : c = 92
        · subst k92
          go_enter Tryz.func55, Tryz.ntmps55
          go_wp2
          go_ret
          exact ⟨rfl, rfl⟩
        · have e92 : (c != 92) = true := by simp; omega
          go_enter Tryz.func55, Tryz.ntmps55
          go_wp2
          go_ret
          exact ⟨rfl, rfl⟩
set_option maxRecDepth 100000 in
set_option maxHeartbeats 2000000 in
theorem char_else (w : World) (v : Int) (h : v ≠ 12 ∧ v ≠ 20 ∧ v ≠ 28) (c : Int) : Calls Tryz.prog 55 #[.int .i64 v, .int .i64 c] w fun e w' => e = .returned (.bool (chB false c)) ∧ w = w' := by
  have e12 : (v == 12) = false := beq_eq_false_iff_ne.2 h.1
  have e20 : (v == 20) = false := beq_eq_false_iff_ne.2 h.2.1
  have e28 : (v == 28) = false := beq_eq_false_iff_ne.2 h.2.2
  clear h
  unfold chB ctl
  by_cases h0 : c < 0
  · rw [if_pos h0]
    go_enter Tryz.func55, Tryz.ntmps55
    go_wp2
    go_ret
    exact ⟨rfl, rfl⟩
  rw [if_neg h0]
  by_cases h1 : c < 32
  · rw [if_pos (by rw [decide_eq_true h1]; rfl)]
    rw [Bool.false_and]
    go_enter Tryz.func55, Tryz.ntmps55
    go_wp2
    go_ret
    exact ⟨rfl, rfl⟩
  · by_cases h2 : 127 ≤ c ∧ c ≤ 159
    · rw [if_pos (by rw [decide_eq_true h2.1, decide_eq_true h2.2]; simp)]
      have i1 : c ≥ 127 := h2.1
      have i2 : c ≤ 159 := h2.2
      rw [Bool.false_and]
      go_enter Tryz.func55, Tryz.ntmps55
      go_wp2
      go_ret
      exact ⟨rfl, rfl⟩
    · rw [if_neg (by simp; omega)]
      by_cases h3 : c ≥ 127
      · have i2 : ¬ (c ≤ 159) := by omega
        rw [Bool.false_or]
        by_cases k92 : c = 92
        · subst k92
          go_enter Tryz.func55, Tryz.ntmps55
          go_wp2
          go_ret
          exact ⟨rfl, rfl⟩
        · have e92 : (c != 92) = true := by simp; omega
          rw [e92]
          go_enter Tryz.func55, Tryz.ntmps55
          go_wp2
          go_ret
          exact ⟨rfl, rfl⟩
      · have i2 : ¬ (c ≥ 127) := h3
        rw [Bool.false_or]
        by_cases k92 : c = 92
        · subst k92
          go_enter Tryz.func55, Tryz.ntmps55
          go_wp2
          go_ret
          exact ⟨rfl, rfl⟩
        · have e92 : (c != 92) = true := by simp; omega
          rw [e92]
          go_enter Tryz.func55, Tryz.ntmps55
          go_wp2
          go_ret
          exact ⟨rfl, rfl⟩
set_option maxRecDepth 100000 in
theorem plain_4 (w : World) (c : Nat) : Calls Tryz.prog 56 #[.int .i64 4, .int .u8 (c : Int)] w fun e w' => e = .returned (.bool (plB 4 c)) ∧ w = w' := by
  show Calls Tryz.prog 56 #[.int .i64 4, .int .u8 (c : Int)] w fun e w' => e = .returned (.bool (dg c || ((decide (65 ≤ c) && decide (c ≤ 90)) || amB c [32, 95]))) ∧ w = w'
  have c1 := rdigit_any w c
  have c2 : Calls Tryz.prog 88 #[.int .u8 (c : Int), .string ⟨#[32, 95]⟩] w fun e w' => e = .returned (.bool (amB c [32, 95])) ∧ w = w' := among_any w c ⟨#[32, 95]⟩ (by decide)
  generalize amB c [32, 95] = Z at *
  cases hd : dg c with
  | true =>
    rw [hd] at c1
    rw [Bool.true_or]
    clear c2
    go_enter Tryz.func56, Tryz.ntmps56
    go_wp2_with (go_at_call 87; refine Stop.mk ?_)
    refine Stop.out (c1.mono ?_)
    rintro e W1 ⟨rfl, rfl⟩
    go_wp2
    go_ret
    exact ⟨rfl, rfl⟩
  | false =>
    rw [hd] at c1
    rw [Bool.false_or]
    by_cases h1 : 65 ≤ c
    · have i1 : (c : Int) ≥ 65 := by omega
      rw [decide_eq_true h1, Bool.true_and]
      by_cases h2 : c ≤ 90
      · have i2 : (c : Int) ≤ 90 := by omega
        rw [decide_eq_true h2, Bool.true_or]
        clear c2
        go_enter Tryz.func56, Tryz.ntmps56
        go_wp2_with (go_at_call 87; refine Stop.mk ?_)
        refine Stop.out (c1.mono ?_)
        rintro e W1 ⟨rfl, rfl⟩
        go_wp2
        go_ret
        exact ⟨rfl, rfl⟩
      · have i2 : ¬ ((c : Int) ≤ 90) := by omega
        rw [decide_eq_false h2, Bool.false_or]
        go_enter Tryz.func56, Tryz.ntmps56
        go_wp2_with (go_at_call 87; refine Stop.mk ?_)
        refine Stop.out (c1.mono ?_)
        rintro e W1 ⟨rfl, rfl⟩
        go_wp2_with (go_at_call 88; refine Stop.mk ?_)
        refine Stop.out (c2.mono ?_)
        rintro e W1 ⟨rfl, rfl⟩
        go_wp2
        go_ret
        exact ⟨by show Ending.returned (.bool (decide ((c : Int) ≤ 90) || Z)) = _; rw [decide_eq_false (by omega), Bool.false_or], rfl⟩
    · have i1 : ¬ ((c : Int) ≥ 65) := by omega
      rw [decide_eq_false h1, Bool.false_and, Bool.false_or]
      go_enter Tryz.func56, Tryz.ntmps56
      go_wp2_with (go_at_call 87; refine Stop.mk ?_)
      refine Stop.out (c1.mono ?_)
      rintro e W1 ⟨rfl, rfl⟩
      go_wp2_with (go_at_call 88; refine Stop.mk ?_)
      refine Stop.out (c2.mono ?_)
      rintro e W1 ⟨rfl, rfl⟩
      go_wp2
      go_ret
      exact ⟨rfl, rfl⟩
end Go.Proofs.YtdggplhkeekdjaaGreatDoor.Ck

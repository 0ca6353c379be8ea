import Derived.Test.YtegfgbcimlacbaaGreatDoorPl
/-
  DERIVED. The document's small functions of Decode: Control, Ends, Stands below A0.
-/
namespace Go.Proofs.YtegfgbcimlacbaaGreatDoor
open Go Go.Proofs Go.RowKit

def ctlS (k : Int) (b : Nat) : Bool := decide (k = 0) && (b == 9 || b == 10 || b == 12 || b == 13)
def endS (k : Int) (b : Nat) : Bool := if k = 0 then ctlS 0 b else if k = 2 then (b == 92 || b == 94 || b == 61) else b == 92

set_option maxRecDepth 100000 in
theorem ctl_any (w : World) (k : Int) (b : Nat) : Calls Tryz.prog 20 #[.int .i64 k, .int .u8 (b : Int)] w fun e w' => e = .returned (.bool (ctlS k b)) ∧ w = w' := by
  by_cases hk : k = 0
  · subst hk
    rcases (show b = 9 ∨ b = 10 ∨ b = 12 ∨ b = 13 ∨ (¬ b = 9 ∧ ¬ b = 10 ∧ ¬ b = 12 ∧ ¬ b = 13) by omega) with rfl | rfl | rfl | rfl | ⟨h1, h2, h3, h4⟩
    case inr.inr.inr.inr =>
      have e : ctlS 0 b = false := by simp [ctlS, h1, h2, h3, h4]
      rw [e]
      have d1 : ¬ (b : Int) = 9 := by omega
      have d2 : ¬ (b : Int) = 10 := by omega
      have d3 : ¬ (b : Int) = 12 := by omega
      have d4 : ¬ (b : Int) = 13 := by omega
      clear e h1 h2 h3 h4
      go_enter Tryz.func20, Tryz.ntmps20
      go_wp2
      go_ret
      exact ⟨by simp_all, rfl⟩
    all_goals (
      go_enter Tryz.func20, Tryz.ntmps20
      go_wp2
      go_ret
      exact ⟨rfl, rfl⟩)
  · have e : ctlS k b = false := by simp [ctlS, hk]
    rw [e]
    have d : decide (k = 0) = false := by simp [hk]
    clear e
    go_enter Tryz.func20, Tryz.ntmps20
    go_wp2
    go_ret
    exact ⟨by simp_all, rfl⟩

set_option maxRecDepth 100000 in
theorem rends_any (w : World) (k : Int) (b : Nat) : Calls Tryz.prog 21 #[.int .i64 k, .int .u8 (b : Int)] w fun e w' => e = .returned (.bool (endS k b)) ∧ w = w' := by
  by_cases hk : k = 0
  · subst hk
    rw [show endS 0 b = ctlS 0 b from by simp [endS]]
    have hc := ctl_any w 0 b
    go_enter Tryz.func21, Tryz.ntmps21
    go_wp2_with (first | (go_at_call 20; refine hc.mono ?_; rintro e w' ⟨rfl, rfl⟩) | fail)
    go_ret
    exact ⟨rfl, rfl⟩
  · have d : decide (k = 0) = false := by simp [hk]
    by_cases hk2 : k = 2
    · subst hk2
      clear hk
      rcases (show b = 92 ∨ b = 94 ∨ b = 61 ∨ (¬ b = 92 ∧ ¬ b = 94 ∧ ¬ b = 61) by omega) with rfl | rfl | rfl | ⟨h1, h2, h3⟩
      case inr.inr.inr =>
        have e : endS 2 b = false := by simp [endS, h1, h2, h3]
        rw [e]
        have d1 : ¬ (b : Int) = 92 := by omega
        have d2 : ¬ (b : Int) = 94 := by omega
        have d3 : ¬ (b : Int) = 61 := by omega
        clear e h1 h2 h3
        go_enter Tryz.func21, Tryz.ntmps21
        go_wp2
        go_ret
        exact ⟨by simp_all, rfl⟩
      all_goals (
        go_enter Tryz.func21, Tryz.ntmps21
        go_wp2
        go_ret
        exact ⟨rfl, rfl⟩)
    · have d2 : decide (k = 2) = false := by simp [hk2]
      have e : endS k b = (b == 92) := by simp [endS, hk, hk2]
      rw [e]
      clear e
      by_cases h1 : b = 92
      · subst h1
        go_enter Tryz.func21, Tryz.ntmps21
        go_wp2
        go_ret
        exact ⟨rfl, rfl⟩
      · have d1 : ¬ (b : Int) = 92 := by omega
        rw [show (b == 92) = false from by simp [h1]]
        go_enter Tryz.func21, Tryz.ntmps21
        go_wp2
        go_ret
        exact ⟨by simp_all, rfl⟩

set_option maxRecDepth 100000 in
theorem stands_low (w : World) (rep : Int) (b : Nat) (hb : b < 160) : Calls Tryz.prog 41 #[.int .i64 rep, .int .u8 (b : Int)] w fun e w' => e = .returned (.int .i32 0) ∧ w = w' := by
  have h1 : decide ((b : Int) < 160) = true := by simp; omega
  go_enter Tryz.func41, Tryz.ntmps41
  go_wp2
  go_ret
  exact ⟨rfl, rfl⟩

end Go.Proofs.YtegfgbcimlacbaaGreatDoor

/-
  DERIVED. The document's bytes of a rune.
-/
namespace Go.Proofs.YtegfgbcimlacbaaGreatDoor
open Go Go.Proofs Go.RowKit

/-- The document's bytes of a number below 2^21. -/
def docZ (r : Int) : List Int :=
  if r < 128 then [r]
  else if r < 2048 then [192 + r / 64, 128 + r % 64]
  else if r < 65536 then [224 + r / 4096, 128 + r / 64 % 64, 128 + r % 64]
  else [240 + r / 262144, 128 + r / 4096 % 64, 128 + r / 64 % 64, 128 + r % 64]

theorem docZ_two {r : Int} (h2 : 128 ≤ r) (h3 : r < 2048) : docZ r = [192 + r / 64, 128 + r % 64] := by
  unfold docZ
  rw [if_neg (show ¬ r < 128 by omega), if_pos h3]
theorem docZ_three {r : Int} (h2 : 2048 ≤ r) (h3 : r < 65536) : docZ r = [224 + r / 4096, 128 + r / 64 % 64, 128 + r % 64] := by
  unfold docZ
  rw [if_neg (show ¬ r < 128 by omega), if_neg (show ¬ r < 2048 by omega), if_pos h3]
theorem docZ_four {r : Int} (h2 : 65536 ≤ r) : docZ r = [240 + r / 262144, 128 + r / 4096 % 64, 128 + r / 64 % 64, 128 + r % 64] := by
  unfold docZ
  rw [if_neg (show ¬ r < 128 by omega), if_neg (show ¬ r < 2048 by omega), if_neg (show ¬ r < 65536 by omega)]

set_option maxRecDepth 100000 in
theorem rutf8_any (w : World) (r : Int) (h0 : 0 ≤ r) (h1 : r < 2097152) : Calls Tryz.prog 39 #[.int .i32 r] w fun e w' => e = .returned (.slice (some ⟨w.heap.size, 0, none⟩) (docZ r).length (docZ r).length) ∧ w' = w.alloc (.cells (cellsZ (docZ r)).toArray 5) := by
  rcases (show r < 128 ∨ (128 ≤ r ∧ r < 2048) ∨ (2048 ≤ r ∧ r < 65536) ∨ 65536 ≤ r by omega) with h2 | ⟨h2, h3⟩ | ⟨h2, h3⟩ | h2
  · rw [show docZ r = [r] by simp [docZ, h2]]
    have d1 : decide (r < 128) = true := by simp; omega
    go_enter Tryz.func39, Tryz.ntmps39
    go_wp2
    go_ret
    exact ⟨rfl, rfl⟩
  · rw [show docZ r = [192 + r / 64, 128 + r % 64] from docZ_two h2 h3]
    have d1 : decide (r < 128) = false := by simp; omega
    have d2 : decide (r < 2048) = true := by simp; omega
    go_enter Tryz.func39, Tryz.ntmps39
    go_wp2
    go_ret
    exact ⟨rfl, rfl⟩
  · rw [show docZ r = [224 + r / 4096, 128 + r / 64 % 64, 128 + r % 64] from docZ_three h2 h3]
    have d1 : decide (r < 128) = false := by simp; omega
    have d2 : decide (r < 2048) = false := by simp; omega
    have d3 : decide (r < 65536) = true := by simp; omega
    go_enter Tryz.func39, Tryz.ntmps39
    go_wp2
    go_ret
    exact ⟨rfl, rfl⟩
  · rw [show docZ r = [240 + r / 262144, 128 + r / 4096 % 64, 128 + r / 64 % 64, 128 + r % 64] from docZ_four h2]
    have d1 : decide (r < 128) = false := by simp; omega
    have d2 : decide (r < 2048) = false := by simp; omega
    have d3 : decide (r < 65536) = false := by simp; omega
    go_enter Tryz.func39, Tryz.ntmps39
    go_wp2
    go_ret
    exact ⟨rfl, rfl⟩

theorem docZ_wide {r : Int} (h0 : 0 ≤ r) (h1 : r ≤ 1114111) (hs : r < 55296 ∨ 57343 < r) : docZ r = Lib.encodeRuneZ r := by
  unfold Lib.encodeRuneZ
  rcases (show r < 128 ∨ (128 ≤ r ∧ r < 2048) ∨ (2048 ≤ r ∧ r < 65536) ∨ 65536 ≤ r by omega) with h2 | ⟨h2, h3⟩ | ⟨h2, h3⟩ | h2
  · rw [if_pos (show 0 ≤ r ∧ r ≤ 127 by omega)]
    simp [docZ, h2]
  · rw [if_neg (show ¬ (0 ≤ r ∧ r ≤ 127) by omega), if_pos (show 128 ≤ r ∧ r ≤ 2047 by omega), docZ_two h2 h3]
  · rw [if_neg (show ¬ (0 ≤ r ∧ r ≤ 127) by omega), if_neg (show ¬ (128 ≤ r ∧ r ≤ 2047) by omega), if_pos (show (2048 ≤ r ∧ r < 55296) ∨ (57343 < r ∧ r ≤ 65535) by omega), docZ_three h2 h3]
  · rw [if_neg (show ¬ (0 ≤ r ∧ r ≤ 127) by omega), if_neg (show ¬ (128 ≤ r ∧ r ≤ 2047) by omega), if_neg (show ¬ ((2048 ≤ r ∧ r < 55296) ∨ (57343 < r ∧ r ≤ 65535)) by omega), if_pos (show 65536 ≤ r ∧ r ≤ 1114111 by omega), docZ_four h2]
end Go.Proofs.YtegfgbcimlacbaaGreatDoor

/-
  DERIVED. The document's last byte of an escape.
-/
namespace Go.Proofs.YtegfgbcimlacbaaGreatDoor
open Go Go.Proofs Go.RowKit

/-- The last byte of the escape of a repertoire, by its place in the list of the repertoires. -/
def finN : Nat → Nat
  | 1 => 65
  | 2 => 66
  | 3 => 70
  | 4 => 76
  | 5 => 77
  | _ => 77

set_option maxRecDepth 100000 in
theorem final_any (w : World) (k : Nat) (hk : k < 7) : Calls Tryz.prog 23 #[.int .i64 (repN k : Nat)] w fun e w' => e = .returned (.int .u8 (finN k : Nat)) ∧ w = w' := by
  have h : k = 0 ∨ k = 1 ∨ k = 2 ∨ k = 3 ∨ k = 4 ∨ k = 5 ∨ k = 6 := by omega
  rcases h with rfl | rfl | rfl | rfl | rfl | rfl | rfl
  all_goals simp only [repN, finN]
  all_goals go_enter Tryz.func23, Tryz.ntmps23
  all_goals go_wp2
  all_goals go_ret
  all_goals exact ⟨rfl, rfl⟩
end Go.Proofs.YtegfgbcimlacbaaGreatDoor

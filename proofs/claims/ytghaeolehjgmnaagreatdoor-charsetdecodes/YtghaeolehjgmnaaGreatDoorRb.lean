import Derived.Test.YtghaeolehjgmnaaGreatDoorRa
/-
  DERIVED. The document's bytes of a rune.
-/
namespace Go.Proofs.YtghaeolehjgmnaaGreatDoor
open Go Go.Proofs Go.RowKit

/-- The document's bytes of a number below 2^21. -/
def docZ (r : Int) : List Int :=
  if r < 128 then [r]
  else if r < 2048 then [192 + r / 64, 128 + r % 64]
  else if r < 65536 then [224 + r / 4096, 128 + r / 64 % 64, 128 + r % 64]
  else [240 + r / 262144, 128 + r / 4096 % 64, 128 + r / 64 % 64, 128 + r % 64]

theorem docZ_two {r : Int} (h2 : 128 ≤ r) (h3 : r < 2048) : docZ r = [192 + r / 64, 128 + r % 64] := by
  unfold docZ
  rw [if_neg (show ¬ r < 128 by omega), if_pos h3]
theorem docZ_three {r : Int} (h2 : 2048 ≤ r) (h3 : r < 65536) : docZ r = [224 + r / 4096, 128 + r / 64 % 64, 128 + r % 64] := by
  unfold docZ
  rw [if_neg (show ¬ r < 128 by omega), if_neg (show ¬ r < 2048 by omega), if_pos h3]
theorem docZ_four {r : Int} (h2 : 65536 ≤ r) : docZ r = [240 + r / 262144, 128 + r / 4096 % 64, 128 + r / 64 % 64, 128 + r % 64] := by
  unfold docZ
  rw [if_neg (show ¬ r < 128 by omega), if_neg (show ¬ r < 2048 by omega), if_neg (show ¬ r < 65536 by omega)]

set_option maxRecDepth 100000 in
theorem rutf8_any (w : World) (r : Int) (h0 : 0 ≤ r) (h1 : r < 2097152) : Calls Tryz.prog 23 #[.int .i32 r] w fun e w' => e = .returned (.slice (some ⟨w.heap.size, 0, none⟩) (docZ r).length (docZ r).length) ∧ w' = w.alloc (.cells (cellsZ (docZ r)).toArray 5) := by
  rcases (show r < 128 ∨ (128 ≤ r ∧ r < 2048) ∨ (2048 ≤ r ∧ r < 65536) ∨ 65536 ≤ r by omega) with h2 | ⟨h2, h3⟩ | ⟨h2, h3⟩ | h2
  · rw [show docZ r = [r] by simp [docZ, h2]]
    have d1 : decide (r < 128) = true := by simp; omega
    go_enter Tryz.func23, Tryz.ntmps23
    go_wp2
    go_ret
    exact ⟨rfl, rfl⟩
  · rw [show docZ r = [192 + r / 64, 128 + r % 64] from docZ_two h2 h3]
    have d1 : decide (r < 128) = false := by simp; omega
    have d2 : decide (r < 2048) = true := by simp; omega
    go_enter Tryz.func23, Tryz.ntmps23
    go_wp2
    go_ret
    exact ⟨rfl, rfl⟩
  · rw [show docZ r = [224 + r / 4096, 128 + r / 64 % 64, 128 + r % 64] from docZ_three h2 h3]
    have d1 : decide (r < 128) = false := by simp; omega
    have d2 : decide (r < 2048) = false := by simp; omega
    have d3 : decide (r < 65536) = true := by simp; omega
    go_enter Tryz.func23, Tryz.ntmps23
    go_wp2
    go_ret
    exact ⟨rfl, rfl⟩
  · rw [show docZ r = [240 + r / 262144, 128 + r / 4096 % 64, 128 + r / 64 % 64, 128 + r % 64] from docZ_four h2]
    have d1 : decide (r < 128) = false := by simp; omega
    have d2 : decide (r < 2048) = false := by simp; omega
    have d3 : decide (r < 65536) = false := by simp; omega
    go_enter Tryz.func23, Tryz.ntmps23
    go_wp2
    go_ret
    exact ⟨rfl, rfl⟩

theorem docZ_wide {r : Int} (h0 : 0 ≤ r) (h1 : r ≤ 1114111) (hs : r < 55296 ∨ 57343 < r) : docZ r = Lib.encodeRuneZ r := by
  unfold Lib.encodeRuneZ
  rcases (show r < 128 ∨ (128 ≤ r ∧ r < 2048) ∨ (2048 ≤ r ∧ r < 65536) ∨ 65536 ≤ r by omega) with h2 | ⟨h2, h3⟩ | ⟨h2, h3⟩ | h2
  · rw [if_pos (show 0 ≤ r ∧ r ≤ 127 by omega)]
    simp [docZ, h2]
  · rw [if_neg (show ¬ (0 ≤ r ∧ r ≤ 127) by omega), if_pos (show 128 ≤ r ∧ r ≤ 2047 by omega), docZ_two h2 h3]
  · rw [if_neg (show ¬ (0 ≤ r ∧ r ≤ 127) by omega), if_neg (show ¬ (128 ≤ r ∧ r ≤ 2047) by omega), if_pos (show (2048 ≤ r ∧ r < 55296) ∨ (57343 < r ∧ r ≤ 65535) by omega), docZ_three h2 h3]
  · rw [if_neg (show ¬ (0 ≤ r ∧ r ≤ 127) by omega), if_neg (show ¬ (128 ≤ r ∧ r ≤ 2047) by omega), if_neg (show ¬ ((2048 ≤ r ∧ r < 55296) ∨ (57343 < r ∧ r ≤ 65535)) by omega), if_pos (show 65536 ≤ r ∧ r ≤ 1114111 by omega), docZ_four h2]
end Go.Proofs.YtghaeolehjgmnaaGreatDoor

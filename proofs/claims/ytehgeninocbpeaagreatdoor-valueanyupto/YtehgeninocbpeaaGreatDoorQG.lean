import Derived.Test.YtehgeninocbpeaaGreatDoorQC
import Derived.Lib.OthersKept
/-
  DERIVED. A text, read digit by digit.
-/
namespace Go.Proofs.YtehgeninocbpeaaGreatDoor.Tm
open Go Go.Proofs Go.RowKit

theorem get_get! (s : ByteArray) (pos : Nat) (h : pos < s.size) : s[pos] = s.get! pos := by
  simp [ByteArray.get!, getElem!_pos, h]
  rfl

/-- The reader in memory: the text, the place, whether it is broken; all else is whatever it is. -/
structure Cur (w : World) (q : Nat) (f : Nat → Value) (s : ByteArray) (a : Nat) (b : Bool) : Prop where
  row : w.rowIs q 179 15 f
  c0 : f 0 = .string s
  c1 : f 1 = .int .i64 (a : Int)
  c2 : f 2 = .bool b
theorem Cur.cells {w : World} {q : Nat} {f : Nat → Value} {s : ByteArray} {a : Nat} {b : Bool} (h : Cur w q f s a b) :
    w.cell? ⟨q, 0, none⟩ = some (.string s) ∧ w.cell? ⟨q, 1, none⟩ = some (.int .i64 (a : Int)) ∧ w.cell? ⟨q, 2, none⟩ = some (.bool b) :=
  ⟨h.c0 ▸ h.row.cell (i := 0) (by omega), h.c1 ▸ h.row.cell (i := 1) (by omega), h.c2 ▸ h.row.cell (i := 2) (by omega)⟩

/-- Is there a digit at hand? -/
def isD (s : ByteArray) (a : Nat) : Bool := decide (a < s.size) && (decide (48 ≤ (s.get! a).toNat) && decide ((s.get! a).toNat ≤ 57))

theorem isDigit_any (w : World) (b : Nat) : Calls Tryz.prog 155 #[.int .u8 (b : Int)] w fun e w' => e = .returned (.bool (decide (48 ≤ b) && decide (b ≤ 57))) ∧ w = w' := by
  by_cases h1 : 48 ≤ b
  · have a1 : (48 : Int) ≤ (b : Int) := by omega
    by_cases h2 : b ≤ 57
    · have a2 : (b : Int) ≤ 57 := by omega
      rw [decide_eq_true h1, decide_eq_true h2]
      go_enter Tryz.func155, Tryz.ntmps155
      go_wp2
      go_ret
      exact ⟨rfl, rfl⟩
    · have a2 : decide ((b : Int) ≤ 57) = false := by simp; omega
      rw [decide_eq_true h1, decide_eq_false h2]
      go_enter Tryz.func155, Tryz.ntmps155
      go_wp2
      go_ret
      exact ⟨rfl, rfl⟩
  · have a1 : decide ((48 : Int) ≤ (b : Int)) = false := by simp; omega
    rw [decide_eq_false h1, Bool.false_and]
    go_enter Tryz.func155, Tryz.ntmps155
    go_wp2
    go_ret
    exact ⟨rfl, rfl⟩

def nx (s : ByteArray) (a : Nat) (b : Bool) : Nat := if b = true ∨ ¬ a < s.size then 0 else (s.get! a).toNat

set_option maxRecDepth 100000 in
set_option maxHeartbeats 1000000 in
theorem next_any (w : World) (q : Nat) (f : Nat → Value) (s : ByteArray) (a : Nat) (b : Bool) (h : Cur w q f s a b) (ha : a ≤ s.size) :
    Calls Tryz.prog 101 #[.pointer (some ⟨q, 0, none⟩)] w fun e w' => e = .returned (.int .u8 (nx s a b : Nat)) ∧ ∃ n, w' = w.drewN n := by
  obtain ⟨q0, q1, q2⟩ := h.cells
  clear h
  unfold nx
  cases b with
  | true =>
    rw [if_pos (.inl rfl)]
    go_enter Tryz.func101, Tryz.ntmps101
    go_wp2
    go_quiet (fail)
    go_wp2
    go_ret
    exact ⟨rfl, _, rfl⟩
  | false =>
    by_cases hl : a < s.size
    · rw [if_neg (by simp; exact hl)]
      obtain ⟨c, hc⟩ : ∃ c, s[a].toNat = c := ⟨_, rfl⟩
      rw [show (s.get! a).toNat = c by rw [← hc, get_get! s a hl]]
      have e1 : ((a : Int) == (s.size : Int)) = false := by simp; omega
      have e2 : (a : Int) < (s.size : Int) := by omega
      go_enter Tryz.func101, Tryz.ntmps101
      go_wp2
      go_quiet (fail)
      go_wp2
      go_quiet (fail)
      go_wp2
      go_ret
      exact ⟨rfl, _, by rw [World.drewN_drewN]⟩
    · rw [if_pos (.inr hl)]
      obtain rfl : a = s.size := by omega
      go_enter Tryz.func101, Tryz.ntmps101
      go_wp2
      go_quiet (fail)
      go_wp2
      go_ret
      exact ⟨rfl, _, rfl⟩

theorem nx_digit (s : ByteArray) (a : Nat) (b : Bool) : (decide (48 ≤ nx s a b) && decide (nx s a b ≤ 57)) = (!b && isD s a) := by
  unfold nx isD
  cases b with
  | true => simp
  | false =>
    by_cases h : a < s.size
    · simp [h]
    · simp [h]

set_option maxRecDepth 100000 in
theorem onDigit_any (w : World) (q : Nat) (f : Nat → Value) (s : ByteArray) (a : Nat) (b : Bool) (h : Cur w q f s a b) (ha : a ≤ s.size) :
    Calls Tryz.prog 131 #[.pointer (some ⟨q, 0, none⟩)] w fun e w' => e = .returned (.bool (!b && isD s a)) ∧ ∃ n, w' = w.drewN n := by
  have c := next_any w q f s a b h ha
  have c86 := fun W => isDigit_any W (nx s a b)
  rw [nx_digit] at c86
  generalize nx s a b = x at *
  go_enter Tryz.func131, Tryz.ntmps131
  go_wp2_with (first | (go_at_call 101; refine c.mono ?_; rintro e w' ⟨rfl, n, rfl⟩) | (go_at_call 155; refine (c86 _).mono ?_; rintro e w' ⟨rfl, rfl⟩))
  go_ret
  exact ⟨rfl, _, rfl⟩
end Go.Proofs.YtehgeninocbpeaaGreatDoor.Tm

import Derived.Test.YtehgeninocbpeaaDoorProg
import Derived.WalkKit
import Derived.WalkSpells
import Derived.WalkLawsBesides
import Derived.Deep.QuietTactic
import Derived.BigQuiet
import Derived.BigRegion
import Derived.KernelRfl
import Derived.Deep.RegionWith
import Derived.Deep.LoopGhost
import Derived.WalkMore
/-
  DERIVED. The calendar: years and months, by the program.
-/
namespace Go.Proofs.YtehgeninocbpeaaDoor.Tm
open Go Go.Proofs Go.RowKit

def Stop (p : Prop) : Prop := p
theorem Stop.mk {p : Prop} (h : Stop p) : p := h
theorem Stop.out {p : Prop} (h : p) : Stop p := h

/-- Has a year a 29th of February? -/
def Lp (y : Nat) : Prop := y % 4 = 0 ∧ (y % 100 ≠ 0 ∨ y % 400 = 0)
instance (y : Nat) : Decidable (Lp y) := by unfold Lp; infer_instance

theorem dec_int (a b : Nat) : decide (a = b) = ((a : Int) == (b : Int)) := by rw [Bool.eq_iff_iff, decide_eq_true_eq, beq_iff_eq]; omega

set_option maxRecDepth 100000 in
theorem isLeap_any (w : World) (y : Nat) : Calls Tryd.prog 71 #[.int .i64 (y : Int)] w fun e w' => e = .returned (.bool (decide (Lp y))) ∧ w = w' := by
  by_cases h4 : y % 4 = 0
  · have a4 : ((y : Int) % 4 == 0) = true := by simp; omega
    by_cases h1 : y % 100 = 0
    · have e : decide (Lp y) = decide (y % 400 = 0) := by unfold Lp; simp [h4, h1]
      rw [e]
      have a1 : ((y : Int) % 100 == 0) = true := by simp; omega
      have a1' : (y : Int) % 100 = 0 := by omega
      have a0 : decide (y % 400 = 0) = ((y : Int) % 400 == 0) := by rw [Bool.eq_iff_iff, decide_eq_true_eq, beq_iff_eq]; omega
      rw [a0]
      clear a0 e
      go_enter Tryd.func71, Tryd.ntmps71
      go_wp2
      go_ret
      exact ⟨rfl, rfl⟩
    · have e : decide (Lp y) = true := by unfold Lp; simp [h4, h1]
      rw [e]
      have a1 : ((y : Int) % 100 == 0) = false := by simp; omega
      have a1' : ¬ ((y : Int) % 100 = 0) := by omega
      clear e
      go_enter Tryd.func71, Tryd.ntmps71
      go_wp2
      go_ret
      exact ⟨rfl, rfl⟩
  · have e : decide (Lp y) = false := by unfold Lp; simp [h4]
    rw [e]
    have a4 : ((y : Int) % 4 == 0) = false := by simp; omega
    clear e
    go_enter Tryd.func71, Tryd.ntmps71
    go_wp2
    go_ret
    exact ⟨rfl, rfl⟩

/-- How many days lie ahead of a year. -/
def dA (y : Nat) : Nat := 365 * (y - 1) + (y - 1) / 4 - (y - 1) / 100 + (y - 1) / 400
theorem div_up (z d : Nat) (hd : 0 < d) (h : (z + 1) % d = 0) : (z + 1) / d = z / d + 1 := by
  have h1 := Nat.div_add_mod (z + 1) d
  rw [h, Nat.add_zero] at h1
  have h2 : z + 1 = d * ((z + 1) / d) := h1.symm
  generalize (z + 1) / d = q at *
  obtain ⟨p, rfl⟩ : ∃ p, q = p + 1 := ⟨q - 1, by
    rcases Nat.eq_zero_or_pos q with h | h
    · subst h; omega
    · omega⟩
  have h3 : z = d * p + (d - 1) := by rw [Nat.mul_add, Nat.mul_one] at h2; omega
  rw [h3, Nat.mul_add_div hd, Nat.div_eq_of_lt (by omega)]
theorem div_same (z d : Nat) (hd : 0 < d) (h : (z + 1) % d ≠ 0) : (z + 1) / d = z / d := by
  have h1 := Nat.div_add_mod (z + 1) d
  have h2 := Nat.mod_lt (z + 1) hd
  generalize (z + 1) / d = q at *
  generalize (z + 1) % d = r at *
  have h3 : z = d * q + (r - 1) := by omega
  rw [h3, Nat.mul_add_div hd, Nat.div_eq_of_lt (by omega)]
  omega
theorem dA_next (y : Nat) (h : 1 ≤ y) : dA (y + 1) = dA y + if Lp y then 366 else 365 := by
  obtain ⟨z, rfl⟩ : ∃ z, y = z + 1 := ⟨y - 1, by omega⟩
  have hle : z / 100 ≤ z / 4 := by omega
  unfold dA
  simp only [Nat.add_sub_cancel]
  by_cases h4 : (z + 1) % 4 = 0
  · rw [div_up z 4 (by omega) h4]
    by_cases h1 : (z + 1) % 100 = 0
    · rw [div_up z 100 (by omega) h1]
      by_cases h0 : (z + 1) % 400 = 0
      · rw [div_up z 400 (by omega) h0, if_pos (show Lp (z + 1) from ⟨h4, .inr h0⟩)]
        generalize z / 4 = a at *; generalize z / 100 = b at *; generalize z / 400 = c at *
        clear h4 h1 h0
        omega
      · rw [div_same z 400 (by omega) h0, if_neg (show ¬ Lp (z + 1) from fun hl => by rcases hl.2 with h | h; exact h h1; exact h0 h)]
        generalize z / 4 = a at *; generalize z / 100 = b at *; generalize z / 400 = c at *
        clear h4 h1 h0
        omega
    · rw [div_same z 100 (by omega) h1, div_same z 400 (by omega) (by omega), if_pos (show Lp (z + 1) from ⟨h4, .inl h1⟩)]
      generalize z / 4 = a at *; generalize z / 100 = b at *; generalize z / 400 = c at *
      clear h4 h1
      omega
  · rw [div_same z 4 (by omega) h4, div_same z 100 (by omega) (by omega), div_same z 400 (by omega) (by omega), if_neg (show ¬ Lp (z + 1) from fun hl => h4 hl.1)]
    generalize z / 4 = a at *; generalize z / 100 = b at *; generalize z / 400 = c at *
    clear h4
    omega
theorem dA_step (a : Nat) (h : 1 ≤ a) : dA a + 365 ≤ dA (a + 1) ∧ dA (a + 1) ≤ dA a + 366 := by
  rw [dA_next a h]
  by_cases hl : Lp a
  · rw [if_pos hl]; omega
  · rw [if_neg hl]; omega
theorem dA_mono {a : Nat} (h : 1 ≤ a) : ∀ k, dA a ≤ dA (a + k)
  | 0 => Nat.le_refl _
  | k + 1 => Nat.le_trans (dA_mono h k) (by have := dA_step (a + k) (by omega); rw [show a + (k + 1) = a + k + 1 by omega]; omega)

/-- The lengths of the months. -/
def mL (i : Nat) : Nat := [31, 28, 31, 30, 31, 30, 31, 31, 30, 31, 30, 31].getD i 0
structure Mt (w : World) : Prop where
  p : ∀ i, i < 12 → w.cell? ⟨2, i, none⟩ = some (.int .i64 (mL i : Nat))
theorem Mt.on {w w' : World} (h : Mt w) (hb : Below w.heap.size w w') : Mt w' :=
  ⟨fun i hi => (hb.cell (p := ⟨2, i, none⟩) (World.block_lt_of_cell? w ⟨2, i, none⟩ (h.p i hi))).trans (h.p i hi)⟩
def md (y m : Nat) : Nat := if m < 1 ∨ 12 < m then 0 else if m = 2 ∧ Lp y then 29 else mL (m - 1)

set_option maxRecDepth 100000 in
theorem month_any (w : World) (y m : Nat) (hT : Mt w) : Calls Tryd.prog 56 #[.int .i64 (y : Int), .int .i64 (m : Int)] w fun e w' => e = .returned (.int .i64 (md y m : Nat)) ∧ w = w' := by
  have c := fun W => isLeap_any W y
  unfold md
  by_cases h : m < 1 ∨ 12 < m
  · rw [if_pos h]
    rcases h with h | h
    · have a : (m : Int) < 1 := by omega
      go_enter Tryd.func56, Tryd.ntmps56
      go_wp2
      go_ret
      exact ⟨rfl, rfl⟩
    · have a : ¬ ((m : Int) < 1) := by omega
      have b : (12 : Int) < (m : Int) := by omega
      go_enter Tryd.func56, Tryd.ntmps56
      go_wp2
      go_ret
      exact ⟨rfl, rfl⟩
  · rw [if_neg h]
    obtain ⟨k, rfl⟩ : ∃ k, m = k + 1 := ⟨m - 1, by omega⟩
    have hk : k < 12 := by omega
    have hc := hT.p k hk
    have a : ¬ (((k + 1 : Nat) : Int) < 1) := by omega
    have b : ¬ ((12 : Int) < ((k + 1 : Nat) : Int)) := by omega
    have hsub : ((k + 1 : Nat) : Int) - 1 = (k : Int) := by omega
    have hkI : (k : Int) < 12 := by omega
    rw [show k + 1 - 1 = k by omega]
    generalize mL k = L at *
    by_cases h2 : k = 1
    · subst h2
      by_cases hl : Lp y
      · rw [if_pos ⟨rfl, hl⟩]
        have hd : decide (Lp y) = true := by simpa using hl
        rw [hd] at c
        clear hd h hl
        go_enter Tryd.func56, Tryd.ntmps56
        go_wp2_with (go_at_call 71; refine (c _).mono ?_; rintro e w' ⟨rfl, rfl⟩)
        go_ret
        exact ⟨rfl, rfl⟩
      · rw [if_neg (fun h => hl h.2)]
        have hd : decide (Lp y) = false := by simpa using hl
        rw [hd] at c
        clear hd h hl
        go_enter Tryd.func56, Tryd.ntmps56
        go_wp2_with (go_at_call 71; refine (c _).mono ?_; rintro e w' ⟨rfl, rfl⟩)
        go_ret
        exact ⟨rfl, rfl⟩
    · rw [if_neg (fun h => h2 (by omega))]
      have h2' : (((k + 1 : Nat) : Int) == 2) = false := by simp; omega
      have h3' : ((k : Int) + 1 == 2) = false := by simp; omega
      clear h
      go_enter Tryd.func56, Tryd.ntmps56
      go_wp2
      go_ret
      exact ⟨rfl, rfl⟩
end Go.Proofs.YtehgeninocbpeaaDoor.Tm

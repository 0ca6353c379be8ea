import Derived.Test.YtnheeenkdjmhoaaDoorHd
/-
  DERIVED. The document's hexadecimal digit.
-/
namespace Go.Proofs.YtnheeenkdjmhoaaDoor
open Go Go.Proofs Go.RowKit

def hexD (c : Nat) : Option Nat := if 48 ≤ c ∧ c ≤ 57 then some (c - 48) else if 97 ≤ c ∧ c ≤ 102 then some (c - 87) else if 65 ≤ c ∧ c ≤ 70 then some (c - 55) else none
set_option maxRecDepth 100000 in
theorem hexD_fin : ∀ c : Fin 256, hexD c.val = hvN c.val := by decide
theorem hexD_is (c : UInt8) : hexD c.toNat = hvN c.toNat := hexD_fin ⟨c.toNat, c.toNat_lt⟩
def hexV (c : Nat) : Int := match hexD c with
  | some d => (d : Int)
  | none => -1
theorem hexD_lt {c d : Nat} (h : hexD c = some d) : d < 16 := by
  unfold hexD at h
  split at h
  · simp at h; omega
  · split at h
    · simp at h; omega
    · split at h
      · simp at h; omega
      · cases h

set_option maxRecDepth 100000 in
set_option maxHeartbeats 1000000 in
theorem hex51 (w : World) (c : Nat) (hc : c < 256) : Calls Tryd.prog 51 #[.int .u8 (c : Nat)] w fun e w' => e = .returned (.int .i64 (hexV c)) ∧ w' = w := by
  by_cases h1 : 48 ≤ c ∧ c ≤ 57
  · have hv : hexV c = (c : Int) - 48 := by unfold hexV hexD; rw [if_pos h1]; show ((c - 48 : Nat) : Int) = _; omega
    have d1 : decide ((48 : Int) ≤ (c : Int)) = true := by simp; omega
    have d2 : decide ((c : Int) ≤ 57) = true := by simp; omega
    have s1 : IntKind.u8.wrap ((c : Int) - 48) = (c : Int) - 48 := by simp [IntKind.wrap, IntKind.bits, IntKind.signed]; omega
    have s2 : IntKind.i64.wrap ((c : Int) - 48) = (c : Int) - 48 := by simp [IntKind.wrap, IntKind.bits, IntKind.signed]; omega
    rw [hv]
    go_enter Tryd.func51, Tryd.ntmps51
    go_wp2
    exact bodyPost_ret (v := .int .i64 ((c : Int) - 48)) (by simp [results, Tryd.results51, go_sem]) rfl ⟨rfl, rfl⟩
  · have p2 : (decide ((48 : Int) ≤ (c : Int)) = false) ∨ (decide ((48 : Int) ≤ (c : Int)) = true ∧ decide ((c : Int) ≤ 57) = false) := by simp; omega
    rcases p2 with p2 | ⟨p2, p2'⟩
    · skip
      by_cases h2 : 97 ≤ c ∧ c ≤ 102
      · have hv : hexV c = (c : Int) - 97 + 10 := by unfold hexV hexD; rw [if_neg h1, if_pos h2]; show ((c - 87 : Nat) : Int) = _; omega
        have d1 : decide ((97 : Int) ≤ (c : Int)) = true := by simp; omega
        have d2 : decide ((c : Int) ≤ 102) = true := by simp; omega
        have s1 : IntKind.u8.wrap ((c : Int) - 97) = (c : Int) - 97 := by simp [IntKind.wrap, IntKind.bits, IntKind.signed]; omega
        have s2 : IntKind.i64.wrap ((c : Int) - 97) = (c : Int) - 97 := by simp [IntKind.wrap, IntKind.bits, IntKind.signed]; omega
        have s3 : IntKind.i64.wrap ((c : Int) - 97 + 10) = (c : Int) - 97 + 10 := by simp [IntKind.wrap, IntKind.bits, IntKind.signed]; omega
        rw [hv]
        clear hv h1 h2
        go_enter Tryd.func51, Tryd.ntmps51
        go_wp2
        exact bodyPost_ret (v := .int .i64 ((c : Int) - 97 + 10)) (by simp [results, Tryd.results51, go_sem]) rfl ⟨rfl, rfl⟩
      · by_cases h3 : 65 ≤ c ∧ c ≤ 70
        · have hv : hexV c = (c : Int) - 65 + 10 := by unfold hexV hexD; rw [if_neg h1, if_neg h2, if_pos h3]; show ((c - 55 : Nat) : Int) = _; omega
          have d1 : decide ((65 : Int) ≤ (c : Int)) = true := by simp; omega
          have d2 : decide ((c : Int) ≤ 70) = true := by simp; omega
          have f2 : decide ((97 : Int) ≤ (c : Int)) = false := by simp; omega
          have s1 : IntKind.u8.wrap ((c : Int) - 65) = (c : Int) - 65 := by simp [IntKind.wrap, IntKind.bits, IntKind.signed]; omega
          have s2 : IntKind.i64.wrap ((c : Int) - 65) = (c : Int) - 65 := by simp [IntKind.wrap, IntKind.bits, IntKind.signed]; omega
          have s3 : IntKind.i64.wrap ((c : Int) - 65 + 10) = (c : Int) - 65 + 10 := by simp [IntKind.wrap, IntKind.bits, IntKind.signed]; omega
          rw [hv]
          clear hv h1 h2 h3
          go_enter Tryd.func51, Tryd.ntmps51
          go_wp2
          exact bodyPost_ret (v := .int .i64 ((c : Int) - 65 + 10)) (by simp [results, Tryd.results51, go_sem]) rfl ⟨rfl, rfl⟩
        · have hv : hexV c = -1 := by unfold hexV hexD; rw [if_neg h1, if_neg h2, if_neg h3]
          rw [hv]
          have p3 : (decide ((97 : Int) ≤ (c : Int)) = false) ∨ (decide ((97 : Int) ≤ (c : Int)) = true ∧ decide ((c : Int) ≤ 102) = false) := by simp; omega
          have p4 : (decide ((65 : Int) ≤ (c : Int)) = false) ∨ (decide ((65 : Int) ≤ (c : Int)) = true ∧ decide ((c : Int) ≤ 70) = false) := by simp; omega
          clear hv h1 h2 h3
          rcases p3 with p3 | ⟨p3, p3'⟩ <;> rcases p4 with p4 | ⟨p4, p4'⟩
          all_goals
            go_enter Tryd.func51, Tryd.ntmps51
            go_wp2
            exact bodyPost_ret (v := .int .i64 (-1)) (by simp [results, Tryd.results51, go_sem]) rfl ⟨rfl, rfl⟩
    · skip
      by_cases h2 : 97 ≤ c ∧ c ≤ 102
      · have hv : hexV c = (c : Int) - 97 + 10 := by unfold hexV hexD; rw [if_neg h1, if_pos h2]; show ((c - 87 : Nat) : Int) = _; omega
        have d1 : decide ((97 : Int) ≤ (c : Int)) = true := by simp; omega
        have d2 : decide ((c : Int) ≤ 102) = true := by simp; omega
        have s1 : IntKind.u8.wrap ((c : Int) - 97) = (c : Int) - 97 := by simp [IntKind.wrap, IntKind.bits, IntKind.signed]; omega
        have s2 : IntKind.i64.wrap ((c : Int) - 97) = (c : Int) - 97 := by simp [IntKind.wrap, IntKind.bits, IntKind.signed]; omega
        have s3 : IntKind.i64.wrap ((c : Int) - 97 + 10) = (c : Int) - 97 + 10 := by simp [IntKind.wrap, IntKind.bits, IntKind.signed]; omega
        rw [hv]
        clear hv h1 h2
        go_enter Tryd.func51, Tryd.ntmps51
        go_wp2
        exact bodyPost_ret (v := .int .i64 ((c : Int) - 97 + 10)) (by simp [results, Tryd.results51, go_sem]) rfl ⟨rfl, rfl⟩
      · by_cases h3 : 65 ≤ c ∧ c ≤ 70
        · have hv : hexV c = (c : Int) - 65 + 10 := by unfold hexV hexD; rw [if_neg h1, if_neg h2, if_pos h3]; show ((c - 55 : Nat) : Int) = _; omega
          have d1 : decide ((65 : Int) ≤ (c : Int)) = true := by simp; omega
          have d2 : decide ((c : Int) ≤ 70) = true := by simp; omega
          have f2 : decide ((97 : Int) ≤ (c : Int)) = false := by simp; omega
          have s1 : IntKind.u8.wrap ((c : Int) - 65) = (c : Int) - 65 := by simp [IntKind.wrap, IntKind.bits, IntKind.signed]; omega
          have s2 : IntKind.i64.wrap ((c : Int) - 65) = (c : Int) - 65 := by simp [IntKind.wrap, IntKind.bits, IntKind.signed]; omega
          have s3 : IntKind.i64.wrap ((c : Int) - 65 + 10) = (c : Int) - 65 + 10 := by simp [IntKind.wrap, IntKind.bits, IntKind.signed]; omega
          rw [hv]
          clear hv h1 h2 h3
          go_enter Tryd.func51, Tryd.ntmps51
          go_wp2
          exact bodyPost_ret (v := .int .i64 ((c : Int) - 65 + 10)) (by simp [results, Tryd.results51, go_sem]) rfl ⟨rfl, rfl⟩
        · have hv : hexV c = -1 := by unfold hexV hexD; rw [if_neg h1, if_neg h2, if_neg h3]
          rw [hv]
          have p3 : (decide ((97 : Int) ≤ (c : Int)) = false) ∨ (decide ((97 : Int) ≤ (c : Int)) = true ∧ decide ((c : Int) ≤ 102) = false) := by simp; omega
          have p4 : (decide ((65 : Int) ≤ (c : Int)) = false) ∨ (decide ((65 : Int) ≤ (c : Int)) = true ∧ decide ((c : Int) ≤ 70) = false) := by simp; omega
          clear hv h1 h2 h3
          rcases p3 with p3 | ⟨p3, p3'⟩ <;> rcases p4 with p4 | ⟨p4, p4'⟩
          all_goals
            go_enter Tryd.func51, Tryd.ntmps51
            go_wp2
            exact bodyPost_ret (v := .int .i64 (-1)) (by simp [results, Tryd.results51, go_sem]) rfl ⟨rfl, rfl⟩
end Go.Proofs.YtnheeenkdjmhoaaDoor

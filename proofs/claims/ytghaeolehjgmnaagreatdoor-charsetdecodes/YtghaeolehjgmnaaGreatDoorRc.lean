import Derived.Test.YtghaeolehjgmnaaGreatDoorRb
/-
  DERIVED. The document's last byte of an escape.
-/
namespace Go.Proofs.YtghaeolehjgmnaaGreatDoor
open Go Go.Proofs Go.RowKit

/-- The last byte of the escape of a repertoire, by its place in the list of the repertoires. -/
def finN : Nat → Nat
  | 1 => 65
  | 2 => 66
  | 3 => 70
  | 4 => 76
  | 5 => 77
  | _ => 77

set_option maxRecDepth 100000 in
theorem final_any (w : World) (k : Nat) (hk : k < 7) : Calls Tryz.prog 40 #[.int .i64 (repN k : Nat)] w fun e w' => e = .returned (.int .u8 (finN k : Nat)) ∧ w = w' := by
  have h : k = 0 ∨ k = 1 ∨ k = 2 ∨ k = 3 ∨ k = 4 ∨ k = 5 ∨ k = 6 := by omega
  rcases h with rfl | rfl | rfl | rfl | rfl | rfl | rfl
  all_goals simp only [repN, finN]
  all_goals go_enter Tryz.func40, Tryz.ntmps40
  all_goals go_wp2
  all_goals go_ret
  all_goals exact ⟨rfl, rfl⟩
end Go.Proofs.YtghaeolehjgmnaaGreatDoor

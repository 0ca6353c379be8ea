import Derived.Test.YtghaeolehjgmnaaGreatDoorRc
/-
  DERIVED. Which repertoire an escape names, by the document.
-/
namespace Go.Proofs.YtghaeolehjgmnaaGreatDoor
open Go Go.Proofs Go.RowKit

def hitE2 (c1 c2 : Nat) (a : Nat × ByteArray) : Bool := !(a.1 == 0) && (c1 == 45 && c2 == finN a.1)
/-- The repertoire that the escape names (6: that of ASCII), 0 for none. -/
def rescS (N : List (Nat × ByteArray)) (c1 c2 : Nat) : Nat :=
  if (c1 == 40 && c2 == 66) = true then 6 else match N.find? (hitE2 c1 c2) with
    | some a => repN a.1
    | none => 0

theorem nat_beq (a b : Nat) : ((a : Int) == (b : Int)) = (a == b) := by
  by_cases h : a = b
  · subst h; simp
  · have h2 : ¬ (a : Int) = (b : Int) := by omega
    rw [beq_eq_false_iff_ne.2 h2, beq_eq_false_iff_ne.2 h]
theorem repN_first : ∀ a : Fin 7, ((repN a.val : Int) != 6) = !(a.val == 0) := by decide

set_option maxRecDepth 100000 in
theorem resc_short (w : World) (p : Nat) (ao : Option Addr) (m cap : Nat) (hm : m < 3) :
    Calls Tryz.prog 18 #[.pointer (some ⟨p, 0, none⟩), .slice ao m cap] w fun e w' => e = .returned (.int .i64 0) ∧ w = w' := by
  have h1 : decide ((m : Int) < 3) = true := by simp; omega
  go_enter Tryz.func18, Tryz.ntmps18
  go_wp2
  go_ret
  exact ⟨rfl, rfl⟩

end Go.Proofs.YtghaeolehjgmnaaGreatDoor

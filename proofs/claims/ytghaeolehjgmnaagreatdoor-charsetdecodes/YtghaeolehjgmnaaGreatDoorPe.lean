
import Derived.Test.YtghaeolehjgmnaaGreatDoorPd
import Derived.Test.YtghaeolehjgmnaaGreatDoorOf
/-
  DERIVED. Which runes are their own bytes, and which end a piece.
-/
namespace Go.Proofs.YtghaeolehjgmnaaGreatDoor
open Go Go.Proofs Go.RowKit

/-- A short text of ASCII. -/
def Short (s : ByteArray) : Prop := s.size < 100 ∧ ∀ b ∈ s.data.toList, b.toNat < 128

set_option maxRecDepth 100000 in
theorem ends_any (w : World) (k s : ByteArray) (hs : Short s) (r : Int) : Calls Tryz.prog 38 #[.agg #[.string k, .string s], .int .i32 r] w fun e w' => e = .returned (.bool (hasR s r)) ∧ Below w.heap.size w w' := by
  have c := fun W => contains_any W s hs.1 hs.2 r
  have HB := fun W => (Below.refl w.heap.size w).alloc (Nat.le_refl _) W
  clear hs
  go_enter Tryz.func38, Tryz.ntmps38
  go_wp2_with (go_at_call 51; refine (c _).mono ?_; rintro e w' ⟨rfl, hb⟩)
  go_ret
  exact ⟨rfl, (HB _).trans (hb.mono (by simp))⟩

def plainR (s : ByteArray) (r : Int) : Bool := asc r || hasR s r

set_option maxRecDepth 100000 in
theorem plain_any (w : World) (k s : ByteArray) (hs : Short k) (r : Int) : Calls Tryz.prog 47 #[.agg #[.string k, .string s], .int .i32 r] w fun e w' => e = .returned (.bool (plainR k r)) ∧ Below w.heap.size w w' := by
  have c := fun W => contains_any W k hs.1 hs.2 r
  have c36 := fun W => ascii_any W r
  have HB := fun W => (Below.refl w.heap.size w).alloc (Nat.le_refl _) W
  unfold plainR
  clear hs
  generalize asc r = b1 at c36 ⊢
  cases b1 with
  | true =>
    go_enter Tryz.func47, Tryz.ntmps47
    go_wp2_with (first | (go_at_call 62; refine (c36 _).mono ?_; rintro e w' ⟨rfl, rfl⟩) | (go_at_call 51; refine (c _).mono ?_; rintro e w' ⟨rfl, hb⟩))
    go_ret
    exact ⟨rfl, (HB _)⟩
  | false =>
    go_enter Tryz.func47, Tryz.ntmps47
    go_wp2_with (first | (go_at_call 62; refine (c36 _).mono ?_; rintro e w' ⟨rfl, rfl⟩) | (go_at_call 51; refine (c _).mono ?_; rintro e w' ⟨rfl, hb⟩))
    go_ret
    exact ⟨rfl, (HB _).trans (hb.mono (by simp))⟩

end Go.Proofs.YtghaeolehjgmnaaGreatDoor

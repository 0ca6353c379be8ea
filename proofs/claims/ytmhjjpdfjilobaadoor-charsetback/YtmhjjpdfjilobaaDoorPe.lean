import Derived.Test.YtmhjjpdfjilobaaDoorPd
import Derived.Test.YtmhjjpdfjilobaaDoorOf
/-
  DERIVED. Which runes are their own bytes, and which end a piece.
-/
namespace Go.Proofs.YtmhjjpdfjilobaaDoor
open Go Go.Proofs Go.RowKit

/-- A short text of ASCII. -/
def Short (s : ByteArray) : Prop := s.size < 100 ∧ ∀ b ∈ s.data.toList, b.toNat < 128

set_option maxRecDepth 100000 in
theorem ends_any (w : World) (k s : ByteArray) (hs : Short s) (r : Int) : Calls Tryd.prog 56 #[.agg #[.string k, .string s], .int .i32 r] w fun e w' => e = .returned (.bool (hasR s r)) ∧ Below w.heap.size w w' := by
  have c := fun W => contains_any W s hs.1 hs.2 r
  have HB := fun W => (Below.refl w.heap.size w).alloc (Nat.le_refl _) W
  clear hs
  go_enter Tryd.func56, Tryd.ntmps56
  go_wp2_with (go_at_call 72; refine (c _).mono ?_; rintro e w' ⟨rfl, hb⟩)
  go_ret
  exact ⟨rfl, (HB _).trans (hb.mono (by simp))⟩

def plainR (s : ByteArray) (r : Int) : Bool := asc r || hasR s r

set_option maxRecDepth 100000 in
theorem plain_any (w : World) (k s : ByteArray) (hs : Short k) (r : Int) : Calls Tryd.prog 57 #[.agg #[.string k, .string s], .int .i32 r] w fun e w' => e = .returned (.bool (plainR k r)) ∧ Below w.heap.size w w' := by
  have c := fun W => contains_any W k hs.1 hs.2 r
  have c36 := fun W => ascii_any W r
  have HB := fun W => (Below.refl w.heap.size w).alloc (Nat.le_refl _) W
  unfold plainR
  clear hs
  generalize asc r = b1 at c36 ⊢
  cases b1 with
  | true =>
    go_enter Tryd.func57, Tryd.ntmps57
    go_wp2_with (first | (go_at_call 36; refine (c36 _).mono ?_; rintro e w' ⟨rfl, rfl⟩) | (go_at_call 72; refine (c _).mono ?_; rintro e w' ⟨rfl, hb⟩))
    go_ret
    exact ⟨rfl, (HB _)⟩
  | false =>
    go_enter Tryd.func57, Tryd.ntmps57
    go_wp2_with (first | (go_at_call 36; refine (c36 _).mono ?_; rintro e w' ⟨rfl, rfl⟩) | (go_at_call 72; refine (c _).mono ?_; rintro e w' ⟨rfl, hb⟩))
    go_ret
    exact ⟨rfl, (HB _).trans (hb.mono (by simp))⟩

end Go.Proofs.YtmhjjpdfjilobaaDoor

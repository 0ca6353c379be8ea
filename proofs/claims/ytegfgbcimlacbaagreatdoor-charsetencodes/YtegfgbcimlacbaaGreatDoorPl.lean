
import Derived.Test.YtegfgbcimlacbaaGreatDoorPk
import Derived.Deep.Cut
/-
  DERIVED. Decode, by the program.
-/
namespace Go.Proofs.YtegfgbcimlacbaaGreatDoor
open Go Go.Proofs Go.RowKit

/-- The three kinds: what may stand in a text, what ends a piece. -/
def kdS : Nat → ByteArray := fun k => #[(⟨#[9, 10, 12, 13]⟩ : ByteArray), ⟨#[9, 10, 12, 13]⟩, ⟨#[]⟩, ⟨#[92]⟩, ⟨#[]⟩, ⟨#[92, 94, 61]⟩].getD k ⟨#[]⟩
structure Kinds (w : World) : Prop where
  p : ∀ i, i < 6 → w.cell? ⟨0, i, none⟩ = some (.string (kdS i))
theorem Kinds.on {w w' : World} (h : Kinds w) (hb : Below w.heap.size w w') : Kinds w' := ⟨fun i hi => (hb.cell (p := ⟨0, i, none⟩) (cell_lt (h.p i hi))).trans (h.p i hi)⟩
theorem kd_short : ∀ k : Fin 6, Short (kdS k.val) := by
  intro k
  match k with
  | ⟨0, _⟩ => exact (show Short (kdS 0) from ⟨by decide, by decide⟩)
  | ⟨1, _⟩ => exact (show Short (kdS 1) from ⟨by decide, by decide⟩)
  | ⟨2, _⟩ => exact (show Short (kdS 2) from ⟨by decide, by decide⟩)
  | ⟨3, _⟩ => exact (show Short (kdS 3) from ⟨by decide, by decide⟩)
  | ⟨4, _⟩ => exact (show Short (kdS 4) from ⟨by decide, by decide⟩)
  | ⟨5, _⟩ => exact (show Short (kdS 5) from ⟨by decide, by decide⟩)

def dcEnd : Except (Nat × Int) (List Int) → Except (Nat × Int) (List Int)
  | .error e => .error e
  | .ok out => if 65534 < out.length then .error (65534, 85) else .ok out
/-- What Decode tells. -/
def dcS (x : Bool) (a : Row) (R : List Row) (k : Int) (s : ByteArray) : Except (Nat × Int) (List Int) :=
  if k < 0 ∨ 3 ≤ k then .error (0, 84)
  else if 65534 < s.size then .error (65534, 85)
  else dcEnd (rdS x (kdS (2 * k.toNat)) (kdS (2 * k.toNat + 1)) a R s s.size 0 a [])

theorem bsZ_size (out : List Int) : (bsZ out).size = out.length := by simp [bsZ, ByteArray.size]

end Go.Proofs.YtegfgbcimlacbaaGreatDoor


import Derived.Test.YtegfgbcimlacbaaGreatDoorPj
import Derived.Deep.LoopGhost
import Derived.Deep.CutRange
/-
  DERIVED. The loop that reads bytes as a text.
-/
namespace Go.Proofs.YtegfgbcimlacbaaGreatDoor
open Go Go.Proofs Go.RowKit

def Stop (p : Prop) : Prop := p
theorem Stop.mk {p : Prop} (h : Stop p) : p := h
theorem Stop.out {p : Prop} (h : p) : Stop p := h

theorem own_base {w : World} {B : Nat} {e : TypeId} {v : Value} {n : Nat} {xs : List Value} {sz : Nat} (h : w.ownsRow B e sz v n xs) : ∀ r, v.ownBlock = some r → B ≤ r := by
  intro r hr
  rcases h.2 with ⟨rfl, _⟩ | ⟨g, cap, cur, rfl, hb, _⟩
  · simp [Value.ownBlock] at hr
  · have : g = r := by simpa [Value.ownBlock] using hr
    omega

theorem escL_mem (s : ByteArray) : ∀ (R : List Row) (r : Row), escL s R = some r → r ∈ R
  | [], r, h => by simp [escL] at h
  | a :: R, r, h => by
    rw [escL] at h
    split at h
    · obtain rfl : a = r := by simpa using h
      exact List.mem_cons_self
    · exact List.mem_cons_of_mem _ (escL_mem s R r h)
theorem turn_mem (s : ByteArray) (R : List Row) (h : Row) (hm : h ∈ R) : (turnS s R h).1 ∈ R := by
  unfold turnS
  split
  · exact hm
  · split
    · exact escL_mem s R _ ‹_›
    · exact hm

/-- Between two rounds. -/
def ReadInv (w : World) (Bk Bh Bo : Nat) (x : Bool) (kc ke : ByteArray) (a : Row) (R : List Row) (s : ByteArray) (F : Except (Nat × Int) (List Int)) (g : Nat) (s8 s10 : Value) (wx : World) : Prop :=
  ∃ (at' : Nat) (h : Row) (out : List Int), s10 = .int .i64 (at' : Int) ∧ g = s.size - at' ∧ at' ≤ s.size + 3 ∧ rdS x kc ke a R s g at' h out = F ∧ h ∈ a :: R ∧ out.length ≤ 4 * at' ∧ ByteZ out ∧ wx.ownsRow Bo 5 1 s8 out.length (cellsZ out) ∧ RdI w Bk Bh kc ke h wx

end Go.Proofs.YtegfgbcimlacbaaGreatDoor

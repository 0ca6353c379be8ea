import Derived.Test.YtehgeninocbpeaaGreatDoorQK
import Derived.Deep.Cut
/-
  DERIVED. A day's text, read from end to end.
-/
namespace Go.Proofs.YtehgeninocbpeaaGreatDoor.Tm
open Go Go.Proofs Go.RowKit

def mo (y m d p : Int) : Value := .agg #[.int .i64 y, .int .i64 m, .int .i64 d, .int .i64 p, .int .i64 0, .int .i64 0, .int .i64 0, .int .i64 0, .int .i64 0, .bool false, .int .i64 0]
def PostR (w : World) (M : Value) (o : Option (Int × Int)) (e : Ending) (w' : World) : Prop := ∃ v, e = .returned (.tuple #[M, v]) ∧ PErr w' v o ∧ Below w.heap.size w w'

def ck0 (s : ByteArray) : Nat → Value := fun k => #[Value.string s, .int .i64 0, .bool false, .nilIface, .int .i64 1, .int .i64 1, .int .i64 1, .int .i64 3, .int .i64 0, .int .i64 0, .int .i64 0, .int .i64 0, .int .i64 0, .bool false, .int .i64 0].getD k undef
def zm0 : Nat → Value := fun k => #[Value.int .i64 0, .int .i64 0, .int .i64 0, .int .i64 0, .int .i64 0, .int .i64 0, .int .i64 0, .int .i64 0, .int .i64 0, .bool false, .int .i64 0].getD k undef

/-- How far each piece goes. -/
def k1 (s : ByteArray) : Nat := cnt s 0 4
def k2 (s : ByteArray) : Nat := if decide (k1 s < 4) = true then 0 else cnt s (k1 s) 2
def b2 (s : ByteArray) : Bool := decide (k1 s < 4) || decide (k2 s < 2)
def k3 (s : ByteArray) : Nat := if b2 s = true then 0 else cnt s (k1 s + k2 s) 2
def b3 (s : ByteArray) : Bool := b2 s || decide (k3 s < 2)
def yy (s : ByteArray) : Nat := nv s 0 (k1 s)
def mm (s : ByteArray) : Nat := nv s (k1 s) (k2 s)
def dd (s : ByteArray) : Nat := nv s (k1 s + k2 s) (k3 s)
def o1 (s : ByteArray) : Option (Int × Int) := nextD none (decide ((yy s : Int) < 1) || decide (9999 < (yy s : Int))) 0
def o2 (s : ByteArray) : Option (Int × Int) := nextD (o1 s) (decide ((mm s : Int) < 1) || decide (12 < (mm s : Int))) (k1 s)
def o3 (s : ByteArray) : Option (Int × Int) := nextD (o2 s) (decide ((dd s : Int) < 1) || decide ((md (yy s) (mm s) : Int) < (dd s : Int))) (k1 s + k2 s)
def oe (s : ByteArray) : Option (Int × Int) := if b3 s = true ∨ k1 s + k2 s + k3 s < s.size then some (((k1 s + k2 s + k3 s : Nat) : Int), 100) else none

theorem k2_size (s : ByteArray) : k1 s + k2 s ≤ s.size ∧ k1 s ≤ s.size ∧ k1 s + k2 s + k3 s ≤ s.size := by
  have h1 : k1 s ≤ s.size := by have := cnt_size s 4 0 (by omega); unfold k1; omega
  have h2 : k1 s + k2 s ≤ s.size := by
    unfold k2
    split
    · omega
    · exact cnt_size s 2 (k1 s) h1
  refine ⟨h2, h1, ?_⟩
  unfold k3
  split
  · omega
  · exact cnt_size s 2 _ h2

theorem row_lit (c : Array Value) : ∀ i, i < c.size → c[i]? = some (c.getD i undef) := fun i hi => by simp [Array.getD, hi]
theorem row_kept {w w' : World} {q r : Nat} {t : TypeId} {n : Nat} {f : Nat → Value} (h : w.rowIs r t n f) (hg : w.grownBy w' (some q)) (hne : r ≠ q) : w'.rowIs r t n f :=
  h.of_block (hg.block r h.lt (by simpa using hne))

/-- What a day's text is read as, or why it is none. -/
def oP (s : ByteArray) : Option (Int × Int) := (oe s).or (o3 s)

end Go.Proofs.YtehgeninocbpeaaGreatDoor.Tm

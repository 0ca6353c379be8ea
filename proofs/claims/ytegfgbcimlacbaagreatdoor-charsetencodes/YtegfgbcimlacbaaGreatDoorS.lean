
import Derived.Test.YtegfgbcimlacbaaGreatDoorQ
/-
  DERIVED. A set's terms, by the program and by the document.
-/
namespace Go.Proofs.YtegfgbcimlacbaaGreatDoor
open Go Go.Proofs Go.RowKit

def termsOf (R : List Row) : List ByteArray := R.map fun r => r.2.1
theorem termsOf_get {R : List Row} {k : Nat} {r : Row} (h : R[k]? = some r) : (termsOf R)[k]? = some r.2.1 := by unfold termsOf; rw [List.getElem?_map, h]; rfl

def digL (k : Nat) : List UInt8 := [[54], [49, 48, 48], [49, 48, 49], [49, 50, 54], [49, 52, 52], [49, 52, 56], [49, 57, 50]].getD k []
def dig (k : Nat) : ByteArray := ⟨(digL k).toArray⟩
/-- A term, as the document writes it. -/
def wri (x : Bool) (k : Nat) : ByteArray := (if x then ⟨#[73, 83, 79, 32, 50, 48, 50, 50, 32, 73, 82, 32]⟩ else ⟨#[73, 83, 79, 95, 73, 82, 32]⟩) ++ dig k
theorem wri_all : ((List.range 7).all fun k => wri false k == sp (3 * k)) = true ∧ ((List.range 6).all fun k => wri true k == sp (3 * k + 1)) = true := by
  constructor <;> decide +kernel

def rterms (N : List (Nat × ByteArray)) (x : Bool) : List ByteArray := N.map fun r => wri x r.1
theorem rterms_get {N : List (Nat × ByteArray)} {x : Bool} {k : Nat} {r : Nat × ByteArray} (h : N[k]? = some r) : (rterms N x)[k]? = some (wri x r.1) := by unfold rterms; rw [List.getElem?_map, h]; rfl

end Go.Proofs.YtegfgbcimlacbaaGreatDoor

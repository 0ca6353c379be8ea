import Derived.Test.YtidcjobokfgeoaaF
import Derived.Test.YtidcjobokfgeoaaH
/-
  DERIVED. The answer of a query that asks for all that is known.
-/
namespace Go.Proofs.Ytidcjobokfgeoaa
open Go Go.Proofs Go.RowKit

def qL : List Value := qc 11
def zOf : Option Value → Int
  | some (.int _ z) => z
  | _ => 0
def ct (i : Nat) : Int := zOf qL[i * 5]?
def cv (i : Nat) : Int := zOf qL[i * 5 + 1]?
def cn (i : Nat) : Int := zOf qL[i * 5 + 2]?
def cf (i : Nat) : Value := qL.getD (i * 5 + 4) .nilFunc
/-- The text that a row's function tells. -/
def txN (x : Nat → ByteArray) (z : Int) : Nat → ByteArray
  | 19 => x 1 | 20 => x 10 | 21 => x 5 | 22 => x 6 | 23 => x 7 | 24 => x 8 | 25 => x 9 | 26 => x 4 | 27 => x 3
  | 28 => x 11 | 29 => x 12 | 30 => x 15 | 31 => x 16 | 32 => x 17 | 33 => x 18 | 34 => x 0 | 35 => x 13 | 36 => x 14
  | 37 => wd z | 38 => x 2 | _ => ⟨#[]⟩
def txF (x : Nat → ByteArray) (z : Int) : Value → ByteArray
  | .func (.func k) _ _ => txN x z k
  | _ => ⟨#[]⟩
def an (x : Nat → ByteArray) (z : Int) (i : Nat) : List Value := nd (ct i) (cv i) (cn i) (txF x z (cf i))
def ans (x : Nat → ByteArray) (z : Int) (i : Nat) : List Value := (List.range i).flatMap (an x z)
theorem ans_next (x : Nat → ByteArray) (z : Int) (i : Nat) : ans x z (i + 1) = ans x z i ++ an x z i := by
  unfold ans
  rw [List.range_succ, List.flatMap_append]
  simp

set_option maxRecDepth 100000 in
theorem qrow : ∀ i, i < 22 → qL[i * 5]? = some (.int .u32 (ct i)) ∧ qL[i * 5 + 1]? = some (.int .i64 (cv i)) ∧ qL[i * 5 + 2]? = some (.int .i64 (cn i)) ∧ qL[i * 5 + 3]? = some (.string ⟨#[]⟩) ∧ qL[i * 5 + 4]? = some (cf i) ∧ (cf i = .nilFunc ∨ ∃ k, 19 ≤ k ∧ k ≤ 38 ∧ cf i = .func (.func k) #[] #[]) := by
  intro i hi
  have : i = 0 ∨ i = 1 ∨ i = 2 ∨ i = 3 ∨ i = 4 ∨ i = 5 ∨ i = 6 ∨ i = 7 ∨ i = 8 ∨ i = 9 ∨ i = 10 ∨ i = 11 ∨ i = 12 ∨ i = 13 ∨ i = 14 ∨ i = 15 ∨ i = 16 ∨ i = 17 ∨ i = 18 ∨ i = 19 ∨ i = 20 ∨ i = 21 := by omega
  rcases this with rfl | rfl | rfl | rfl | rfl | rfl | rfl | rfl | rfl | rfl | rfl | rfl | rfl | rfl | rfl | rfl | rfl | rfl | rfl | rfl | rfl | rfl
  · exact ⟨by kernel_rfl, by kernel_rfl, by kernel_rfl, by kernel_rfl, by kernel_rfl, .inr ⟨19, by decide, by decide, by kernel_rfl⟩⟩
  · exact ⟨by kernel_rfl, by kernel_rfl, by kernel_rfl, by kernel_rfl, by kernel_rfl, .inr ⟨20, by decide, by decide, by kernel_rfl⟩⟩
  · exact ⟨by kernel_rfl, by kernel_rfl, by kernel_rfl, by kernel_rfl, by kernel_rfl, .inr ⟨21, by decide, by decide, by kernel_rfl⟩⟩
  · exact ⟨by kernel_rfl, by kernel_rfl, by kernel_rfl, by kernel_rfl, by kernel_rfl, .inr ⟨22, by decide, by decide, by kernel_rfl⟩⟩
  · exact ⟨by kernel_rfl, by kernel_rfl, by kernel_rfl, by kernel_rfl, by kernel_rfl, .inr ⟨23, by decide, by decide, by kernel_rfl⟩⟩
  · exact ⟨by kernel_rfl, by kernel_rfl, by kernel_rfl, by kernel_rfl, by kernel_rfl, .inr ⟨24, by decide, by decide, by kernel_rfl⟩⟩
  · exact ⟨by kernel_rfl, by kernel_rfl, by kernel_rfl, by kernel_rfl, by kernel_rfl, .inr ⟨25, by decide, by decide, by kernel_rfl⟩⟩
  · exact ⟨by kernel_rfl, by kernel_rfl, by kernel_rfl, by kernel_rfl, by kernel_rfl, .inr ⟨26, by decide, by decide, by kernel_rfl⟩⟩
  · exact ⟨by kernel_rfl, by kernel_rfl, by kernel_rfl, by kernel_rfl, by kernel_rfl, .inr ⟨27, by decide, by decide, by kernel_rfl⟩⟩
  · exact ⟨by kernel_rfl, by kernel_rfl, by kernel_rfl, by kernel_rfl, by kernel_rfl, .inl (by kernel_rfl)⟩
  · exact ⟨by kernel_rfl, by kernel_rfl, by kernel_rfl, by kernel_rfl, by kernel_rfl, .inl (by kernel_rfl)⟩
  · exact ⟨by kernel_rfl, by kernel_rfl, by kernel_rfl, by kernel_rfl, by kernel_rfl, .inr ⟨28, by decide, by decide, by kernel_rfl⟩⟩
  · exact ⟨by kernel_rfl, by kernel_rfl, by kernel_rfl, by kernel_rfl, by kernel_rfl, .inr ⟨29, by decide, by decide, by kernel_rfl⟩⟩
  · exact ⟨by kernel_rfl, by kernel_rfl, by kernel_rfl, by kernel_rfl, by kernel_rfl, .inr ⟨30, by decide, by decide, by kernel_rfl⟩⟩
  · exact ⟨by kernel_rfl, by kernel_rfl, by kernel_rfl, by kernel_rfl, by kernel_rfl, .inr ⟨31, by decide, by decide, by kernel_rfl⟩⟩
  · exact ⟨by kernel_rfl, by kernel_rfl, by kernel_rfl, by kernel_rfl, by kernel_rfl, .inr ⟨32, by decide, by decide, by kernel_rfl⟩⟩
  · exact ⟨by kernel_rfl, by kernel_rfl, by kernel_rfl, by kernel_rfl, by kernel_rfl, .inr ⟨33, by decide, by decide, by kernel_rfl⟩⟩
  · exact ⟨by kernel_rfl, by kernel_rfl, by kernel_rfl, by kernel_rfl, by kernel_rfl, .inr ⟨34, by decide, by decide, by kernel_rfl⟩⟩
  · exact ⟨by kernel_rfl, by kernel_rfl, by kernel_rfl, by kernel_rfl, by kernel_rfl, .inr ⟨35, by decide, by decide, by kernel_rfl⟩⟩
  · exact ⟨by kernel_rfl, by kernel_rfl, by kernel_rfl, by kernel_rfl, by kernel_rfl, .inr ⟨36, by decide, by decide, by kernel_rfl⟩⟩
  · exact ⟨by kernel_rfl, by kernel_rfl, by kernel_rfl, by kernel_rfl, by kernel_rfl, .inr ⟨37, by decide, by decide, by kernel_rfl⟩⟩
  · exact ⟨by kernel_rfl, by kernel_rfl, by kernel_rfl, by kernel_rfl, by kernel_rfl, .inr ⟨38, by decide, by decide, by kernel_rfl⟩⟩

theorem text_any (k : Nat) (h1 : 19 ≤ k) (h2 : k ≤ 38) (w : World) (x : Nat → ByteArray) (z : Int) : Calls Try.prog k #[.agg (SP x z)] w fun e w' => e = .returned (.string (txN x z k)) ∧ Below w.heap.size w w' := by
  have : k = 19 ∨ k = 20 ∨ k = 21 ∨ k = 22 ∨ k = 23 ∨ k = 24 ∨ k = 25 ∨ k = 26 ∨ k = 27 ∨ k = 28 ∨ k = 29 ∨ k = 30 ∨ k = 31 ∨ k = 32 ∨ k = 33 ∨ k = 34 ∨ k = 35 ∨ k = 36 ∨ k = 37 ∨ k = 38 := by omega
  rcases this with rfl | rfl | rfl | rfl | rfl | rfl | rfl | rfl | rfl | rfl | rfl | rfl | rfl | rfl | rfl | rfl | rfl | rfl | rfl | rfl
  · exact text19 w x z
  · exact text20 w x z
  · exact text21 w x z
  · exact text22 w x z
  · exact text23 w x z
  · exact text24 w x z
  · exact text25 w x z
  · exact text26 w x z
  · exact text27 w x z
  · exact text28 w x z
  · exact text29 w x z
  · exact text30 w x z
  · exact text31 w x z
  · exact text32 w x z
  · exact text33 w x z
  · exact text34 w x z
  · exact text35 w x z
  · exact text36 w x z
  · exact text37 w x z
  · exact text38 w x z
end Go.Proofs.Ytidcjobokfgeoaa

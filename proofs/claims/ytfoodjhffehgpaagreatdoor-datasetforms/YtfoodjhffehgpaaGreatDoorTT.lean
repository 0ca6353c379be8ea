import Derived.Test.YtfoodjhffehgpaaGreatDoorTH
import Derived.Test.YtfoodjhffehgpaaGreatDoorTS
/-
  DERIVED. Both tables are the same.
-/
namespace Go.Proofs.YtfoodjhffehgpaaGreatDoor.Tb
open Go Go.Proofs Go.RowKit

def Row.ec (r : Row) : List Value := [.int .u32 (r.t : Int), .int .u32 (maskN r.t : Nat), .int .i64 r.v, .string r.s, .int .i64 r.l, .int .i64 r.m]

/-- A line of the document's beside a row of the program's. -/
def fits (l : List Nat) (r : Row) : Bool :=
  let S := lnB l
  tagL (bts S) 9 == r.t && maskL (bts S) == maskN r.t && ((fndW (wd S 1) 28 1 : Nat) : Int) == r.v && (wd S 3).data.toList == r.s.data.toList && ((numL (wd S 2)).1 : Int) == r.l && ((numL (wd S 2)).2 : Int) == r.m
def fitsAll : List (List Nat) → List Row → Bool
  | [], [] => true
  | l :: ls, r :: rs => fits l r && fitsAll ls rs
  | _, _ => false
theorem fits_all : fitsAll lns (upTo 10) = true := by decide +kernel

theorem fits_ec {l : List Nat} {r : Row} (h : fits l r = true) : entC (lnB l) = r.ec := by
  unfold fits at h
  simp only [Bool.and_eq_true, beq_iff_eq] at h
  obtain ⟨⟨⟨⟨⟨h1, h2⟩, h3⟩, h4⟩, h5⟩, h6⟩ := h
  have h4' : wd (lnB l) 3 = r.s := by
    have : (wd (lnB l) 3).data = r.s.data := Array.toList_inj.1 h4
    cases hw : wd (lnB l) 3
    cases hs : r.s
    rw [hw, hs] at this
    congr
  unfold entC Row.ec
  rw [h1, h2, h3, h4', h5, h6]
theorem both_from : ∀ (ls : List (List Nat)) (rs : List Row), fitsAll ls rs = true → (ls.flatMap fun l => entC (lnB l)) = rs.flatMap Row.ec
  | [], [], _ => rfl
  | l :: ls, r :: rs, h => by
    rw [fitsAll, Bool.and_eq_true] at h
    rw [List.flatMap_cons, List.flatMap_cons, fits_ec h.1, both_from ls rs h.2]
  | [], _ :: _, h => by cases h
  | _ :: _, [], h => by cases h
theorem both_tables : entsC 253 = (upTo 10).flatMap Row.ec := by
  unfold entsC
  rw [List.take_of_length_le (by rw [lns_len]; exact Nat.le_refl _)]
  exact both_from _ _ fits_all
theorem up_len : (upTo 10).length = 253 := by decide +kernel

theorem ec_get : ∀ (L : List Row) (k : Nat) (r : Row), L[k]? = some r → ∀ j, j < 6 → (L.flatMap Row.ec)[6 * k + j]? = r.ec[j]?
  | [], k, r, h => by simp at h
  | x :: L, 0, r, h => by
    obtain rfl : x = r := by simpa using h
    intro j hj
    rw [List.flatMap_cons, List.getElem?_append_left (by simp [Row.ec]; omega)]
    simp
  | x :: L, k + 1, r, h => by
    intro j hj
    rw [List.flatMap_cons, List.getElem?_append_right (by simp [Row.ec]; omega)]
    have := ec_get L k r (by simpa using h) j hj
    rw [← this]
    congr 1
    simp [Row.ec]
    omega

end Go.Proofs.YtfoodjhffehgpaaGreatDoor.Tb

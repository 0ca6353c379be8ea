
import Derived.Test.YtegfgbcimlacbaaGreatDoorOf
/-
  DERIVED. What is asked of a text ahead of its bytes or runes.
-/
namespace Go.Proofs.YtegfgbcimlacbaaGreatDoor
open Go Go.Proofs Go.RowKit

/-- What is said of a size. -/
def fitS (n : Int) : Option (Int × Int) := if 65534 < n then some (65534, 85) else none

set_option maxRecDepth 100000 in
theorem fits_any (w : World) (n : Int) : Calls Tryz.prog 16 #[.int .i64 n] w fun e w' => ∃ v, e = .returned v ∧ PErr w' v (fitS n) ∧ Below w.heap.size w w' := by
  have c := fun W => refusal_any 65534 85 W
  unfold fitS
  by_cases h : 65534 < n
  · rw [if_pos h]
    go_enter Tryz.func16, Tryz.ntmps16
    go_wp2_with (go_at_call 27; refine (c _).mono ?_; rintro e w' ⟨v, rfl, hv, hb⟩; have HV : Hid _ := hv; have HB : Hid _ := hb; clear hv hb)
    go_ret
    exact ⟨_, rfl, HV.out, HB.out⟩
  · rw [if_neg h]
    go_enter Tryz.func16, Tryz.ntmps16
    go_wp2
    go_ret
    exact ⟨_, rfl, rfl, Below.refl _ _⟩

/-- What is said of a kind and a size. -/
def admitS (k n : Int) : Option (Int × Int) := if k < 0 ∨ 3 ≤ k then some (0, 84) else fitS n

set_option maxRecDepth 100000 in
theorem admits_any (w : World) (q : Nat) (v : Value) (a : Row) (R : List Row) (x : Bool) (k n : Int) (h : SetIn w q v (a :: R) x) :
    Calls Tryz.prog 14 #[.pointer (some ⟨q, 0, none⟩), .int .i64 k, .int .i64 n] w fun e w' => ∃ v, e = .returned v ∧ PErr w' v (admitS k n) ∧ Below w.heap.size w w' := by
  have c25 := madeIn w q v a R x h
  have c := fun W => refusal_any 0 84 W
  have c44 := fun W => fits_any W n
  unfold admitS
  generalize fitS n = F at *
  clear h
  by_cases h0 : k < 0
  · rw [if_pos (Or.inl h0)]
    go_enter Tryz.func14, Tryz.ntmps14
    go_wp2_with (first | (go_at_call 32; refine c25.mono ?_; rintro e w' ⟨rfl, rfl⟩) | (go_at_call 27; refine (c _).mono ?_; rintro e w' ⟨v, rfl, hv, hb⟩; have HV : Hid _ := hv; have HB : Hid _ := hb; clear hv hb))
    go_ret
    exact ⟨_, rfl, HV.out, HB.out⟩
  · by_cases h3 : 3 ≤ k
    · rw [if_pos (Or.inr h3)]
      have hn : decide (k < 0) = false := by simpa using h0
      go_enter Tryz.func14, Tryz.ntmps14
      go_wp2_with (first | (go_at_call 32; refine c25.mono ?_; rintro e w' ⟨rfl, rfl⟩) | (go_at_call 27; refine (c _).mono ?_; rintro e w' ⟨v, rfl, hv, hb⟩; have HV : Hid _ := hv; have HB : Hid _ := hb; clear hv hb))
      go_ret
      exact ⟨_, rfl, HV.out, HB.out⟩
    · rw [if_neg (by omega)]
      have hn : decide (k < 0) = false := by simpa using h0
      have hn3 : decide (3 ≤ k) = false := by simpa using h3
      go_enter Tryz.func14, Tryz.ntmps14
      go_wp2_with (first | (go_at_call 32; refine c25.mono ?_; rintro e w' ⟨rfl, rfl⟩) | (go_at_call 16; refine (c44 _).mono ?_; rintro e w' ⟨v, rfl, hv, hb⟩; have HV : Hid _ := hv; have HB : Hid _ := hb; clear hv hb))
      go_ret
      exact ⟨_, rfl, HV.out, HB.out⟩

end Go.Proofs.YtegfgbcimlacbaaGreatDoor

import Derived.Test.YtaingbnfalibjaaDoorI
/-
  DERIVED. A day's text, read.
-/
namespace Go.Proofs.YtaingbnfalibjaaDoor
open Go Go.Proofs Go.RowKit

def PostE (w : World) (o : Option (Int × Int)) (e : Ending) (w' : World) : Prop := ∃ v, e = .returned v ∧ PErr w' v o ∧ Below w.heap.size w w'

set_option maxRecDepth 100000 in
set_option maxHeartbeats 1000000 in
theorem end78_any (w : World) (q : Nat) (f : Nat → Value) (s : ByteArray) (a : Nat) (b : Bool) (h : Cur w q f s a b) (o : Option (Int × Int)) (ho : (b = true ∨ a < s.size) ∧ o = some ((a : Int), 100) ∨ (b = false ∧ ¬ a < s.size) ∧ o = none) :
    Calls Tryd.prog 21 #[.pointer (some ⟨q, 0, none⟩)] w (PostE w o) := by
  obtain ⟨q0, q1, q2⟩ := h.cells
  clear h
  rcases ho with ⟨hb, rfl⟩ | ⟨⟨rfl, hb⟩, rfl⟩
  · have c24 := fun k => refusal_any (a : Int) 100 (w.drewN k)
    have hcase : b = true ∨ (b = false ∧ a < s.size) := by
      cases b with
      | true => exact .inl rfl
      | false => exact .inr ⟨rfl, by simpa using hb⟩
    clear hb
    rcases hcase with rfl | ⟨rfl, hl⟩
    · go_enter Tryd.func21, Tryd.ntmps21
      go_wp2
      go_quiet (fail)
      go_wp2_with (go_at_call 17; refine Stop.mk ?_)
      refine Stop.out ((c24 _).mono ?_)
      rintro e W1 ⟨v, rfl, hv, hb1⟩
      have HV : Hid (PErr W1 v (some ((a : Int), 100))) := hv
      have HB : Hid (Below w.heap.size w W1) := (below_drewN (Below.refl _ _) _).trans hb1
      clear hv hb1 c24
      go_wp2
      go_ret
      exact ⟨v, rfl, HV.out, HB.out⟩
    · have hlI : decide ((a : Int) < (s.size : Int)) = true := by simp; omega
      go_enter Tryd.func21, Tryd.ntmps21
      go_wp2
      go_quiet (fail)
      go_wp2_with (go_at_call 17; refine Stop.mk ?_)
      refine Stop.out ((c24 _).mono ?_)
      rintro e W1 ⟨v, rfl, hv, hb1⟩
      have HV : Hid (PErr W1 v (some ((a : Int), 100))) := hv
      have HB : Hid (Below w.heap.size w W1) := (below_drewN (Below.refl _ _) _).trans hb1
      clear hv hb1 c24
      go_wp2
      go_ret
      exact ⟨v, rfl, HV.out, HB.out⟩
  · have hlI : decide ((a : Int) < (s.size : Int)) = false := by simp; omega
    have hlN : decide (a < s.size) = false := by simp; omega
    go_enter Tryd.func21, Tryd.ntmps21
    go_wp2
    go_quiet (fail)
    go_wp2
    go_ret
    exact ⟨_, rfl, rfl, below_drewN (Below.refl _ _) _⟩

end Go.Proofs.YtaingbnfalibjaaDoor

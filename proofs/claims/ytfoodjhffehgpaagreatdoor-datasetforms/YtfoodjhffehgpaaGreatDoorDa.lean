import Derived.Test.YtfoodjhffehgpaaGreatDoorVf
import Derived.Test.YtfoodjhffehgpaaGreatDoorRL
import Derived.Test.YtfoodjhffehgpaaGreatDoorBn
import Derived.Test.YtfoodjhffehgpaaGreatDoorFd
section
/-
  DERIVED. Faults in chains, held against each other.
-/
namespace Go.Proofs.YtfoodjhffehgpaaGreatDoor
open Go Go.Proofs Go.RowKit

structure StopI (p : Prop) : Prop where
  out : p
/-- Links lie there. -/
def LkAt (w : World) (g : Nat) (ls : List Lk) : Prop := ∀ i (h : i < ls.length), w.cell? ⟨g, i * 2, none⟩ = some (.string (ls[i]'h).1) ∧ w.cell? ⟨g, i * 2 + 1, none⟩ = some (.int .i64 (ls[i]'h).2)
theorem LkAt.on {w w' : World} {g : Nat} {ls : List Lk} (h : LkAt w g ls) (hb : Below w.heap.size w w') : LkAt w' g ls := fun i hi => ⟨(hb.cell (Rp.cell_lt (h i hi).1)).trans (h i hi).1, (hb.cell (Rp.cell_lt (h i hi).2)).trans (h i hi).2⟩
theorem lk_own {w : World} {base g n cap : Nat} {ls : List Lk} (h : w.ownsRow base 66 2 (.slice (some ⟨g, 0, none⟩) n cap) n (lkc ls)) (hn : n = ls.length) : LkAt w g ls := fun i hi => by
  have h1 := World.ownsRow.cellAt h
  exact ⟨(h1 (i * 2) (by omega)).trans (lkc_get ls i hi).1, (h1 (i * 2 + 1) (by omega)).trans (lkc_get ls i hi).2⟩

end Go.Proofs.YtfoodjhffehgpaaGreatDoor
end

section
/-
  DERIVED. Which node may be an item: the document's look.
-/
namespace Go.Proofs.YtfoodjhffehgpaaGreatDoor
open Go Go.Proofs Go.RowKit
open Wk (Nd)

set_option maxRecDepth 100000 in
set_option maxHeartbeats 1000000 in
theorem ritem_any (w : World) (a : Nd) (d : Nat) (hd : d ≤ 1000) : Calls Tryz.prog 60 #[.agg #[.int .u32 a.t, .int .i64 a.v, .int .i64 a.n, .string a.s], .int .i64 (d : Int)] w fun e w' => e = .returned (.bool (itemOk a && decide (d ≤ 4))) ∧ Below w.heap.size w w' := by
  obtain ⟨R, hR⟩ : ∃ R, (itemOk a && decide (d ≤ 4)) = R := ⟨_, rfl⟩
  rw [hR]
  unfold itemOk at hR
  have HR : Hid _ := hR
  clear hR
  obtain ⟨t, v, n, s⟩ := a
  simp only at *
  by_cases h1 : t = 4294893568
  · subst h1
    by_cases h2 : v = 29
    · subst h2
      obtain ⟨z, hz⟩ : ∃ z, (s.toList == []) = z := ⟨_, rfl⟩
      cases z with
      | true =>
        by_cases h3 : 0 ≤ n
        · have HR2 : Hid (R = decide ((d : Int) ≤ 4)) := by
            have := HR.out
            rw [hz] at this
            simp [h3] at this
            show R = _
            rw [← this]
            by_cases hd4 : d ≤ 4
            · rw [show decide (d ≤ 4) = true by simpa using hd4]; symm; simp; omega
            · rw [show decide (d ≤ 4) = false by simpa using hd4]; symm; simp; omega
          go_enter Tryz.func60, Tryz.ntmps60
          go_wp2
          go_ret
          exact ⟨by rw [HR2.out]; rfl, (Below.refl _ _).alloc (Nat.le_refl _) _⟩
        · have HR2 : Hid (R = false) := by
            have := HR.out
            rw [hz] at this
            simp [h3] at this
            exact this
          go_enter Tryz.func60, Tryz.ntmps60
          go_wp2
          go_ret
          exact ⟨by rw [HR2.out]; rfl, (Below.refl _ _).alloc (Nat.le_refl _) _⟩
      | false =>
        have HR2 : Hid (R = false) := by
          have := HR.out
          rw [hz] at this
          simp at this
          exact this
        go_enter Tryz.func60, Tryz.ntmps60
        go_wp2
        go_ret
        exact ⟨by rw [HR2.out]; rfl, (Below.refl _ _).alloc (Nat.le_refl _) _⟩
    · have b2 : (v == 29) = false := beq_eq_false_iff_ne.2 h2
      have HR2 : Hid (R = false) := by
        have := HR.out
        simp [h2] at this
        exact this
      go_enter Tryz.func60, Tryz.ntmps60
      go_wp2
      go_ret
      exact ⟨by rw [HR2.out]; rfl, (Below.refl _ _).alloc (Nat.le_refl _) _⟩
  · have b1 : (t == 4294893568) = false := beq_eq_false_iff_ne.2 h1
    have HR2 : Hid (R = false) := by
      have := HR.out
      simp [h1] at this
      exact this
    go_enter Tryz.func60, Tryz.ntmps60
    go_wp2
    go_ret
    exact ⟨by rw [HR2.out]; rfl, (Below.refl _ _).alloc (Nat.le_refl _) _⟩
end Go.Proofs.YtfoodjhffehgpaaGreatDoor
end

import Derived.Test.YtnheeenkdjmhoaaDoorJ
/-
  DERIVED. NewFramer, Held of both; the document's framer in memory; what it does, pure.
-/
namespace Go.Proofs.YtnheeenkdjmhoaaDoor
open Go Go.Proofs Go.RowKit Go.Deep

theorem newFramer_any (w : World) : Calls Tryd.prog 7 #[] w fun e w' => e = .returned (.pointer (some ⟨w.heap.size, 0, none⟩)) ∧ FR w' w.heap.size (.slice none 0 0) 1 [] false ∧ Below w.heap.size w w' ∧ w'.heap.size = w.heap.size + 1 := by
  go_enter Tryd.func7, Tryd.ntmps7
  go_wp2
  go_ret
  refine ⟨rfl, ⟨World.rowIs_alloc w #[.int .i64 1, .slice none 0 0, .bool false] 56 (fC 1 (.slice none 0 0) false) ?_, World.ownsRow_nil _ _ _ _, by simp, by simp⟩, (Below.refl _ _).alloc (Nat.le_refl _) _, by simp⟩
  intro i hi
  have hi' : i < 3 := hi
  rcases (show i = 0 ∨ i = 1 ∨ i = 2 by omega) with rfl | rfl | rfl <;> rfl

/-- How many bytes wait. -/
def hd (s n : Nat) : Nat := if s = 3 then n + 1 else n

set_option maxRecDepth 100000 in
theorem held_any {w : World} {q : Nat} {u : Value} {s : Nat} {tx : List Nat} {lg : Bool} (h : FR w q u (s : Int) tx lg) : Calls Tryd.prog 9 #[.pointer (some ⟨q, 0, none⟩)] w fun e w' => e = .returned (.int .i64 (hd s tx.length : Nat)) ∧ w = w' := by
  obtain ⟨c0, c1, c2, cf⟩ := rowIs_cells h.row
  have hl := h.len
  obtain ⟨ao, cap, rfl⟩ := own_slice h.own
  clear h
  unfold hd
  by_cases hs : s = 3
  · subst hs
    rw [if_pos rfl]
    go_enter Tryd.func9, Tryd.ntmps9
    go_wp2
    go_ret
    exact ⟨by congr 2, rfl⟩
  · rw [if_neg hs]
    have e1 : ((s : Int) == 3) = false := by simp; omega
    go_enter Tryd.func9, Tryd.ntmps9
    go_wp2
    go_ret
    exact ⟨rfl, rfl⟩


end Go.Proofs.YtnheeenkdjmhoaaDoor

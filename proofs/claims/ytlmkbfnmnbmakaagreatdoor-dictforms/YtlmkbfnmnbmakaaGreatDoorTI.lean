
import Derived.Test.YtlmkbfnmnbmakaaGreatDoorTE
import Derived.Deep.RegionHeld3
import Derived.Laws.EntriesVeiled
import Derived.Deep.WholeRow
import Derived.Great.BuildSlice
/-
  DERIVED. A row of the program's dictionary, as an entry.
-/
namespace Go.Proofs.YtlmkbfnmnbmakaaGreatDoor.Tb
open Go Go.Proofs Go.RowKit

/-- Which bits of a tag count. -/
def maskN (t : Nat) : Nat := if t / 65536 = 24576 then 4293001215 else 4294967295

set_option maxRecDepth 100000 in
theorem group_any (w : World) (t : Nat) : Calls Tryz.prog 33 #[.int .u32 (t : Int)] w fun e w' => e = .returned (.int .u32 ((t / 65536 : Nat) : Int)) ∧ w = w' := by
  go_enter Tryz.func33, Tryz.ntmps33
  go_wp2
  go_ret
  exact ⟨by simp, rfl⟩

set_option maxRecDepth 100000 in
theorem mask_any (w : World) (t : Nat) (v l m : Int) (s : ByteArray) : Calls Tryz.prog 36 #[.agg #[.int .u32 (t : Int), .int .i64 v, .int .i64 l, .int .i64 m, .string s]] w fun e w' => e = .returned (.int .u32 (maskN t : Nat)) ∧ Below w.heap.size w w' := by
  have c := fun W => group_any W t
  by_cases hg : t / 65536 = 24576
  · have hm : maskN t = 4293001215 := by unfold maskN; rw [if_pos hg]
    have hgi : (((t / 65536 : Nat) : Int) == 24576) = true := by rw [hg]; rfl
    rw [hm]
    generalize t / 65536 = d at c hgi
    clear hm hg
    go_enter Tryz.func36, Tryz.ntmps36
    go_wp2_with (first | (go_at_call 33; refine (c _).mono ?_; rintro e w' ⟨rfl, rfl⟩) | fail)
    go_ret
    exact ⟨rfl, (Below.refl _ _).alloc (Nat.le_refl _) _⟩
  · have hm : maskN t = 4294967295 := by unfold maskN; rw [if_neg hg]
    have hgi : (((t / 65536 : Nat) : Int) == 24576) = false := beq_eq_false_iff_ne.2 (by omega)
    rw [hm]
    generalize t / 65536 = d at c hgi
    clear hm hg
    go_enter Tryz.func36, Tryz.ntmps36
    go_wp2_with (first | (go_at_call 33; refine (c _).mono ?_; rintro e w' ⟨rfl, rfl⟩) | fail)
    go_ret
    exact ⟨rfl, (Below.refl _ _).alloc (Nat.le_refl _) _⟩

/-- A row, as it lies in memory. -/
structure R5 (W : World) (g : Nat) (t v l m : Int) (s : ByteArray) : Prop where
  c0 : W.cell? ⟨g, 0, none⟩ = some (.int .u32 t)
  c1 : W.cell? ⟨g, 1, none⟩ = some (.int .i64 v)
  c2 : W.cell? ⟨g, 2, none⟩ = some (.int .i64 l)
  c3 : W.cell? ⟨g, 3, none⟩ = some (.int .i64 m)
  c4 : W.cell? ⟨g, 4, none⟩ = some (.string s)

theorem R5.after {W W' : World} {g : Nat} {t v l m : Int} {s : ByteArray} (hb : Below W.heap.size W W') (h : R5 W g t v l m s) : R5 W' g t v l m s :=
  ⟨(hb.cell (cell_lt h.c0)).trans h.c0, (hb.cell (cell_lt h.c1)).trans h.c1, (hb.cell (cell_lt h.c2)).trans h.c2, (hb.cell (cell_lt h.c3)).trans h.c3, (hb.cell (cell_lt h.c4)).trans h.c4⟩

theorem E6.after {W W' : World} {g : Nat} (hb : Below W.heap.size W W') (h : E6 W g) : E6 W' g := h.next hb

theorem below_after {w W W' : World} (hb : Below W.heap.size W W') (h : Below w.heap.size w W) : Below w.heap.size w W' := h.trans (hb.mono h.size)

end Go.Proofs.YtlmkbfnmnbmakaaGreatDoor.Tb

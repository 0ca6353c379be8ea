
import Derived.Test.YtfhapcnnalagjaaDoorR
/-
  DERIVED. The document's day of a number.
-/
namespace Go.Proofs.YtfhapcnnalagjaaDoor
open Go Go.Proofs Go.RowKit

def f3 (y m d : Int) : Nat → Value := fun k => if k = 0 then .int .i64 y else if k = 1 then .int .i64 m else .int .i64 d


structure M3 (w wx : World) (y m d : Int) : Prop where
  d : wx.rowIs (w.heap.size + 2) 45 3 (f3 y m d)
  r : wx.rowIs w.heap.size 45 3 (f3 0 0 0)
  e : wx.rowIs (w.heap.size + 1) 39 2 fN
  b : Below w.heap.size w wx
theorem M3.on {w wx wy : World} {y m d : Int} (h : M3 w wx y m d) (hb : Below wx.heap.size wx wy) : M3 w wy y m d :=
  ⟨row_on h.d hb, row_on h.r hb, row_on h.e hb, h.b.trans (hb.mono h.b.size)⟩
theorem M3.drewN {w wx : World} {y m d : Int} (h : M3 w wx y m d) (n : Nat) : M3 w (wx.drewN n) y m d :=
  ⟨h.d, h.r, h.e, below_drewN h.b _⟩
theorem M3.drew {w wx : World} {y m d : Int} (h : M3 w wx y m d) : M3 w wx.drew y m d :=
  ⟨h.d, h.r, h.e, h.b.drew⟩
theorem M3.set {w wx : World} {y m d y' m' d' : Int} (h : M3 w wx y m d) (i : Nat) (v : Value) (he : ∀ k, k < 3 → (if k = i then v else f3 y m d k) = f3 y' m' d' k) : M3 w (wx.setCell ⟨w.heap.size + 2, i, none⟩ v) y' m' d' :=
  ⟨(h.d.set i v).congr (fun k hk => he k hk), h.r.setOther (by simp) _, h.e.setOther (by simp) _, h.b.setCell (p := ⟨w.heap.size + 2, i, none⟩) (by simp) _⟩

structure M2 (w wx : World) : Prop where
  r : wx.rowIs w.heap.size 45 3 (f3 0 0 0)
  e : wx.rowIs (w.heap.size + 1) 39 2 fN
  b : Below w.heap.size w wx
theorem M2.on {w wx wy : World} (h : M2 w wx) (hb : Below wx.heap.size wx wy) : M2 w wy :=
  ⟨row_on h.r hb, row_on h.e hb, h.b.trans (hb.mono h.b.size)⟩
theorem M2.start (w : World) : M2 w ((w.alloc (.cells #[.int .i64 0, .int .i64 0, .int .i64 0] 45)).alloc (.cells #[.slice none 0 0, .int .i64 0] 39)) := by
  refine ⟨?_, ?_, ?_⟩
  · exact (World.rowIs_alloc w _ 45 _ (fun i hi => by
      rcases (by simp at hi; omega : i = 0 ∨ i = 1 ∨ i = 2) with rfl | rfl | rfl <;> rfl)).alloc _
  · have := World.rowIs_alloc (w.alloc (.cells #[.int .i64 0, .int .i64 0, .int .i64 0] 45)) #[.slice none 0 0, .int .i64 0] 39 fN (fun i hi => by
      rcases (by simp at hi; omega : i = 0 ∨ i = 1) with rfl | rfl <;> rfl)
    simpa using this
  · exact (((Below.refl _ _).alloc (Nat.le_refl _) _).alloc (by simp) _)
theorem M2.facts {w wx : World} (h : M2 w wx) : wx.cell? ⟨w.heap.size, 0, none⟩ = some (.int .i64 0) ∧ wx.cell? ⟨w.heap.size, 1, none⟩ = some (.int .i64 0) ∧ wx.cell? ⟨w.heap.size, 2, none⟩ = some (.int .i64 0) ∧ (∀ i, wx.frozen? ⟨w.heap.size, i, none⟩ = false) ∧ wx.cell? ⟨w.heap.size + 1, 0, none⟩ = some (.slice none 0 0) ∧ wx.cell? ⟨w.heap.size + 1, 1, none⟩ = some (.int .i64 0) ∧ (∀ i, wx.frozen? ⟨w.heap.size + 1, i, none⟩ = false) :=
  ⟨h.r.cell (i := 0) (by omega), h.r.cell (i := 1) (by omega), h.r.cell (i := 2) (by omega), fun i => h.r.frozen i, h.e.cell (i := 0) (by omega), h.e.cell (i := 1) (by omega), fun i => h.e.frozen i⟩
/-- The world once both results are stored. -/
def stored (w W : World) (y m d : Int) (a b : Value) : World := ((((W.setCell ⟨w.heap.size, 0, none⟩ (.int .i64 y)).setCell ⟨w.heap.size, 1, none⟩ (.int .i64 m)).setCell ⟨w.heap.size, 2, none⟩ (.int .i64 d)).setCell ⟨w.heap.size + 1, 0, none⟩ a).setCell ⟨w.heap.size + 1, 1, none⟩ b
theorem stored_below {w W : World} (h : Below w.heap.size w W) (y m d : Int) (a b : Value) : Below w.heap.size w (stored w W y m d a b) :=
  ((((h.setCell (p := ⟨w.heap.size, 0, none⟩) (Nat.le_refl _) _).setCell (p := ⟨w.heap.size, 1, none⟩) (Nat.le_refl _) _).setCell (p := ⟨w.heap.size, 2, none⟩) (Nat.le_refl _) _).setCell (p := ⟨w.heap.size + 1, 0, none⟩) (Nat.le_succ _) _).setCell (p := ⟨w.heap.size + 1, 1, none⟩) (Nat.le_succ _) _
theorem stored_err {w W : World} {v : Value} {o : Option (Int × Int)} (h : M2 w W) (hv : RErr W v o) (y m d : Int) (a b : Value) : RErr (stored w W y m d a b) v o := by
  obtain ⟨r0, _, _, _, s0, _, _⟩ := h.facts
  cases o with
  | none => exact hv
  | some x =>
    obtain ⟨g, k, rfl, h0, h1⟩ := hv
    have n1 : w.heap.size ≠ g := fun e => by rw [← e, r0] at h0; cases h0
    have n2 : w.heap.size + 1 ≠ g := fun e => by rw [← e, s0] at h0; cases h0
    exact ⟨g, k, rfl, (cell_set_off n2).trans ((cell_set_off n2).trans ((cell_set_off n1).trans ((cell_set_off n1).trans ((cell_set_off n1).trans h0)))), (cell_set_off n2).trans ((cell_set_off n2).trans ((cell_set_off n1).trans ((cell_set_off n1).trans ((cell_set_off n1).trans h1))))⟩

end Go.Proofs.YtfhapcnnalagjaaDoor

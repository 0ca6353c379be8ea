import Derived.Test.YtohojghndnfgdaaDoorE
import Derived.Deep.OwnRows
/-
  DERIVED. The places of the document's faults.
-/
namespace Go.Proofs.YtohojghndnfgdaaDoor
open Go Go.Proofs Go.RowKit

theorem none34_any (w : World) : Calls Tryd.prog 16 #[] w fun e w' => e = .returned (.agg #[.slice none 0 0, .int .i64 0]) ∧ Below w.heap.size w w' := by
  go_enter Tryd.func16, Tryd.ntmps16
  go_wp2
  refine bodyPost_ret (v := .agg #[.slice none 0 0, .int .i64 0]) (by simp [results, Tryd.results16, go_sem]) rfl ⟨rfl, ?_⟩
  repeat (first | exact Below.refl _ _ | refine Below.setCell ?_ (Nat.le_refl _) _ | refine Below.alloc ?_ (Nat.le_refl _) _)

def fN : Nat → Value := fun k => if k = 0 then .slice none 0 0 else .int .i64 0
def notStr : Value → Bool
  | .string _ => false
  | _ => true
theorem RErr.tset {W : World} {v : Value} {o : Option (Int × Int)} (h : RErr W v o) {B : Nat} {x : Value} (hx : notStr x = true) (h0 : W.cell? ⟨B, 0, none⟩ = some x) (i : Nat) (u : Value) : RErr (W.setCell ⟨B, i, none⟩ u) v o := by
  cases o with
  | none => exact h
  | some y =>
    obtain ⟨q, k, rfl, h1, h2⟩ := h
    have hne : q ≠ B := by rintro rfl; rw [h0] at h1; obtain rfl := Option.some.inj h1; cases hx
    have hb : (W.setCell ⟨B, i, none⟩ u).heap[q]? = W.heap[q]? := Below.heap_setCell W ⟨B, i, none⟩ u q hne
    exact ⟨q, k, rfl, (World.cell?_of_block (w := W) hb).trans h1, (World.cell?_of_block (w := W) hb).trans h2⟩
/-- A fault laid into its cell. -/
def putF (W : World) (B : Nat) (a b : Value) : World := (W.setCell ⟨B, 0, none⟩ a).setCell ⟨B, 1, none⟩ b
theorem putF_all {W : World} {B : Nat} (hr : W.rowIs B 32 2 fN) (a b : Value) (ha : notStr a = true) :
    (W.setCell ⟨B, 0, none⟩ a).cell? ⟨B, 0, none⟩ = some a ∧ (putF W B a b).cell? ⟨B, 1, none⟩ = some b ∧ (∀ {v o}, RErr W v o → RErr (putF W B a b) v o) := by
  have r1 := hr.set 0 a
  have r2 := r1.set 1 b
  refine ⟨r1.cell (i := 0) (by omega), r2.cell (i := 1) (by omega), fun h => ?_⟩
  exact (h.tset (x := .slice none 0 0) rfl (hr.cell (i := 0) (by omega)) 0 _).tset ha (r1.cell (i := 0) (by omega)) 1 _
theorem putF_below {w W : World} {B0 B : Nat} (h : Below B0 w W) (hB : B0 ≤ B) (a b : Value) : Below B0 w (putF W B a b) :=
  (h.setCell (p := ⟨B, 0, none⟩) hB _).setCell (p := ⟨B, 1, none⟩) hB _
theorem frow (w : World) : (w.alloc (.cells #[.slice none 0 0, .int .i64 0] 32)).rowIs w.heap.size 32 2 fN :=
  World.rowIs_alloc w #[.slice none 0 0, .int .i64 0] 32 fN (fun i hi => by
    have h3 : i = 0 ∨ i = 1 := by simp at hi; omega
    rcases h3 with rfl | rfl <;> rfl)
/-- The place of one fault that is to be told. -/
structure FC (w W : World) (B : Nat) : Prop where
  row : W.rowIs B 32 2 fN
  bel : Below B w W
theorem FC.start (w : World) : FC w (w.alloc (.cells #[.slice none 0 0, .int .i64 0] 32)) w.heap.size := ⟨frow w, (Below.refl _ _).alloc (Nat.le_refl _) _⟩
theorem FC.on {w W W' : World} {B : Nat} (h : FC w W B) (hb : Below W.heap.size W W') : FC w W' B :=
  ⟨h.row.of_block (hb.block B h.row.lt), h.bel.trans (hb.mono (Nat.le_of_lt h.row.lt))⟩
theorem FC.facts {w W : World} {B : Nat} (h : FC w W B) : W.cell? ⟨B, 0, none⟩ = some (.slice none 0 0) ∧ W.cell? ⟨B, 1, none⟩ = some (.int .i64 0) ∧ (∀ i, W.frozen? ⟨B, i, none⟩ = false) :=
  ⟨h.row.cell (i := 0) (by omega), h.row.cell (i := 1) (by omega), fun i => h.row.frozen i⟩
def PostF (w : World) (V : Value) (o : Option (Int × Int)) (e : Ending) (w' : World) : Prop := ∃ v, e = .returned (.tuple #[V, v]) ∧ RErr w' v o ∧ Below w.heap.size w w'
def PostP (w : World) (V : Value) (o : Option (Int × Int)) (e : Ending) (w' : World) : Prop := ∃ v, e = .returned (.tuple #[V, v]) ∧ PErr w' v o ∧ Below w.heap.size w w'

end Go.Proofs.YtohojghndnfgdaaDoor

import Derived.Test.YtiieikdbhpflgaaDoorE
import Derived.Test.YtiieikdbhpflgaaDoorG
/-
  DERIVED. New of both; what a provider tells.
-/
namespace Go.Proofs.YtiieikdbhpflgaaDoor
open Go Go.Proofs Go.RowKit

/-- A provider, but for the request that it keeps. -/
def Pv (w : World) (q : Nat) (art left sta : Int) (asked : Bool) : Prop :=
  w.cell? ⟨q, 0, none⟩ = some (.int .i64 art) ∧ w.cell? ⟨q, 1, none⟩ = some (.int .i64 left) ∧ w.cell? ⟨q, 2, none⟩ = some (.int .i64 sta) ∧ w.cell? ⟨q, 3, none⟩ = some (.bool asked)
theorem Pv.on {w w' : World} {q : Nat} {a l s : Int} {b : Bool} (h : Pv w q a l s b) (hb : Below w.heap.size w w') : Pv w' q a l s b :=
  ⟨(hb.cell (cell_lt h.1)).trans h.1, (hb.cell (cell_lt h.2.1)).trans h.2.1, (hb.cell (cell_lt h.2.2.1)).trans h.2.2.1, (hb.cell (cell_lt h.2.2.2)).trans h.2.2.2⟩

set_option maxRecDepth 100000 in
theorem new_ok (w : World) (a : Int) (h1 : 1 ≤ a) (h2 : a ≤ 1000) : Calls Tryd.prog 12 #[.int .i64 a] w fun e w' => e = .returned (.tuple #[.pointer (some ⟨w.heap.size, 0, none⟩), .nilIface]) ∧ Below w.heap.size w w' ∧ Pv w' w.heap.size a 0 1 false := by
  go_enter Tryd.func12, Tryd.ntmps12
  go_wp2
  all_goals first | (exfalso; omega) | skip
  refine bodyPost_ret (v := .tuple #[.pointer (some ⟨w.heap.size, 0, none⟩), .nilIface]) (by simp [results, Tryd.results12, go_sem]) rfl ⟨rfl, (Below.refl _ _).alloc (Nat.le_refl _) _, ?_⟩
  refine ⟨?_, ?_, ?_, ?_⟩ <;> simp

set_option maxRecDepth 100000 in
theorem new_no (w : World) (a : Int) (h : a < 1 ∨ 1000 < a) : Calls Tryd.prog 12 #[.int .i64 a] w fun e w' => ∃ v, e = .returned (.tuple #[.pointer none, v]) ∧ Below w.heap.size w w' ∧ PErr w' v (some (0, 180)) := by
  have hr := refusal_any 0 180
  go_enter Tryd.func12, Tryd.ntmps12
  go_wp2_with (go_at_call 30; refine (hr _).mono ?_; rintro x W ⟨v, rfl, hp, hb⟩)
  all_goals first | (exfalso; omega) | skip
  all_goals exact bodyPost_ret (v := .tuple #[.pointer none, v]) (by simp [results, Tryd.results12, go_sem]) rfl ⟨v, rfl, hb, hp⟩

/-- The document's provider, but for the request. -/
def Rv (w : World) (q : Nat) (art sta : Int) (asked timed : Bool) (left : Int) : Prop :=
  w.cell? ⟨q, 0, none⟩ = some (.int .i64 art) ∧ w.cell? ⟨q, 1, none⟩ = some (.int .i64 sta) ∧ w.cell? ⟨q, 2, none⟩ = some (.bool asked) ∧ w.cell? ⟨q, 3, none⟩ = some (.bool timed) ∧ w.cell? ⟨q, 4, none⟩ = some (.int .i64 left)
theorem Rv.on {w w' : World} {q : Nat} {a s l : Int} {b c : Bool} (h : Rv w q a s b c l) (hb : Below w.heap.size w w') : Rv w' q a s b c l :=
  ⟨(hb.cell (cell_lt h.1)).trans h.1, (hb.cell (cell_lt h.2.1)).trans h.2.1, (hb.cell (cell_lt h.2.2.1)).trans h.2.2.1, (hb.cell (cell_lt h.2.2.2.1)).trans h.2.2.2.1, (hb.cell (cell_lt h.2.2.2.2)).trans h.2.2.2.2⟩

theorem none0_any (w : World) : Calls Tryd.prog 37 #[] w fun e w' => e = .returned (.agg #[.slice none 0 0, .int .i64 0]) ∧ Below w.heap.size w w' := by
  go_enter Tryd.func37, Tryd.ntmps37
  go_wp2
  exact bodyPost_ret (v := .agg #[.slice none 0 0, .int .i64 0]) (by simp [results, Tryd.results37, go_sem]) rfl ⟨rfl, (Below.refl _ _).alloc (Nat.le_refl _) _⟩

set_option maxRecDepth 100000 in
theorem rnew_ok (w : World) (a : Int) (h1 : 1 ≤ a) (h2 : a ≤ 1000) : Calls Tryd.prog 18 #[.int .i64 a] w fun e w' => ∃ q, e = .returned (.tuple #[.pointer (some ⟨q, 0, none⟩), .agg #[.slice none 0 0, .int .i64 0]]) ∧ Below w.heap.size w w' ∧ Rv w' q a 1 false false 0 := by
  go_enter Tryd.func18, Tryd.ntmps18
  go_wp2_with (go_at_call 37; refine (none0_any _).mono ?_; rintro x W ⟨rfl, hb⟩; have z0 : W.cell? ⟨w.heap.size, 0, none⟩ = some (.slice none 0 0) := (hb.cell (p := ⟨w.heap.size, 0, none⟩) (by simp; omega)).trans (by simp); have z1 : W.cell? ⟨w.heap.size, 1, none⟩ = some (.int .i64 0) := (hb.cell (p := ⟨w.heap.size, 1, none⟩) (by simp; omega)).trans (by simp); have zf : ∀ i, W.frozen? ⟨w.heap.size, i, none⟩ = false := fun i => (hb.frozen (p := ⟨w.heap.size, i, none⟩) (by simp; omega)).trans (by simp))
  all_goals first | (exfalso; omega) | skip
  refine bodyPost_ret (v := .tuple #[.pointer (some ⟨w.heap.size + 1, 0, none⟩), .agg #[.slice none 0 0, .int .i64 0]]) (by simp [results, Tryd.results18, go_sem, z0, z1]) rfl ⟨w.heap.size + 1, rfl, ?_, ?_⟩
  · exact (((((Below.refl _ _).alloc (Nat.le_refl _) _).alloc (by simp) _).trans (hb.mono (by simp; omega))).setCell (p := ⟨w.heap.size, 0, none⟩) (Nat.le_refl _) _).setCell (p := ⟨w.heap.size, 1, none⟩) (Nat.le_refl _) _
  · refine ⟨?_, ?_, ?_, ?_, ?_⟩ <;> exact (cell_set_off (by omega)).trans ((cell_set_off (by omega)).trans ((hb.cell (by simp)).trans (by simp)))

set_option maxRecDepth 100000 in
theorem rnew_no (w : World) (a : Int) (h : a < 1 ∨ 1000 < a) : Calls Tryd.prog 18 #[.int .i64 a] w fun e w' => ∃ v, e = .returned (.tuple #[.pointer none, v]) ∧ Below w.heap.size w w' ∧ RErr w' v (some (0, 180)) := by
  go_enter Tryd.func18, Tryd.ntmps18
  go_wp2_with (go_at_call 36; refine (new0_any 180 0 _).mono ?_; rintro x W ⟨rfl, hb, h0, h1, h2⟩; have z0 : W.cell? ⟨w.heap.size, 0, none⟩ = some (.slice none 0 0) := (hb.cell (p := ⟨w.heap.size, 0, none⟩) (by simp)).trans (by simp); have z1 : W.cell? ⟨w.heap.size, 1, none⟩ = some (.int .i64 0) := (hb.cell (p := ⟨w.heap.size, 1, none⟩) (by simp)).trans (by simp); have zf : ∀ i, W.frozen? ⟨w.heap.size, i, none⟩ = false := fun i => (hb.frozen (p := ⟨w.heap.size, i, none⟩) (by simp)).trans (by simp))
  all_goals first | (exfalso; omega) | skip
  all_goals
    refine bodyPost_ret (v := .tuple #[.pointer none, .agg #[.slice (some ⟨w.heap.size + 1 + 1, 0, none⟩) 1 1, .int .i64 180]]) (by simp [results, Tryd.results18, go_sem, z0, z1]) rfl ⟨_, rfl, ?_, ?_⟩
    · exact ((((Below.refl _ _).alloc (Nat.le_refl _) _).trans (hb.mono (by simp))).setCell (p := ⟨w.heap.size, 0, none⟩) (Nat.le_refl _) _).setCell (p := ⟨w.heap.size, 1, none⟩) (Nat.le_refl _) _
    · refine ⟨w.heap.size + 1 + 1, 1, rfl, ?_, ?_⟩
      · exact (cell_set_off (by omega)).trans ((cell_set_off (by omega)).trans (by simpa using h0))
      · exact (cell_set_off (by omega)).trans ((cell_set_off (by omega)).trans (by simpa using h1))

theorem runs_any (w : World) (q : Nat) (l : Int) (h : w.cell? ⟨q, 1, none⟩ = some (.int .i64 l)) : Calls Tryd.prog 35 #[.pointer (some ⟨q, 0, none⟩)] w fun e w' => e = .returned (.bool (decide (0 < l))) ∧ w' = w := by
  go_enter Tryd.func35, Tryd.ntmps35
  go_wp2
  go_ret
  exact ⟨rfl, rfl⟩

set_option maxRecDepth 100000 in
set_option maxHeartbeats 4000000 in
theorem state_any (w : World) (q : Nat) (a l s : Int) (b : Bool) (h : Pv w q a l s b) : Calls Tryd.prog 15 #[.pointer (some ⟨q, 0, none⟩)] w fun e w' => e = .returned (.agg #[.int .i64 s, .bool b, .bool (decide (0 < l)), .int .i64 l]) ∧ Below w.heap.size w w' := by
  obtain ⟨h0, h1, h2, h3⟩ := h
  have hq : q < w.heap.size := cell_lt h0
  have hr := fun W (h : W.cell? ⟨q, 1, none⟩ = some (.int .i64 l)) => runs_any W q l h
  obtain ⟨W1, hW1⟩ : ∃ W1, w.alloc (.cells #[.int .i64 0, .bool false, .bool false, .int .i64 0] 53) = W1 := ⟨_, rfl⟩
  have hb1 : Below w.heap.size w W1 := hW1 ▸ (Below.refl _ _).alloc (Nat.le_refl _) _
  have g0 := (hb1.cell (p := ⟨q, 0, none⟩) hq).trans h0
  have g1 := (hb1.cell (p := ⟨q, 1, none⟩) hq).trans h1
  have g2 := (hb1.cell (p := ⟨q, 2, none⟩) hq).trans h2
  have g3 := (hb1.cell (p := ⟨q, 3, none⟩) hq).trans h3
  have z0 : W1.cell? ⟨w.heap.size, 0, none⟩ = some (.int .i64 0) := by rw [← hW1]; simp
  have z1 : W1.cell? ⟨w.heap.size, 1, none⟩ = some (.bool false) := by rw [← hW1]; simp
  have z2 : W1.cell? ⟨w.heap.size, 2, none⟩ = some (.bool false) := by rw [← hW1]; simp
  have z3 : W1.cell? ⟨w.heap.size, 3, none⟩ = some (.int .i64 0) := by rw [← hW1]; simp
  have zf : ∀ i, W1.frozen? ⟨w.heap.size, i, none⟩ = false := fun i => by rw [← hW1]; simp
  go_enter Tryd.func15, Tryd.ntmps15
  go_wp2
  clear hW1 h0 h1 h2 h3
  go_region_with (go_at_call 35; refine (hr _ (by simpa using g1)).mono ?_; rintro x W ⟨rfl, rfl⟩)
  all_goals
    go_wp2
    exact bodyPost_ret (v := .agg #[.int .i64 s, .bool b, .bool (decide (0 < l)), .int .i64 l]) (by simp [results, Tryd.results15, go_sem, z0, z1, z2, z3]) rfl ⟨rfl, ((((hb1.setCell (p := ⟨w.heap.size, 0, none⟩) (Nat.le_refl _) _).setCell (p := ⟨w.heap.size, 1, none⟩) (Nat.le_refl _) _).setCell (p := ⟨w.heap.size, 2, none⟩) (Nat.le_refl _) _).setCell (p := ⟨w.heap.size, 3, none⟩) (Nat.le_refl _) _).drew⟩
end Go.Proofs.YtiieikdbhpflgaaDoor

import Derived.Test.YtngmleddlfkecaaDoorM
import Derived.Test.YtngmleddlfkecaaDoorN
namespace Go.Proofs.YtngmleddlfkecaaDoor
open Go Go.Proofs Go.RowKit

/-- A fault of this layer, as it lies in memory. -/
def FaultAt (w : World) (q : Nat) (a c : Int) : Prop :=
  w.cell? ⟨q, 0, none⟩ = some (.string { data := #[106, 111, 117, 114, 110, 97, 108] }) ∧ w.cell? ⟨q, 1, none⟩ = some (.int .i64 a) ∧ w.cell? ⟨q, 2, none⟩ = some (.iface 59 (.int .i64 c))

theorem FaultAt.next {w w' : World} {q : Nat} {a c : Int} (h : FaultAt w q a c) (hb : Below w.heap.size w w') : FaultAt w' q a c :=
  ⟨(hb.cell (cell_lt h.1)).trans h.1, (hb.cell (cell_lt h.2.1)).trans h.2.1, (hb.cell (cell_lt h.2.2)).trans h.2.2⟩

def noScan : Value := .agg #[.int .u64 0, .slice none 0 0, .slice none 0 0, .int .i64 0]

theorem refusal_fault (a c : Int) (w : World) : Calls Tryd.prog 26 #[.int .i64 a, .int .i64 c] w fun e w' => ∃ q, e = .returned (.iface 67 (.pointer (some ⟨q, 0, none⟩))) ∧ FaultAt w' q a c ∧ w.heap.size ≤ q ∧ Below w.heap.size w w' := by
  refine (refusal_any a c w).mono ?_
  rintro e w' ⟨rfl, rfl⟩
  exact ⟨_, rfl, ⟨by simp, by simp, by simp⟩, Nat.le_refl _, (Below.refl _ _).alloc (Nat.le_refl _) _⟩

/-- The cell of a scan's result, still empty. -/
structure Rc (W : World) (g : Nat) : Prop where
  c0 : W.cell? ⟨g, 0, none⟩ = some (.int .u64 0)
  c1 : W.cell? ⟨g, 1, none⟩ = some (.slice none 0 0)
  c2 : W.cell? ⟨g, 2, none⟩ = some (.slice none 0 0)
  c3 : W.cell? ⟨g, 3, none⟩ = some (.int .i64 0)
  cf : ∀ i, W.frozen? ⟨g, i, none⟩ = false

theorem Rc.next {W W' : World} {g : Nat} (h : Rc W g) (hb : Below W.heap.size W W') : Rc W' g :=
  ⟨(hb.cell (cell_lt h.c0)).trans h.c0, (hb.cell (cell_lt h.c1)).trans h.c1, (hb.cell (cell_lt h.c2)).trans h.c2, (hb.cell (cell_lt h.c3)).trans h.c3, fun i => (hb.frozen (p := ⟨g, i, none⟩) (show g < _ from cell_lt h.c0)).trans (h.cf i)⟩

theorem FaultAt.set {w : World} {q : Nat} {a c : Int} (h : FaultAt w q a c) {g i : Nat} (hg : g ≠ q) (v : Value) : FaultAt (w.setCell ⟨g, i, none⟩ v) q a c :=
  ⟨(cell_set_off hg).trans h.1, (cell_set_off hg).trans h.2.1, (cell_set_off hg).trans h.2.2⟩

theorem Rc.set {W : World} {g : Nat} (h : Rc W g) (x0 x1 x2 x3 : Value) :
    let U := (((W.setCell ⟨g, 0, none⟩ x0).setCell ⟨g, 1, none⟩ x1).setCell ⟨g, 2, none⟩ x2).setCell ⟨g, 3, none⟩ x3
    U.cell? ⟨g, 0, none⟩ = some x0 ∧ U.cell? ⟨g, 1, none⟩ = some x1 ∧ U.cell? ⟨g, 2, none⟩ = some x2 ∧ U.cell? ⟨g, 3, none⟩ = some x3 := by
  refine ⟨?_, ?_, ?_, ?_⟩
  · exact (cell_set_ne (by decide)).trans ((cell_set_ne (by decide)).trans ((cell_set_ne (by decide)).trans (cell_set_eq h.c0)))
  · exact (cell_set_ne (by decide)).trans ((cell_set_ne (by decide)).trans (cell_set_eq ((cell_set_ne (by decide)).trans h.c1)))
  · exact (cell_set_ne (by decide)).trans (cell_set_eq ((cell_set_ne (by decide)).trans ((cell_set_ne (by decide)).trans h.c2)))
  · exact cell_set_eq ((cell_set_ne (by decide)).trans ((cell_set_ne (by decide)).trans ((cell_set_ne (by decide)).trans h.c3)))

set_option maxRecDepth 100000 in
theorem scan_no1 {w : World} {b off l cap : Nat} {d : List Nat} (h : At w b off d) (hT : Tab w) (hlen : d.length = l) (hc : l < cap) (hl : l ≤ 400000) (hH : headP d = false) :
    Calls Tryd.prog 10 #[.slice (some ⟨b, off, none⟩) l cap] w fun e w' => ∃ q, e = .returned (.tuple #[noScan, .iface 67 (.pointer (some ⟨q, 0, none⟩))]) ∧ FaultAt w' q 0 43 ∧ Below w.heap.size w w' := by
  obtain ⟨W1, hW1⟩ : ∃ W1, w.alloc (.cells #[.int .u64 0, .slice none 0 0, .slice none 0 0, .int .i64 0] 34) = W1 := ⟨_, rfl⟩
  have hb1 : Below w.heap.size w W1 := hW1 ▸ (Below.refl _ _).alloc (Nat.le_refl _) _
  have c := head_no (h.next hb1) (hT.next hb1) hlen hc hl hH
  have hs1 : w.heap.size < W1.heap.size := by rw [← hW1]; simp
  have rc : Rc W1 w.heap.size := by
    rw [← hW1]
    exact ⟨by simp, by simp, by simp, by simp, fun i => by simp⟩
  unfold noHead at c
  clear h hT hlen hH
  go_enter Tryd.func10, Tryd.ntmps10
  go_wp2_with (first | (go_at_call 30; refine c.mono ?_; rintro e w' ⟨rfl, m, rfl⟩) | (go_at_call 26; refine (refusal_fault _ _ _).mono ?_; rintro e W2 ⟨q, rfl, hf, hq, hb2⟩; have hb2' : Below W1.heap.size W1 W2 := (below_drewN (Below.refl _ _) m).trans hb2; obtain ⟨b0, b1, b2, b3, bf⟩ := rc.next hb2'))
  have hqw : w.heap.size ≠ q := by simp at hq; omega
  have hsets := Rc.set ⟨b0, b1, b2, b3, bf⟩ (.int .u64 0) (.slice none 0 0) (.slice none 0 0) (.int .i64 0)
  simp only at hsets
  obtain ⟨u0, u1, u2, u3⟩ := hsets
  refine bodyPost_ret (v := .tuple #[noScan, .iface 67 (.pointer (some ⟨q, 0, none⟩))]) (by simp only [results, Tryd.results10]; simp [go_sem, u0, u1, u2, u3, noScan]) rfl ⟨q, rfl, (((hf.set hqw _).set hqw _).set hqw _).set hqw _, ?_⟩
  exact ((((hb1.trans (hb2'.mono hb1.size)).setCell (p := ⟨w.heap.size, 0, none⟩) (Nat.le_refl _) _).setCell (p := ⟨w.heap.size, 1, none⟩) (Nat.le_refl _) _).setCell (p := ⟨w.heap.size, 2, none⟩) (Nat.le_refl _) _).setCell (p := ⟨w.heap.size, 3, none⟩) (Nat.le_refl _) _
end Go.Proofs.YtngmleddlfkecaaDoor

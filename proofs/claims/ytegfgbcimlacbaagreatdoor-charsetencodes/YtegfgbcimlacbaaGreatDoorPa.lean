
import Derived.Test.YtegfgbcimlacbaaGreatDoorOe
/-
  DERIVED. Escapes: which repertoire holds behind one.
-/
namespace Go.Proofs.YtegfgbcimlacbaaGreatDoor
open Go Go.Proofs Go.RowKit Go.Maps

/-- Does the text begin so? -/
def pre (s p : ByteArray) : Bool := decide (p.size ≤ s.size) && ((s.extract 0 p.size).toList == p.toList)

set_option maxRecDepth 100000 in
theorem pre86_any (w : World) (s p : ByteArray) : Calls Tryz.prog 65 #[.string s, .string p] w fun e w' => e = .returned (.bool (pre s p)) ∧ w = w' := by
  unfold pre
  by_cases h : p.size ≤ s.size
  · have d : decide (p.size ≤ s.size) = true := by simpa using h
    have hi : (p.size : Int) ≤ (s.size : Int) := by omega
    rw [d, Bool.true_and]
    generalize hx : ((s.extract 0 p.size).toList == p.toList) = x
    clear d
    go_enter Tryz.func65, Tryz.ntmps65
    go_wp2
    go_ret
    exact ⟨rfl, rfl⟩
  · have d : decide (p.size ≤ s.size) = false := by simpa using h
    have hi : (s.size : Int) < (p.size : Int) := by omega
    rw [d, Bool.false_and]
    clear d
    go_enter Tryz.func65, Tryz.ntmps65
    go_wp2
    go_ret
    exact ⟨rfl, rfl⟩

theorem pre_any (w : World) (s p : ByteArray) : Calls Tryz.prog 52 #[.string s, .string p] w fun e w' => e = .returned (.bool (pre s p)) ∧ w = w' := by
  have c := pre86_any w s p
  generalize pre s p = x at c ⊢
  go_enter Tryz.func52, Tryz.ntmps52
  go_wp2_with (go_at_call 65; refine c.mono ?_; rintro e w' ⟨rfl, rfl⟩)
  go_ret
  exact ⟨rfl, rfl⟩

/-- A repertoire as a value. -/
def rowV (r : Row) : Value := .agg #[.int .i64 (r.1 : Int), .string r.2.1, .string (sp (3 * r.1 + 2)), .func (.func (mfN r.1)) #[] #[], .func (.func 75) #[] (caps r.2.2)]

/-- The row whose escape the text begins with. -/
def escL (s : ByteArray) : List Row → Option Row
  | [] => none
  | r :: R => if pre s (sp (3 * r.1 + 2)) then some r else escL s R
/-- What holds behind the escape that a text begins with. -/
def turnS (s : ByteArray) (R : List Row) (h : Row) : Row × Bool :=
  if pre s (sp 2) then (h, true) else match escL s R with
    | some r => (r, true)
    | none => (h, false)

theorem escL_skip (s : ByteArray) : ∀ (R : List Row) (k : Nat), (∀ a ∈ R.take k, pre s (sp (3 * a.1 + 2)) = false) → escL s R = escL s (R.drop k)
  | R, 0, _ => rfl
  | [], k + 1, _ => by simp
  | a :: R, k + 1, h => by
    rw [escL, if_neg (by rw [h a (by simp)]; decide), List.drop_succ_cons]
    exact escL_skip s R k (fun b hb => h b (by simp [hb]))

def TurnInv (w W0 : World) (s : ByteArray) (R : List Row) (n : Nat) (y : Value) (wr : World) : Prop :=
  ∃ k : Nat, y = .int .i64 (k : Int) ∧ k ≤ n ∧ Below W0.heap.size W0 wr ∧ Below w.heap.size w wr ∧ ∀ a ∈ R.take k, pre s (sp (3 * a.1 + 2)) = false

/-- A row's five cells. -/
structure Row5 (w : World) (g o : Nat) (r : Row) : Prop where
  c0 : w.cell? ⟨g, o, none⟩ = some (.int .i64 (r.1 : Int))
  c1 : w.cell? ⟨g, o + 1, none⟩ = some (.string r.2.1)
  c2 : w.cell? ⟨g, o + 2, none⟩ = some (.string (sp (3 * r.1 + 2)))
  c3 : w.cell? ⟨g, o + 3, none⟩ = some (.func (.func (mfN r.1)) #[] #[])
  c4 : w.cell? ⟨g, o + 4, none⟩ = some (.func (.func 75) #[] (caps r.2.2))
theorem Row5.on {w w' : World} {g o : Nat} {r : Row} (h : Row5 w g o r) {B : Nat} (hb : Below B w w') (hg : g < B) : Row5 w' g o r :=
  ⟨(hb.cell (p := ⟨g, o, none⟩) hg).trans h.c0, (hb.cell (p := ⟨g, o + 1, none⟩) hg).trans h.c1, (hb.cell (p := ⟨g, o + 2, none⟩) hg).trans h.c2, (hb.cell (p := ⟨g, o + 3, none⟩) hg).trans h.c3, (hb.cell (p := ⟨g, o + 4, none⟩) hg).trans h.c4⟩
theorem Row5.new (w : World) (r : Row) : Row5 (w.alloc (.cells #[.int .i64 (r.1 : Int), .string r.2.1, .string (sp (3 * r.1 + 2)), .func (.func (mfN r.1)) #[] #[], .func (.func 75) #[] (caps r.2.2)] 82)) w.heap.size 0 r :=
  ⟨by simp, by simp, by simp, by simp, by simp⟩

/-- A row written over a row's place. -/
theorem row_written {W : World} {g : Nat} {z0 z1 z2 z3 z4 : Value} (r : Row) (y0 : W.cell? ⟨g, 0, none⟩ = some z0) (y1 : W.cell? ⟨g, 1, none⟩ = some z1) (y2 : W.cell? ⟨g, 2, none⟩ = some z2) (y3 : W.cell? ⟨g, 3, none⟩ = some z3) (y4 : W.cell? ⟨g, 4, none⟩ = some z4) :
    Row5 (((((W.setCell ⟨g, 0, none⟩ (.int .i64 (r.1 : Int))).setCell ⟨g, 1, none⟩ (.string r.2.1)).setCell ⟨g, 2, none⟩ (.string (sp (3 * r.1 + 2)))).setCell ⟨g, 3, none⟩ (.func (.func (mfN r.1)) #[] #[])).setCell ⟨g, 4, none⟩ (.func (.func 75) #[] (caps r.2.2))) g 0 r :=
  ⟨(cell_set_ne (by decide)).trans ((cell_set_ne (by decide)).trans ((cell_set_ne (by decide)).trans ((cell_set_ne (by decide)).trans (cell_set_eq y0)))),
   (cell_set_ne (by decide)).trans ((cell_set_ne (by decide)).trans ((cell_set_ne (by decide)).trans (cell_set_eq ((cell_set_ne (by decide)).trans y1)))),
   (cell_set_ne (by decide)).trans ((cell_set_ne (by decide)).trans (cell_set_eq ((cell_set_ne (by decide)).trans ((cell_set_ne (by decide)).trans y2)))),
   (cell_set_ne (by decide)).trans (cell_set_eq ((cell_set_ne (by decide)).trans ((cell_set_ne (by decide)).trans ((cell_set_ne (by decide)).trans y3)))),
   cell_set_eq ((cell_set_ne (by decide)).trans ((cell_set_ne (by decide)).trans ((cell_set_ne (by decide)).trans ((cell_set_ne (by decide)).trans y4))))⟩

end Go.Proofs.YtegfgbcimlacbaaGreatDoor

import Derived.Test.YtidcjobokfgeoaaE
import Derived.Deep.CutRange
/-
  DERIVED. Keys for all that is known at the top, read.
-/
namespace Go.Proofs.Ytidcjobokfgeoaa
open Go Go.Proofs Go.RowKit

def cl (t v n : Int) (s : ByteArray) (f : Value) : List Value := [.int .u32 t, .int .i64 v, .int .i64 n, .string s, f]
theorem cl_one (t v n : Int) (s : ByteArray) (f : Value) (hf : f.oneCell' = true) : ∀ u ∈ cl t v n s f, u.oneCell' = true := by
  intro u hu
  simp [cl] at hu
  rcases hu with rfl | rfl | rfl | rfl | rfl <;> first | rfl | exact hf
theorem fnK_form (p t : Int) : fnK (firstK p t 0 21) = .nilFunc ∨ ∃ k, fnK (firstK p t 0 21) = .func (.func k) #[] #[] := by
  cases h : firstK p t 0 21 with
  | none => exact .inl rfl
  | some j => exact fn_form j (by have := firstK_lt 21 0 p t j h; omega)
theorem fnK_one (p t : Int) : (fnK (firstK p t 0 21)).oneCell' = true := by
  rcases fnK_form p t with h | ⟨k, h⟩ <;> rw [h] <;> rfl

def kx (i : Nat) : Nat := if i < 10 then i else 20
def kc (i : Nat) : List Value := cl (tg (kx i)) (vr (kx i)) 0 ⟨#[]⟩ (fnK (firstK 0 (tg (kx i)) 0 21))
def ic (j : Nat) : List Value := cl (tg (10 + j)) (vr (10 + j)) 0 ⟨#[]⟩ (fnK (firstK 1 (tg (10 + j)) 0 21))
def ics (j : Nat) : List Value := (List.range j).flatMap ic
def stp : List Value := cl 4194560 18 1 ⟨#[]⟩ .nilFunc ++ cl 4294893568 29 10 ⟨#[]⟩ .nilFunc
/-- What was read of the first keys. -/
def qc (i : Nat) : List Value := if i ≤ 9 then (List.range i).flatMap kc else if i = 10 then (List.range 9).flatMap kc ++ stp ++ ics 10 else (List.range 9).flatMap kc ++ stp ++ ics 10 ++ kc 10
def qn (i : Nat) : Nat := if i ≤ 9 then i else i + 11
theorem qc_next {i : Nat} (hi : i < 11) (h9 : i ≠ 9) : qc (i + 1) = qc i ++ kc i ∧ qn (i + 1) = qn i + 1 := by
  unfold qc qn
  by_cases h : i < 9
  · rw [if_pos (by omega), if_pos (by omega), if_pos (by omega), if_pos (by omega), List.range_succ, List.flatMap_append]
    simp
  · obtain rfl : i = 10 := by omega
    exact ⟨rfl, rfl⟩
theorem ics_next (j : Nat) : ics (j + 1) = ics j ++ ic j := by
  unfold ics
  rw [List.range_succ, List.flatMap_append]
  simp

theorem krow : ∀ i, i < 11 → (bk 0 21)[i * 4]? = some (.int .u32 (tg (kx i))) ∧ (bk 0 21)[i * 4 + 1]? = some (.int .i64 (vr (kx i))) ∧ (bk 0 21)[i * 4 + 2]? = some (.int .i64 0) ∧ (bk 0 21)[i * 4 + 3]? = some (.string ⟨#[]⟩) := by
  intro i hi
  have : i = 0 ∨ i = 1 ∨ i = 2 ∨ i = 3 ∨ i = 4 ∨ i = 5 ∨ i = 6 ∨ i = 7 ∨ i = 8 ∨ i = 9 ∨ i = 10 := by omega
  rcases this with rfl | rfl | rfl | rfl | rfl | rfl | rfl | rfl | rfl | rfl | rfl <;> exact ⟨rfl, rfl, rfl, rfl⟩
theorem irow : ∀ j, j < 10 → itm[(j + 1) * 4]? = some (.int .u32 (tg (10 + j))) ∧ itm[(j + 1) * 4 + 1]? = some (.int .i64 (vr (10 + j))) ∧ itm[(j + 1) * 4 + 2]? = some (.int .i64 0) ∧ itm[(j + 1) * 4 + 3]? = some (.string ⟨#[]⟩) := by
  intro i hi
  have : i = 0 ∨ i = 1 ∨ i = 2 ∨ i = 3 ∨ i = 4 ∨ i = 5 ∨ i = 6 ∨ i = 7 ∨ i = 8 ∨ i = 9 := by omega
  rcases this with rfl | rfl | rfl | rfl | rfl | rfl | rfl | rfl | rfl | rfl <;> exact ⟨rfl, rfl, rfl, rfl⟩
theorem ktag : ∀ i, i < 11 → i ≠ 9 → tg (kx i) ≠ 4194560 := by
  intro i hi h9
  have : i = 0 ∨ i = 1 ∨ i = 2 ∨ i = 3 ∨ i = 4 ∨ i = 5 ∨ i = 6 ∨ i = 7 ∨ i = 8 ∨ i = 10 := by omega
  rcases this with rfl | rfl | rfl | rfl | rfl | rfl | rfl | rfl | rfl | rfl <;> decide
theorem ivr : ∀ j, j < 10 → vr (10 + j) ≠ 29 := by
  intro i hi
  have : i = 0 ∨ i = 1 ∨ i = 2 ∨ i = 3 ∨ i = 4 ∨ i = 5 ∨ i = 6 ∨ i = 7 ∨ i = 8 ∨ i = 9 := by omega
  rcases this with rfl | rfl | rfl | rfl | rfl | rfl | rfl | rfl | rfl | rfl <;> decide

/-- While keys are read: n cells stand in q; the table lies in block g. -/
structure RdI (w : World) (g : Nat) (n : Nat) (xs : List Value) (q : Value) (wx : World) : Prop where
  own : wx.ownsRow (w.heap.size + 1) 47 5 q n xs
  tb : Tb g wx
  sz : w.heap.size + 1 ≤ wx.heap.size
  b : Below w.heap.size w wx
theorem RdI.on {w wr wx : World} {g n : Nat} {xs : List Value} {q : Value} (h : RdI w g n xs q wr) (hb : Below wr.heap.size wr wx) : RdI w g n xs q wx :=
  ⟨ownsRow_below h.own hb (Nat.le_refl _), h.tb.on hb, Nat.le_trans h.sz hb.size, h.b.trans (hb.mono h.b.size)⟩
theorem RdI.app {w wr W' : World} {g n m : Nat} {xs ys : List Value} {q q' : Value} (h : RdI w g n xs q wr) (hg : g = w.heap.size) (ho : W'.ownsRow (w.heap.size + 1) 47 5 q' (n + m) (xs ++ ys)) (hgr : wr.grownBy W' q.ownBlock) : RdI w g (n + m) (xs ++ ys) q' W' := by
  have hsz := h.sz
  have hrow : ∀ k, q.ownBlock = some k → w.heap.size + 1 ≤ k := fun k hk => (h.own.lt k hk).1
  refine ⟨ho, ?_, Nat.le_trans hsz hgr.size, h.b.grown hgr h.b.size (fun k hk => by have := hrow k hk; omega)⟩
  have : W'.heap[g]? = wr.heap[g]? := hgr.block g h.tb.lt (fun e => by have := hrow g e.symm; omega)
  exact this.trans h.tb
theorem RdI.start {w W : World} (h : W = w.alloc (.cells atC 51)) : RdI w w.heap.size 0 [] (.slice none 0 0) W := by
  subst h
  exact ⟨World.ownsRow_nil _ _ _ _, heap_new w _, by rw [size_alloc]; exact Nat.le_refl _, (Below.refl _ _).alloc (Nat.le_refl _) _⟩

/-- The keys lie there. -/
def Ky (gk ck : Nat) (w : World) : Prop := w.ownsRow 0 41 4 (.slice (some ⟨gk, 0, none⟩) 11 ck) 11 (bk 0 21)
theorem Ky.cells {gk ck : Nat} {w : World} (h : Ky gk ck w) {i : Nat} (hi : i < 11) : w.cell? ⟨gk, i * 4, none⟩ = some (.int .u32 (tg (kx i))) ∧ w.cell? ⟨gk, i * 4 + 1, none⟩ = some (.int .i64 (vr (kx i))) ∧ w.cell? ⟨gk, i * 4 + 2, none⟩ = some (.int .i64 0) ∧ w.cell? ⟨gk, i * 4 + 3, none⟩ = some (.string ⟨#[]⟩) := by
  obtain ⟨h0, h1, h2, h3⟩ := krow i hi
  exact ⟨(h.cellAt _ (by omega)).trans h0, (h.cellAt _ (by omega)).trans h1, (h.cellAt _ (by omega)).trans h2, (h.cellAt _ (by omega)).trans h3⟩
theorem Ky.lt {gk ck : Nat} {w : World} (h : Ky gk ck w) : gk < w.heap.size := (World.ownsRow.lt h gk rfl).2
theorem Ky.on {gk ck : Nat} {w wx : World} (h : Ky gk ck w) (hb : Below w.heap.size w wx) : Ky gk ck wx := ownsRow_below h hb (Nat.le_refl _)
/-- The items lie there. -/
def It (gi ci b : Nat) (w : World) : Prop := w.ownsRow b 41 4 (.slice (some ⟨gi, 0, none⟩) 11 ci) 11 itm
theorem It.cells {gi ci b : Nat} {w : World} (h : It gi ci b w) {j : Nat} (hj : j < 10) : w.cell? ⟨gi, (j + 1) * 4, none⟩ = some (.int .u32 (tg (10 + j))) ∧ w.cell? ⟨gi, (j + 1) * 4 + 1, none⟩ = some (.int .i64 (vr (10 + j))) ∧ w.cell? ⟨gi, (j + 1) * 4 + 2, none⟩ = some (.int .i64 0) ∧ w.cell? ⟨gi, (j + 1) * 4 + 3, none⟩ = some (.string ⟨#[]⟩) := by
  obtain ⟨h0, h1, h2, h3⟩ := irow j hj
  exact ⟨(h.cellAt _ (by omega)).trans h0, (h.cellAt _ (by omega)).trans h1, (h.cellAt _ (by omega)).trans h2, (h.cellAt _ (by omega)).trans h3⟩
theorem It.head {gi ci b : Nat} {w : World} (h : It gi ci b w) : w.cell? ⟨gi, 0, none⟩ = some (.int .u32 4294893568) ∧ w.cell? ⟨gi, 1, none⟩ = some (.int .i64 29) ∧ w.cell? ⟨gi, 2, none⟩ = some (.int .i64 10) ∧ w.cell? ⟨gi, 3, none⟩ = some (.string ⟨#[]⟩) :=
  ⟨h.cellAt 0 (by omega), h.cellAt 1 (by omega), h.cellAt 2 (by omega), h.cellAt 3 (by omega)⟩
end Go.Proofs.Ytidcjobokfgeoaa

import Derived.Test.YtehgeninocbpeaaGreatDoorSg
import Derived.Test.YtehgeninocbpeaaGreatDoorUb
/-
  DERIVED. Keys of spans: the function that a key gives; one piece that matches is enough.
-/
namespace Go.Proofs.YtehgeninocbpeaaGreatDoor.Tm
open Go Go.Proofs Go.RowKit

/-- Does a piece lie in a span? -/
def spM (vr F L : Int) (u : ByteArray) : Bool := decide (oR vr u 0 = none) && (decide (F ≤ (ow vr u 0).1) && decide ((ow vr u 0).1 ≤ L))
structure Cap (W : World) (pv pa : Nat) (vr F L : Int) : Prop where
  c : W.cell? ⟨pv, 0, none⟩ = some (.int .i64 vr)
  r : W.rowIs pa 66 2 (f2I F L)
  t : Mt W
  o : Ot W
theorem Cap.on {W W' : World} {pv pa : Nat} {vr F L : Int} (h : Cap W pv pa vr F L) (hb : Below W.heap.size W W') : Cap W' pv pa vr F L :=
  ⟨(hb.cell (cell_lt h.c)).trans h.c, h.r.of_block (hb.block _ h.r.lt), h.t.on hb, h.o.on hb⟩
def ptr (p : Nat) : Value := .pointer (some ⟨p, 0, none⟩)
def BoolP (W : World) (b : Bool) (e : Ending) (w' : World) : Prop := e = .returned (.bool b) ∧ Below W.heap.size W w'

set_option maxRecDepth 100000 in
set_option maxHeartbeats 2000000 in
theorem clos60 (W : World) (pv pa : Nat) (vr F L : Int) (hv : isSp vr) (u : ByteArray) (hu : u.size ≤ 140737488351232) (h : Cap W pv pa vr F L) : Calls Tryz.prog 60 #[.string u, ptr pv, ptr pa] W (BoolP W (spM vr F L u)) := by
  have c := own_any W vr hv u hu h.t h.o
  unfold spM ptr
  have HC : Hid (Cap W pv pa vr F L) := h
  have h0 := h.c
  generalize (ow vr u 0).1 = A at *
  generalize (ow vr u 0).2 = B at *
  generalize oR vr u 0 = o at *
  unfold sp at c
  obtain ⟨Z, hZ⟩ : ∃ Z, (decide (o = none) && (decide (F ≤ A) && decide (A ≤ L))) = Z := ⟨_, rfl⟩
  have HZ : Hid ((decide (o = none) && (decide (F ≤ A) && decide (A ≤ L))) = Z) := hZ
  rw [hZ]
  clear hZ h hu
  go_enter Tryz.func60, Tryz.ntmps60
  go_wp2_with (go_at_call 61; refine Stop.mk ?_)
  refine Stop.out (c.mono ?_)
  rintro e W1 ⟨v, rfl, hvv, hb⟩
  have C1 : Hid (Cap W1 pv pa vr F L) := HC.out.on hb
  have B1 : Hid (Below W.heap.size W W1) := hb
  clear hb c HC h0
  obtain ⟨W2, hW2⟩ : ∃ W2, W1.alloc (.cells #[.int .i64 A, .int .i64 B] 66) = W2 := ⟨_, rfl⟩
  have hb2 : Below W1.heap.size W1 W2 := hW2 ▸ (Below.refl _ _).alloc (Nat.le_refl _) _
  have C2 : Hid (Cap W2 pv pa vr F L) := C1.out.on hb2
  have B2 : Hid (Below W.heap.size W W2) := B1.out.trans (hb2.mono B1.out.size)
  have R2 : W2.rowIs W1.heap.size 66 2 (f2I A B) := hW2 ▸ World.rowIs_alloc W1 _ 66 _ (row_lit _)
  have a0 : W2.cell? ⟨W1.heap.size, 0, none⟩ = some (.int .i64 A) := R2.cell (i := 0) (by omega)
  have f0 : W2.cell? ⟨pa, 0, none⟩ = some (.int .i64 F) := C2.out.r.cell (i := 0) (by omega)
  have f1 : W2.cell? ⟨pa, 1, none⟩ = some (.int .i64 L) := C2.out.r.cell (i := 1) (by omega)
  generalize hq : W1.heap.size = q at *
  clear hb2 R2 C1 B1 C2
  cases o with
  | some x =>
    obtain ⟨g, rfl, _⟩ := hvv
    have HR : Hid (false = Z) := HZ.out
    clear HZ
    go_wp2
    go_ret
    exact ⟨by rw [← HR.out]; rfl, B2.out⟩
  | none =>
    obtain rfl : v = .nilIface := hvv
    by_cases h1 : F ≤ A
    · by_cases h2 : A ≤ L
      · have HR : Hid (true = Z) := by show _ = _; rw [← HZ.out, decide_eq_true h1, decide_eq_true h2]; rfl
        clear HZ
        go_wp2
        go_ret
        exact ⟨by rw [← HR.out]; simp, B2.out⟩
      · have HR : Hid (false = Z) := by show _ = _; rw [← HZ.out, decide_eq_true h1, decide_eq_false h2]; rfl
        clear HZ
        go_wp2
        go_ret
        exact ⟨by rw [← HR.out]; simp [h2], B2.out⟩
    · have HR : Hid (false = Z) := by show _ = _; rw [← HZ.out, decide_eq_false h1]; rfl
      clear HZ
      go_wp2
      go_ret
      exact ⟨by rw [← HR.out]; simp, B2.out⟩
end Go.Proofs.YtehgeninocbpeaaGreatDoor.Tm

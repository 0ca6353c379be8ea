import Derived.Test.YtaingbnfalibjaaDoorDe
import Derived.Test.YtaingbnfalibjaaDoorDb
/-
  DERIVED. The document's ParseNumber.
-/
namespace Go.Proofs.YtaingbnfalibjaaDoor
open Go Go.Proofs Go.RowKit NumLine

/-- The places of a number and of a fault that are to be told. -/
structure NC (w W : World) : Prop where
  num : W.rowIs w.heap.size 24 3 zf
  row : W.rowIs (w.heap.size + 1) 35 2 fN
  bel : Below w.heap.size w W
theorem NC.on {w W W' : World} (h : NC w W) (hb : Below W.heap.size W W') : NC w W' :=
  ⟨h.num.of_block (hb.block _ h.num.lt), h.row.of_block (hb.block _ h.row.lt), h.bel.trans (hb.mono h.bel.size)⟩
theorem NC.start (w : World) : NC w ((w.alloc (.cells #[.bool false, .int .u64 0, .int .i64 0] 24)).alloc (.cells #[.slice none 0 0, .int .i64 0] 35)) :=
  ⟨(zrow w).alloc _, by have := frow (w.alloc (.cells #[.bool false, .int .u64 0, .int .i64 0] 24)); rw [World.size_alloc] at this; exact this, ((Below.refl _ _).alloc (Nat.le_refl _) _).alloc (by simp) _⟩
/-- What is laid down at the end: the number, then the fault. -/
def putNF (w W : World) (r : Nm) (a b : Value) : World := putF (put3 W w.heap.size r) (w.heap.size + 1) a b
theorem put3_row {W : World} {B C : Nat} (h : W.rowIs C 35 2 fN) (hne : C ≠ B) (r : Nm) : (put3 W B r).rowIs C 35 2 fN := by
  unfold put3
  refine h.of_block ?_
  rw [Below.heap_setCell _ ⟨B, 2, none⟩ _ C hne, Below.heap_setCell _ ⟨B, 1, none⟩ _ C hne, Below.heap_setCell _ ⟨B, 0, none⟩ _ C hne]
theorem RErr.put3 {W : World} {v : Value} {o : Option (Int × Int)} (h : RErr W v o) {B : Nat} (hr : W.rowIs B 24 3 zf) (r : Nm) : RErr (put3 W B r) v o := by
  have r1 := hr.set 0 (.bool r.neg)
  have r2 := r1.set 1 (.int .u64 (r.d : Int))
  exact ((h.tset (x := .bool false) rfl (hr.cell (i := 0) (by omega)) 0 _).tset (x := .bool r.neg) rfl (r1.cell (i := 0) (by omega)) 1 _).tset (x := .bool r.neg) rfl (r2.cell (i := 0) (by omega)) 2 _
theorem cell_far {W : World} {B C i j : Nat} {v u : Value} (h : C ≠ B) (hc : W.cell? ⟨C, j, none⟩ = some u) : (W.setCell ⟨B, i, none⟩ v).cell? ⟨C, j, none⟩ = some u := (cell_set_off (Ne.symm h)).trans hc
/-- All that the end of the walk asks. -/
theorem putNF_all {w W : World} (h : NC w W) (r : Nm) (a b : Value) (ha : notStr a = true) :
    W.cell? ⟨w.heap.size, 0, none⟩ = some (.bool false) ∧ W.cell? ⟨w.heap.size, 1, none⟩ = some (.int .u64 0) ∧ W.cell? ⟨w.heap.size, 2, none⟩ = some (.int .i64 0) ∧ (∀ i, W.frozen? ⟨w.heap.size, i, none⟩ = false) ∧
    W.cell? ⟨w.heap.size + 1, 0, none⟩ = some (.slice none 0 0) ∧ W.cell? ⟨w.heap.size + 1, 1, none⟩ = some (.int .i64 0) ∧ (∀ i, W.frozen? ⟨w.heap.size + 1, i, none⟩ = false) ∧
    (W.setCell ⟨w.heap.size, 0, none⟩ (.bool r.neg)).cell? ⟨w.heap.size, 0, none⟩ = some (.bool r.neg) ∧ ((W.setCell ⟨w.heap.size, 0, none⟩ (.bool r.neg)).setCell ⟨w.heap.size, 1, none⟩ (.int .u64 (r.d : Int))).cell? ⟨w.heap.size, 1, none⟩ = some (.int .u64 (r.d : Int)) ∧ (put3 W w.heap.size r).cell? ⟨w.heap.size, 2, none⟩ = some (.int .i64 r.e) ∧
    ((put3 W w.heap.size r).setCell ⟨w.heap.size + 1, 0, none⟩ a).cell? ⟨w.heap.size + 1, 0, none⟩ = some a ∧ (putNF w W r a b).cell? ⟨w.heap.size + 1, 1, none⟩ = some b ∧
    (∀ {v o}, RErr W v o → RErr (putNF w W r a b) v o) ∧ Below w.heap.size w (putNF w W r a b) := by
  obtain ⟨z0, z1, z2⟩ := zrow_cells h.num
  obtain ⟨p0, p1, p2⟩ := put3_cells h.num r
  have hr := put3_row (B := w.heap.size) h.row (by omega) r
  obtain ⟨q0, q1, q2⟩ := putF_all hr a b ha
  exact ⟨z0, z1, z2, fun i => h.num.frozen i, h.row.cell (i := 0) (by omega), h.row.cell (i := 1) (by omega), fun i => h.row.frozen i, p0, p1, p2, q0, q1, fun hv => q2 (hv.put3 h.num r), putF_below (put3_below h.bel r) (Nat.le_succ _) a b⟩
/-- What ParseNumber of the document leaves. -/
def PostRM (w : World) (s : ByteArray) (e : Ending) (w' : World) : Prop := ∃ v r o, e = .returned (.tuple #[nv r, v]) ∧ RErr w' v o ∧ PM s r o ∧ Below w.heap.size w w'

set_option maxRecDepth 100000 in
set_option maxHeartbeats 1000000 in
theorem rparse_long (w : World) (s : ByteArray) (h : ¬ s.size ≤ 16) : Calls Tryd.prog 14 #[.string s] w (PostRM w s) := by
  have hI : (16 : Int) < (s.size : Int) := by omega
  obtain ⟨W0, hW0⟩ : ∃ W0, (w.alloc (.cells #[.bool false, .int .u64 0, .int .i64 0] 24)).alloc (.cells #[.slice none 0 0, .int .i64 0] 35) = W0 := ⟨_, rfl⟩
  have HN : Hid (NC w W0) := hW0 ▸ NC.start w
  have c31 := no_any 16 103 W0
  have HM : Hid (PM s ⟨false, 0, 0⟩ (some (16, 103))) := .inr ⟨fun hh => h hh.1, rfl, by unfold erN; rw [if_neg h]⟩
  clear h
  go_enter Tryd.func14, Tryd.ntmps14
  go_wp2_with (go_at_call 31; refine Stop.mk ?_)
  refine Stop.out (c31.mono ?_)
  rintro e W1 ⟨v, rfl, hv, hb⟩
  have N1 := HN.out.on hb
  have HV : Hid (RErr W1 v (some (16, 103))) := hv
  obtain ⟨g, k, rfl, _, _⟩ := hv
  obtain ⟨z0, z1, z2, zff, a0, a1, af, p0, p1, p2, q0, q1, q2, q3⟩ := putNF_all N1 ⟨false, 0, 0⟩ (.slice (some ⟨g, 0, none⟩) 1 k) (.int .i64 103) rfl
  have HB : Hid _ := q3
  have HV2 : Hid (RErr _ _ _) := q2 HV.out
  have HP : Hid _ := And.intro p0 (And.intro p1 (And.intro p2 (And.intro q0 q1)))
  clear hb c31 N1 hW0 HN HV q3 p0 p1 p2 q0 q1 q2
  go_wp2
  obtain ⟨p0, p1, p2, q0, q1⟩ := HP.out
  unfold putNF putF put3 at *
  dsimp only at *
  rw [show ((0 : Nat) : Int) = 0 from rfl] at *
  refine bodyPost_ret (v := .tuple #[nv ⟨false, 0, 0⟩, .agg #[.slice (some ⟨g, 0, none⟩) 1 k, .int .i64 103]]) (by simp [results, Tryd.results14, go_sem, nv, p0, p1, p2, q0, q1]) rfl ⟨_, _, _, rfl, HV2.out, HM.out, HB.out⟩
end Go.Proofs.YtaingbnfalibjaaDoor

import Derived.Test.YtaingbnfalibjaaDoorT
import Derived.Test.YtaingbnfalibjaaDoorO
/-
  DERIVED. ParseNumber.
-/
namespace Go.Proofs.YtaingbnfalibjaaDoor
open Go Go.Proofs Go.RowKit NumLine

/-- What stands ahead of the exponent's mark: places, the digits, the place behind them. -/
def n0 (s : ByteArray) : Nat := tP s 0 43 45
def n1 (s : ByteArray) : Nat := cnt s (n0 s) s.size
def n2 (s : ByteArray) : Nat := dP s (n0 s + n1 s)
def n3 (s : ByteArray) : Nat := cnt s (n2 s) s.size
def nD (s : ByteArray) : ByteArray := s.extract (n0 s) (n0 s + n1 s) ++ s.extract (n2 s) (n2 s + n3 s)
def nB (s : ByteArray) : Bool := decide (n1 s + n3 s < 1)
/-- Behind the exponent's mark, if there is one: the place, whether it is broken, the exponent. -/
def n4 (s : ByteArray) : Nat := tP s (n2 s + n3 s) 69 101
def isE (s : ByteArray) : Bool := decide (tk s (n2 s + n3 s) 69 101 ≠ 0)
def n5 (s : ByteArray) : Nat := tP s (n4 s) 43 45
def n6 (s : ByteArray) : Nat := cnt s (n5 s) s.size
def nX (s : ByteArray) : Int := if isE s = true then -(n3 s : Int) + whV s (n4 s) else -(n3 s : Int)
def nEnd (s : ByteArray) : Nat := if nB s = true then n2 s + n3 s else if isE s = true then n5 s + n6 s else n4 s
def nBad (s : ByteArray) : Bool := nB s || (isE s && decide (n6 s < 1))
def nNeg (s : ByteArray) : Bool := decide (tk s 0 43 45 = 45)

def Ok (s : ByteArray) : Prop := s.size ≤ 16 ∧ nBad s = false ∧ ¬ nEnd s < s.size
/-- What ParseNumber tells. -/
def PN (s : ByteArray) (r : Nm) (o : Option (Int × Int)) : Prop :=
  (Ok s ∧ Ex (nNeg s) (val (nD s).data.toList) (nX s) r ∧ o = none) ∨ (¬ Ok s ∧ r = ⟨false, 0, 0⟩ ∧ ∃ x, o = some x)

theorem n0_le (s : ByteArray) : n0 s ≤ s.size := tP_le (Nat.zero_le _) (by decide) (by decide)
theorem n1_le (s : ByteArray) : n0 s + n1 s ≤ s.size := cnt_size s s.size _ (n0_le s)
theorem n2_le (s : ByteArray) : n2 s ≤ s.size := dP_le (n1_le s)
theorem n3_le (s : ByteArray) : n2 s + n3 s ≤ s.size := cnt_size s s.size _ (n2_le s)
theorem n4_le (s : ByteArray) : n4 s ≤ s.size := tP_le (n3_le s) (by decide) (by decide)
theorem n5_le (s : ByteArray) : n5 s ≤ s.size := tP_le (n4_le s) (by decide) (by decide)
theorem n6_le (s : ByteArray) : n5 s + n6 s ≤ s.size := cnt_size s s.size _ (n5_le s)
theorem n01_2 (s : ByteArray) : n0 s + n1 s ≤ n2 s := by unfold n2 dP; split <;> omega
theorem nD_size (s : ByteArray) : (nD s).size = n1 s + n3 s := by
  unfold nD
  have h1 := n1_le s
  have h2 := n3_le s
  rw [ByteArray.size_append, ByteArray.size_extract, ByteArray.size_extract]
  omega
theorem nD_digs (s : ByteArray) : Digs (nD s) := by
  intro b hb
  unfold nD at hb
  rw [ByteArray.data_append, Array.toList_append, List.mem_append] at hb
  rcases hb with hb | hb
  · exact digs_ext s (n0 s) (n1 s) s.size (Nat.le_refl _) b hb
  · exact digs_ext s (n2 s) (n3 s) s.size (Nat.le_refl _) b hb
theorem nD_lt (s : ByteArray) (h : s.size ≤ 16) : val (nD s).data.toList < 10000000000000000 := by
  have h1 := valN_lt (nD s).data.toList 0 (nD_digs s)
  have h2 : (nD s).data.toList.length ≤ 16 := by
    rw [Array.length_toList]
    show (nD s).size ≤ 16
    rw [nD_size]
    have := n3_le s
    have := n01_2 s
    omega
  have h3 : 10 ^ (nD s).data.toList.length ≤ 10 ^ 16 := Nat.pow_le_pow_right (by decide) h2
  unfold val
  omega
theorem whV_lt (s : ByteArray) (h : s.size ≤ 16) (a : Nat) : -10000000000000000 ≤ whV s a ∧ whV s a ≤ 10000000000000000 := by
  unfold whV
  dsimp only
  generalize tP s a 43 45 = p
  have hD := digs_ext s p (cnt s p s.size) s.size (Nat.le_refl _)
  have h1 := valN_lt _ 0 hD
  have h2 : (s.extract p (p + cnt s p s.size)).data.toList.length ≤ 16 := by
    rw [Array.length_toList]
    show (s.extract p (p + cnt s p s.size)).size ≤ 16
    rw [ByteArray.size_extract]
    omega
  have h3 : 10 ^ (s.extract p (p + cnt s p s.size)).data.toList.length ≤ 10 ^ 16 := Nat.pow_le_pow_right (by decide) h2
  unfold val
  split <;> omega

/-- The row of a number that is to be told. -/
def zf : Nat → Value
  | 0 => .bool false
  | 1 => .int .u64 0
  | _ => .int .i64 0
theorem zrow (w : World) : (w.alloc (.cells #[.bool false, .int .u64 0, .int .i64 0] 24)).rowIs w.heap.size 24 3 zf :=
  World.rowIs_alloc w #[.bool false, .int .u64 0, .int .i64 0] 24 zf (fun i hi => by
    have h3 : i = 0 ∨ i = 1 ∨ i = 2 := by simp at hi; omega
    rcases h3 with rfl | rfl | rfl <;> rfl)
theorem PErr.tset {W : World} {v : Value} {o : Option (Int × Int)} (h : PErr W v o) {B : Nat} {x : Bool} (h0 : W.cell? ⟨B, 0, none⟩ = some (.bool x)) (i : Nat) (u : Value) : PErr (W.setCell ⟨B, i, none⟩ u) v o := by
  cases o with
  | none => exact h
  | some y =>
    obtain ⟨q, rfl, h1, h2, h3⟩ := h
    have hne : q ≠ B := by rintro rfl; rw [h0] at h1; simp at h1
    have hb : (W.setCell ⟨B, i, none⟩ u).heap[q]? = W.heap[q]? := Below.heap_setCell W ⟨B, i, none⟩ u q hne
    exact ⟨q, rfl, (World.cell?_of_block (w := W) hb).trans h1, (World.cell?_of_block (w := W) hb).trans h2, (World.cell?_of_block (w := W) hb).trans h3⟩
/-- A number laid into its row. -/
def put3 (W : World) (B : Nat) (r : Nm) : World := ((W.setCell ⟨B, 0, none⟩ (.bool r.neg)).setCell ⟨B, 1, none⟩ (.int .u64 (r.d : Int))).setCell ⟨B, 2, none⟩ (.int .i64 r.e)
theorem put3_all {W : World} {B : Nat} {v : Value} {o : Option (Int × Int)} (hr : W.rowIs B 24 3 zf) (hp : PErr W v o) (r : Nm) :
    PErr (put3 W B r) v o ∧ (W.setCell ⟨B, 0, none⟩ (.bool r.neg)).cell? ⟨B, 0, none⟩ = some (.bool r.neg) ∧ ((W.setCell ⟨B, 0, none⟩ (.bool r.neg)).setCell ⟨B, 1, none⟩ (.int .u64 (r.d : Int))).cell? ⟨B, 1, none⟩ = some (.int .u64 (r.d : Int)) ∧ (put3 W B r).cell? ⟨B, 2, none⟩ = some (.int .i64 r.e) := by
  have r1 := hr.set 0 (.bool r.neg)
  have r2 := r1.set 1 (.int .u64 (r.d : Int))
  have r3 := r2.set 2 (.int .i64 r.e)
  refine ⟨?_, r1.cell (i := 0) (by omega), r2.cell (i := 1) (by omega), r3.cell (i := 2) (by omega)⟩
  exact ((hp.tset (hr.cell (i := 0) (by omega)) 0 _).tset (r1.cell (i := 0) (by omega)) 1 _).tset (r2.cell (i := 0) (by omega)) 2 _
theorem put3_below {w W : World} {B : Nat} (h : Below B w W) (r : Nm) : Below B w (put3 W B r) :=
  ((h.setCell (p := ⟨B, 0, none⟩) (Nat.le_refl _) _).setCell (p := ⟨B, 1, none⟩) (Nat.le_refl _) _).setCell (p := ⟨B, 2, none⟩) (Nat.le_refl _) _

/-- What ParseNumber leaves. -/
def PostN (w : World) (s : ByteArray) (e : Ending) (w' : World) : Prop := ∃ v r o, e = .returned (.tuple #[nv r, v]) ∧ PErr w' v o ∧ PN s r o ∧ Below w.heap.size w w'

set_option maxRecDepth 100000 in
theorem parse_long (w : World) (s : ByteArray) (h : ¬ s.size ≤ 16) : Calls Tryd.prog 5 #[.string s] w (PostN w s) := by
  have c17 := fun W => refusal_any 16 103 W
  have hI : ¬ ((s.size : Int) ≤ 16) := by omega
  go_enter Tryd.func5, Tryd.ntmps5
  go_wp2_with (go_at_call 17; refine Stop.mk ?_)
  refine Stop.out ((c17 _).mono ?_)
  rintro e W1 ⟨v, rfl, hv, hb1⟩
  have R1 := (zrow w).of_block (hb1.block _ (by simp))
  have HB1 : Hid (Below w.heap.size w W1) := ((Below.refl _ w).alloc (Nat.le_refl _) _).trans (hb1.mono (by simp))
  obtain ⟨k0, k1, k2, k3⟩ := put3_all R1 hv ⟨false, 0, 0⟩
  have r0 : W1.cell? ⟨w.heap.size, 0, none⟩ = some (.bool false) := R1.cell (i := 0) (by omega)
  have r1 : W1.cell? ⟨w.heap.size, 1, none⟩ = some (.int .u64 0) := R1.cell (i := 1) (by omega)
  have r2 : W1.cell? ⟨w.heap.size, 2, none⟩ = some (.int .i64 0) := R1.cell (i := 2) (by omega)
  have rf : ∀ i, W1.frozen? ⟨w.heap.size, i, none⟩ = false := fun i => R1.frozen i
  have HK : Hid (PErr _ v (some (16, 103))) := k0
  clear hv hb1 k0 R1 c17
  have HB2 : Hid _ := put3_below HB1.out ⟨false, 0, 0⟩
  unfold put3 at *
  dsimp only at *
  rw [show ((0 : Nat) : Int) = 0 from rfl] at *
  go_wp2
  refine bodyPost_ret (v := .tuple #[nv ⟨false, 0, 0⟩, v]) (by simp [results, Tryd.results5, go_sem, nv, k1, k2, k3]) rfl ⟨v, ⟨false, 0, 0⟩, _, rfl, HK.out, .inr ⟨fun hh => h hh.1, rfl, _, rfl⟩, HB2.out⟩
end Go.Proofs.YtaingbnfalibjaaDoor

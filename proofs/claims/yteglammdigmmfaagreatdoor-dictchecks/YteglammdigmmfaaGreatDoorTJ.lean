import Derived.Test.YteglammdigmmfaaGreatDoorTE
import Derived.Deep.RegionHeld3
import Derived.Laws.EntriesVeiled
import Derived.Deep.WholeRow
import Derived.Great.BuildSlice
/-
  DERIVED. A row of the program's dictionary, as an entry.
-/
namespace Go.Proofs.YteglammdigmmfaaGreatDoor.Tb
open Go Go.Proofs Go.RowKit

/-- Which bits of a tag count. -/
def maskN (t : Nat) : Nat := if t / 65536 = 24576 then 4293001215 else 4294967295

set_option maxRecDepth 100000 in
theorem group_any (w : World) (t : Nat) : Calls Tryz.prog 66 #[.int .u32 (t : Int)] w fun e w' => e = .returned (.int .u32 ((t / 65536 : Nat) : Int)) ∧ w = w' := by
  go_enter Tryz.func66, Tryz.ntmps66
  go_wp2
  go_ret
  exact ⟨by simp, rfl⟩

set_option maxRecDepth 100000 in
theorem mask_any (w : World) (t : Nat) (v l m : Int) (s : ByteArray) : Calls Tryz.prog 51 #[.agg #[.int .u32 (t : Int), .int .i64 v, .int .i64 l, .int .i64 m, .string s]] w fun e w' => e = .returned (.int .u32 (maskN t : Nat)) ∧ Below w.heap.size w w' := by
  have c := fun W => group_any W t
  by_cases hg : t / 65536 = 24576
  · have hm : maskN t = 4293001215 := by unfold maskN; rw [if_pos hg]
    have hgi : (((t / 65536 : Nat) : Int) == 24576) = true := by rw [hg]; rfl
    rw [hm]
    generalize t / 65536 = d at c hgi
    clear hm hg
    go_enter Tryz.func51, Tryz.ntmps51
    go_wp2_with (first | (go_at_call 66; refine (c _).mono ?_; rintro e w' ⟨rfl, rfl⟩) | fail)
    go_ret
    exact ⟨rfl, (Below.refl _ _).alloc (Nat.le_refl _) _⟩
  · have hm : maskN t = 4294967295 := by unfold maskN; rw [if_neg hg]
    have hgi : (((t / 65536 : Nat) : Int) == 24576) = false := beq_eq_false_iff_ne.2 (by omega)
    rw [hm]
    generalize t / 65536 = d at c hgi
    clear hm hg
    go_enter Tryz.func51, Tryz.ntmps51
    go_wp2_with (first | (go_at_call 66; refine (c _).mono ?_; rintro e w' ⟨rfl, rfl⟩) | fail)
    go_ret
    exact ⟨rfl, (Below.refl _ _).alloc (Nat.le_refl _) _⟩

/-- A row, as it lies in memory. -/
structure R5 (W : World) (g : Nat) (t v l m : Int) (s : ByteArray) : Prop where
  c0 : W.cell? ⟨g, 0, none⟩ = some (.int .u32 t)
  c1 : W.cell? ⟨g, 1, none⟩ = some (.int .i64 v)
  c2 : W.cell? ⟨g, 2, none⟩ = some (.int .i64 l)
  c3 : W.cell? ⟨g, 3, none⟩ = some (.int .i64 m)
  c4 : W.cell? ⟨g, 4, none⟩ = some (.string s)

theorem R5.after {W W' : World} {g : Nat} {t v l m : Int} {s : ByteArray} (hb : Below W.heap.size W W') (h : R5 W g t v l m s) : R5 W' g t v l m s :=
  ⟨(hb.cell (cell_lt h.c0)).trans h.c0, (hb.cell (cell_lt h.c1)).trans h.c1, (hb.cell (cell_lt h.c2)).trans h.c2, (hb.cell (cell_lt h.c3)).trans h.c3, (hb.cell (cell_lt h.c4)).trans h.c4⟩

theorem E6.after {W W' : World} {g : Nat} (hb : Below W.heap.size W W') (h : E6 W g) : E6 W' g := h.next hb

theorem below_after {w W W' : World} (hb : Below W.heap.size W W') (h : Below w.heap.size w W) : Below w.heap.size w W' := h.trans (hb.mono h.size)

end Go.Proofs.YteglammdigmmfaaGreatDoor.Tb

namespace Go.Proofs.YteglammdigmmfaaGreatDoor.Tb
open Go Go.Proofs Go.RowKit

set_option maxRecDepth 100000 in
theorem mask_exact (w : World) (t : Nat) (v l m : Int) (s : ByteArray) : Calls Tryz.prog 51 #[.agg #[.int .u32 (t : Int), .int .i64 v, .int .i64 l, .int .i64 m, .string s]] w fun e w' => e = .returned (.int .u32 (maskN t : Nat)) ∧ w.alloc (.cells #[.int .u32 (t : Int), .int .i64 v, .int .i64 l, .int .i64 m, .string s] 87) = w' := by
  have c := fun W => group_any W t
  by_cases hg : t / 65536 = 24576
  · have hm : maskN t = 4293001215 := by unfold maskN; rw [if_pos hg]
    have hgi : (((t / 65536 : Nat) : Int) == 24576) = true := by rw [hg]; rfl
    rw [hm]
    generalize t / 65536 = d at c hgi
    clear hm hg
    go_enter Tryz.func51, Tryz.ntmps51
    go_wp2_with (first | (go_at_call 66; refine (c _).mono ?_; rintro e w' ⟨rfl, rfl⟩) | fail)
    go_ret
    exact ⟨rfl, rfl⟩
  · have hm : maskN t = 4294967295 := by unfold maskN; rw [if_neg hg]
    have hgi : (((t / 65536 : Nat) : Int) == 24576) = false := beq_eq_false_iff_ne.2 (by omega)
    rw [hm]
    generalize t / 65536 = d at c hgi
    clear hm hg
    go_enter Tryz.func51, Tryz.ntmps51
    go_wp2_with (first | (go_at_call 66; refine (c _).mono ?_; rintro e w' ⟨rfl, rfl⟩) | fail)
    go_ret
    exact ⟨rfl, rfl⟩

set_option maxRecDepth 100000 in
set_option maxHeartbeats 2000000 in
theorem rowEntry_any (w : World) (t : Nat) (v l m : Int) (s : ByteArray) : Calls Tryz.prog 52 #[.agg #[.int .u32 (t : Int), .int .i64 v, .int .i64 l, .int .i64 m, .string s]] w fun e w' => e = .returned (.agg #[.int .u32 (t : Int), .int .u32 (maskN t : Nat), .int .i64 v, .string s, .int .i64 l, .int .i64 m]) ∧ Below w.heap.size w w' := by
  have c := fun W => mask_exact W t v l m s
  generalize maskN t = M at c ⊢
  obtain ⟨W1, hW1⟩ : ∃ W1, (w.alloc (.cells #[.int .u32 (t : Int), .int .i64 v, .int .i64 l, .int .i64 m, .string s] 87)).alloc (.cells #[.int .u32 0, .int .u32 0, .int .i64 0, .string ⟨#[]⟩, .int .i64 0, .int .i64 0] 62) = W1 := ⟨_, rfl⟩
  have HBl : Hid (Below w.heap.size w W1) := hW1 ▸ ((Below.refl _ _).alloc (Nat.le_refl _) _).alloc (by simp) _
  have hS : R5 W1 w.heap.size (t : Int) v l m s := by
    rw [← hW1]
    exact ⟨by simp, by simp, by simp, by simp, by simp⟩
  have hE : E6 W1 (w.heap.size + 1) := by
    rw [← hW1]
    exact ⟨by simp, by simp, by simp, by simp, by simp, by simp, fun i => by simp⟩
  have hlt : w.heap.size + 1 < W1.heap.size := by rw [← hW1]; simp
  have hlt0 : w.heap.size < W1.heap.size := by omega
  go_enter Tryz.func52, Tryz.ntmps52
  go_wp2
  clear hW1
  obtain ⟨s0, s1, s2, s3, s4⟩ := hS
  obtain ⟨z0, z1, z2, z3, z4, z5, zf⟩ := hE
  refine wp_region_noPanic ?_
  go_region_held3 (fun w' => w'.cell? ⟨w.heap.size, 0, none⟩ = some (.int .u32 (t : Int)) ∧ w'.cell? ⟨w.heap.size, 1, none⟩ = some (.int .i64 v) ∧ w'.cell? ⟨w.heap.size, 2, none⟩ = some (.int .i64 l) ∧ w'.cell? ⟨w.heap.size, 3, none⟩ = some (.int .i64 m) ∧ w'.cell? ⟨w.heap.size, 4, none⟩ = some (.string s)) (go_keep) (first | (go_at_call 51; refine (c _).mono ?_; rintro e w' ⟨rfl, rfl⟩))
  refine NoPanic.normal ?_
  go_wp2
  have hU := E6.sets ⟨z0, z1, z2, z3, z4, z5, zf⟩ (.int .u32 (t : Int)) (.int .u32 (M : Int)) (.int .i64 v) (.string s) (.int .i64 l) (.int .i64 m)
  simp only at hU
  obtain ⟨u0, u1, u2, u3, u4, u5⟩ := hU
  have HBU : Hid (Below w.heap.size w ((((((W1.setCell ⟨w.heap.size + 1, 0, none⟩ (.int .u32 (t : Int))).setCell ⟨w.heap.size + 1, 1, none⟩ (.int .u32 (M : Int))).setCell ⟨w.heap.size + 1, 2, none⟩ (.int .i64 v)).setCell ⟨w.heap.size + 1, 3, none⟩ (.string s)).setCell ⟨w.heap.size + 1, 4, none⟩ (.int .i64 l)).setCell ⟨w.heap.size + 1, 5, none⟩ (.int .i64 m))) := (((((HBl.out.setCell (p := ⟨w.heap.size + 1, 0, none⟩) (by simp) _).setCell (p := ⟨w.heap.size + 1, 1, none⟩) (by simp) _).setCell (p := ⟨w.heap.size + 1, 2, none⟩) (by simp) _).setCell (p := ⟨w.heap.size + 1, 3, none⟩) (by simp) _).setCell (p := ⟨w.heap.size + 1, 4, none⟩) (by simp) _).setCell (p := ⟨w.heap.size + 1, 5, none⟩) (by simp) _
  have hsU : w.heap.size + 1 < ((((((W1.setCell ⟨w.heap.size + 1, 0, none⟩ (.int .u32 (t : Int))).setCell ⟨w.heap.size + 1, 1, none⟩ (.int .u32 (M : Int))).setCell ⟨w.heap.size + 1, 2, none⟩ (.int .i64 v)).setCell ⟨w.heap.size + 1, 3, none⟩ (.string s)).setCell ⟨w.heap.size + 1, 4, none⟩ (.int .i64 l)).setCell ⟨w.heap.size + 1, 5, none⟩ (.int .i64 m)).heap.size := by simp; omega
  generalize ((((((W1.setCell ⟨w.heap.size + 1, 0, none⟩ (.int .u32 (t : Int))).setCell ⟨w.heap.size + 1, 1, none⟩ (.int .u32 (M : Int))).setCell ⟨w.heap.size + 1, 2, none⟩ (.int .i64 v)).setCell ⟨w.heap.size + 1, 3, none⟩ (.string s)).setCell ⟨w.heap.size + 1, 4, none⟩ (.int .i64 l)).setCell ⟨w.heap.size + 1, 5, none⟩ (.int .i64 m)) = U at u0 u1 u2 u3 u4 u5 HBU hsU ⊢
  have hba : Below U.heap.size U (U.alloc (.cells #[.int .u32 (t : Int), .int .i64 v, .int .i64 l, .int .i64 m, .string s] 87)).drew := ((Below.refl _ _).alloc (Nat.le_refl _) _).drew
  have a0 := (hba.cell (p := ⟨w.heap.size + 1, 0, none⟩) hsU).trans u0
  have a1 := (hba.cell (p := ⟨w.heap.size + 1, 1, none⟩) hsU).trans u1
  have a2 := (hba.cell (p := ⟨w.heap.size + 1, 2, none⟩) hsU).trans u2
  have a3 := (hba.cell (p := ⟨w.heap.size + 1, 3, none⟩) hsU).trans u3
  have a4 := (hba.cell (p := ⟨w.heap.size + 1, 4, none⟩) hsU).trans u4
  have a5 := (hba.cell (p := ⟨w.heap.size + 1, 5, none⟩) hsU).trans u5
  have HBV := below_after hba HBU.out
  generalize (U.alloc (.cells #[.int .u32 (t : Int), .int .i64 v, .int .i64 l, .int .i64 m, .string s] 87)).drew = V at a0 a1 a2 a3 a4 a5 HBV ⊢
  exact bodyPost_ret (v := .agg #[.int .u32 (t : Int), .int .u32 (M : Int), .int .i64 v, .string s, .int .i64 l, .int .i64 m]) (by simp only [results, Tryz.results52]; simp [go_sem, a0, a1, a2, a3, a4, a5]) rfl ⟨rfl, HBV⟩
end Go.Proofs.YteglammdigmmfaaGreatDoor.Tb

/-
  DERIVED. The parts of the program's dictionary.
-/
namespace Go.Proofs.YteglammdigmmfaaGreatDoor.Tb
open Go Go.Proofs Go.RowKit

/-- A part: its last tag, its rows' iterator. -/
def partOf : Nat → List Value
  | 0 => [.int .u32 524287, .func (.func 93) #[] #[]]
  | 1 => [.int .u32 528383, .func (.func 94) #[] #[]]
  | 2 => [.int .u32 1048575, .func (.func 95) #[] #[]]
  | 3 => [.int .u32 1572863, .func (.func 96) #[] #[]]
  | 4 => [.int .u32 3276799, .func (.func 97) #[] #[]]
  | 5 => [.int .u32 4194303, .func (.func 98) #[] #[]]
  | 6 => [.int .u32 4194880, .func (.func 99) #[] #[]]
  | 7 => [.int .u32 4198399, .func (.func 100) #[] #[]]
  | 8 => [.int .u32 7340031, .func (.func 101) #[] #[]]
  | _ => [.int .u32 4294967295, .func (.func 102) #[] #[]]

def partsC : Array Value := ((List.range 10).flatMap partOf).toArray

set_option maxRecDepth 100000 in
set_option maxHeartbeats 2000000 in
theorem parts_any (w : World) : Calls Tryz.prog 65 #[] w fun e w' => e = .returned (.agg partsC) ∧ w.alloc (.cells partsC 101) = w' := by
  go_enter Tryz.func65, Tryz.ntmps65
  go_wp2_with (refine wpList_store_rowTo rfl 101 (.tmp 0) (.tmp 11) rfl rfl w.heap.size partsC rfl (by kernel_rfl) 101 _ (heap_alloc_last w _) (by kernel_rfl) (by kernel_rfl) (by kernel_rfl) ?_)
  rw [World.setRow_alloc_new]
  refine bodyPost_ret (v := .agg partsC) ?_ rfl ⟨rfl, rfl⟩
  exact results_cell_row rfl _ _ w.heap.size 101 partsC (0, 0) _ rfl (heap_alloc_last w _) Tryz.underlying101 rfl (by kernel_rfl)

theorem part_at : ∀ (k : Fin 10) (W : World), (Instr.index 101 (.agg partsC) (.int .i64 (k.val : Int))).run Tryz.prog W = .ok (.agg (partOf k.val).toArray) W
  | ⟨0, _⟩ => fun _ => by kernel_rfl
  | ⟨1, _⟩ => fun _ => by kernel_rfl
  | ⟨2, _⟩ => fun _ => by kernel_rfl
  | ⟨3, _⟩ => fun _ => by kernel_rfl
  | ⟨4, _⟩ => fun _ => by kernel_rfl
  | ⟨5, _⟩ => fun _ => by kernel_rfl
  | ⟨6, _⟩ => fun _ => by kernel_rfl
  | ⟨7, _⟩ => fun _ => by kernel_rfl
  | ⟨8, _⟩ => fun _ => by kernel_rfl
  | ⟨9, _⟩ => fun _ => by kernel_rfl
  | ⟨n + 10, h⟩ => absurd h (by omega)
end Go.Proofs.YteglammdigmmfaaGreatDoor.Tb


import Derived.Test.YtlmkbfnmnbmakaaGreatDoorTE
import Derived.Laws.EntriesVeiled
import Derived.Deep.WholeRow
import Derived.Great.BuildSlice
/-
  DERIVED. The parts of the program's dictionary.
-/
namespace Go.Proofs.YtlmkbfnmnbmakaaGreatDoor.Tb
open Go Go.Proofs Go.RowKit

/-- A part: its last tag, its rows' iterator. -/
def partOf : Nat → List Value
  | 0 => [.int .u32 524287, .func (.func 70) #[] #[]]
  | 1 => [.int .u32 528383, .func (.func 71) #[] #[]]
  | 2 => [.int .u32 1048575, .func (.func 72) #[] #[]]
  | 3 => [.int .u32 1572863, .func (.func 73) #[] #[]]
  | 4 => [.int .u32 3276799, .func (.func 74) #[] #[]]
  | 5 => [.int .u32 4194303, .func (.func 75) #[] #[]]
  | 6 => [.int .u32 4194880, .func (.func 76) #[] #[]]
  | 7 => [.int .u32 4198399, .func (.func 77) #[] #[]]
  | 8 => [.int .u32 7340031, .func (.func 78) #[] #[]]
  | _ => [.int .u32 4294967295, .func (.func 79) #[] #[]]

def partsC : Array Value := ((List.range 10).flatMap partOf).toArray

set_option maxRecDepth 100000 in
set_option maxHeartbeats 2000000 in
theorem parts_any (w : World) : Calls Tryz.prog 46 #[] w fun e w' => e = .returned (.agg partsC) ∧ w.alloc (.cells partsC 101) = w' := by
  go_enter Tryz.func46, Tryz.ntmps46
  go_wp2_with (refine wpList_store_rowTo rfl 101 (.tmp 0) (.tmp 11) rfl rfl w.heap.size partsC rfl (by kernel_rfl) 101 _ (heap_alloc_last w _) (by kernel_rfl) (by kernel_rfl) (by kernel_rfl) ?_)
  rw [World.setRow_alloc_new]
  refine bodyPost_ret (v := .agg partsC) ?_ rfl ⟨rfl, rfl⟩
  exact results_cell_row rfl _ _ w.heap.size 101 partsC (0, 0) _ rfl (heap_alloc_last w _) Tryz.underlying101 rfl (by kernel_rfl)

theorem part_at : ∀ (k : Fin 10) (W : World), (Instr.index 101 (.agg partsC) (.int .i64 (k.val : Int))).run Tryz.prog W = .ok (.agg (partOf k.val).toArray) W
  | ⟨0, _⟩ => fun _ => by kernel_rfl
  | ⟨1, _⟩ => fun _ => by kernel_rfl
  | ⟨2, _⟩ => fun _ => by kernel_rfl
  | ⟨3, _⟩ => fun _ => by kernel_rfl
  | ⟨4, _⟩ => fun _ => by kernel_rfl
  | ⟨5, _⟩ => fun _ => by kernel_rfl
  | ⟨6, _⟩ => fun _ => by kernel_rfl
  | ⟨7, _⟩ => fun _ => by kernel_rfl
  | ⟨8, _⟩ => fun _ => by kernel_rfl
  | ⟨9, _⟩ => fun _ => by kernel_rfl
  | ⟨n + 10, h⟩ => absurd h (by omega)
end Go.Proofs.YtlmkbfnmnbmakaaGreatDoor.Tb

import Derived.Test.YtoikdpjjcnmgeaaGreatDoorRB
import Derived.Deep.WholeRow
import Derived.Great.BuildSlice
/-
  DERIVED. The program's table of VRs.
-/
namespace Go.Proofs.YtoikdpjjcnmgeaaGreatDoor.Rp
open Go Go.Proofs Go.RowKit

/-- A VR's row, as the program has it: the place in the table is the VR's number. -/
def rowOf : Nat → List Value
  | 1 => [.string ⟨#[65, 69]⟩, .int .u8 32, .int .i64 1, .int .i64 16, .bool true, .bool false, .bool true, .bool false, (.func (.func 138) #[] #[]), .nilFunc]
  | 2 => [.string ⟨#[65, 83]⟩, .int .u8 32, .int .i64 1, .int .i64 4, .bool true, .bool false, .bool true, .bool false, (.func (.func 139) #[] #[]), (.func (.func 140) #[] #[])]
  | 3 => [.string ⟨#[65, 84]⟩, .int .u8 0, .int .i64 4, .int .i64 4, .bool false, .bool false, .bool true, .bool false, .nilFunc, .nilFunc]
  | 4 => [.string ⟨#[67, 83]⟩, .int .u8 32, .int .i64 1, .int .i64 16, .bool true, .bool false, .bool true, .bool false, (.func (.func 141) #[] #[]), .nilFunc]
  | 5 => [.string ⟨#[68, 65]⟩, .int .u8 32, .int .i64 1, .int .i64 8, .bool true, .bool false, .bool true, .bool false, (.func (.func 142) #[] #[]), (.func (.func 143) #[] #[])]
  | 6 => [.string ⟨#[68, 83]⟩, .int .u8 32, .int .i64 1, .int .i64 16, .bool true, .bool false, .bool true, .bool false, (.func (.func 144) #[] #[]), (.func (.func 145) #[] #[])]
  | 7 => [.string ⟨#[68, 84]⟩, .int .u8 32, .int .i64 1, .int .i64 26, .bool true, .bool false, .bool true, .bool false, (.func (.func 146) #[] #[]), (.func (.func 147) #[] #[])]
  | 8 => [.string ⟨#[70, 68]⟩, .int .u8 0, .int .i64 8, .int .i64 8, .bool false, .bool false, .bool true, .bool false, .nilFunc, .nilFunc]
  | 9 => [.string ⟨#[70, 76]⟩, .int .u8 0, .int .i64 4, .int .i64 4, .bool false, .bool false, .bool true, .bool false, .nilFunc, .nilFunc]
  | 10 => [.string ⟨#[73, 83]⟩, .int .u8 32, .int .i64 1, .int .i64 12, .bool true, .bool false, .bool true, .bool false, (.func (.func 148) #[] #[]), (.func (.func 149) #[] #[])]
  | 11 => [.string ⟨#[76, 79]⟩, .int .u8 32, .int .i64 1, .int .i64 64, .bool true, .bool true, .bool true, .bool false, (.func (.func 150) #[] #[]), .nilFunc]
  | 12 => [.string ⟨#[76, 84]⟩, .int .u8 32, .int .i64 1, .int .i64 10240, .bool true, .bool true, .bool false, .bool false, (.func (.func 151) #[] #[]), .nilFunc]
  | 13 => [.string ⟨#[79, 66]⟩, .int .u8 0, .int .i64 1, .int .i64 0, .bool false, .bool false, .bool false, .bool true, .nilFunc, .nilFunc]
  | 14 => [.string ⟨#[79, 87]⟩, .int .u8 0, .int .i64 2, .int .i64 0, .bool false, .bool false, .bool false, .bool true, .nilFunc, .nilFunc]
  | 15 => [.string ⟨#[80, 78]⟩, .int .u8 32, .int .i64 1, .int .i64 64, .bool true, .bool true, .bool true, .bool false, (.func (.func 150) #[] #[]), (.func (.func 152) #[] #[])]
  | 16 => [.string ⟨#[83, 72]⟩, .int .u8 32, .int .i64 1, .int .i64 16, .bool true, .bool true, .bool true, .bool false, (.func (.func 150) #[] #[]), .nilFunc]
  | 17 => [.string ⟨#[83, 76]⟩, .int .u8 0, .int .i64 4, .int .i64 4, .bool false, .bool false, .bool true, .bool false, .nilFunc, .nilFunc]
  | 18 => [.string ⟨#[83, 81]⟩, .int .u8 0, .int .i64 1, .int .i64 0, .bool false, .bool false, .bool false, .bool true, .nilFunc, .nilFunc]
  | 19 => [.string ⟨#[83, 83]⟩, .int .u8 0, .int .i64 2, .int .i64 2, .bool false, .bool false, .bool true, .bool false, .nilFunc, .nilFunc]
  | 20 => [.string ⟨#[83, 84]⟩, .int .u8 32, .int .i64 1, .int .i64 1024, .bool true, .bool true, .bool false, .bool false, (.func (.func 151) #[] #[]), .nilFunc]
  | 21 => [.string ⟨#[84, 77]⟩, .int .u8 32, .int .i64 1, .int .i64 14, .bool true, .bool false, .bool true, .bool false, (.func (.func 153) #[] #[]), (.func (.func 154) #[] #[])]
  | 22 => [.string ⟨#[85, 67]⟩, .int .u8 32, .int .i64 1, .int .i64 0, .bool true, .bool true, .bool true, .bool true, (.func (.func 150) #[] #[]), .nilFunc]
  | 23 => [.string ⟨#[85, 73]⟩, .int .u8 0, .int .i64 1, .int .i64 64, .bool true, .bool false, .bool true, .bool false, (.func (.func 153) #[] #[]), (.func (.func 155) #[] #[])]
  | 24 => [.string ⟨#[85, 76]⟩, .int .u8 0, .int .i64 4, .int .i64 4, .bool false, .bool false, .bool true, .bool false, .nilFunc, .nilFunc]
  | 25 => [.string ⟨#[85, 78]⟩, .int .u8 0, .int .i64 1, .int .i64 0, .bool false, .bool false, .bool false, .bool true, .nilFunc, .nilFunc]
  | 26 => [.string ⟨#[85, 82]⟩, .int .u8 32, .int .i64 1, .int .i64 0, .bool true, .bool false, .bool false, .bool true, (.func (.func 156) #[] #[]), .nilFunc]
  | 27 => [.string ⟨#[85, 83]⟩, .int .u8 0, .int .i64 2, .int .i64 2, .bool false, .bool false, .bool true, .bool false, .nilFunc, .nilFunc]
  | 28 => [.string ⟨#[85, 84]⟩, .int .u8 32, .int .i64 1, .int .i64 0, .bool true, .bool true, .bool false, .bool true, (.func (.func 151) #[] #[]), .nilFunc]
  | _ => [.string ⟨#[]⟩, .int .u8 0, .int .i64 0, .int .i64 0, .bool false, .bool false, .bool false, .bool false, .nilFunc, .nilFunc]

/-- The whole table, row behind row. -/
def repsC : Array Value := ((List.range 29).flatMap rowOf).toArray

set_option maxRecDepth 100000 in
set_option maxHeartbeats 4000000 in
theorem reps_any (w : World) : Calls Tryz.prog 120 #[] w fun e w' => e = .returned (.agg repsC) ∧ w.alloc (.cells repsC 193) = w' := by
  go_enter Tryz.func120, Tryz.ntmps120
  go_wp2_with (refine wpList_store_rowTo rfl 193 (.tmp 0) (.tmp 57) rfl rfl w.heap.size repsC rfl (by kernel_rfl) 193 Tryz.zeroCells193 (heap_alloc_last w _) (by kernel_rfl) (by kernel_rfl) (by kernel_rfl) ?_)
  rw [World.setRow_alloc_new]
  refine bodyPost_ret (v := .agg repsC) ?_ rfl ⟨rfl, rfl⟩
  exact results_cell_row rfl _ _ w.heap.size 193 repsC (0, 0) _ rfl (heap_alloc_last w _) Tryz.underlying193 rfl (by kernel_rfl)
end Go.Proofs.YtoikdpjjcnmgeaaGreatDoor.Rp

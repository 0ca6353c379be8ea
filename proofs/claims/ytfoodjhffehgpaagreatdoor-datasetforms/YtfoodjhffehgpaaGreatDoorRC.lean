import Derived.Test.YtfoodjhffehgpaaGreatDoorRB
import Derived.Deep.WholeRow
import Derived.Great.BuildSlice
/-
  DERIVED. The program's table of VRs.
-/
namespace Go.Proofs.YtfoodjhffehgpaaGreatDoor.Rp
open Go Go.Proofs Go.RowKit

/-- A VR's row, as the program has it: the place in the table is the VR's number. -/
def rowOf : Nat → List Value
  | 1 => [.string ⟨#[65, 69]⟩, .int .u8 32, .int .i64 1, .int .i64 16, .bool true, .bool false, .bool true, .bool false, (.func (.func 111) #[] #[]), .nilFunc]
  | 2 => [.string ⟨#[65, 83]⟩, .int .u8 32, .int .i64 1, .int .i64 4, .bool true, .bool false, .bool true, .bool false, (.func (.func 112) #[] #[]), (.func (.func 113) #[] #[])]
  | 3 => [.string ⟨#[65, 84]⟩, .int .u8 0, .int .i64 4, .int .i64 4, .bool false, .bool false, .bool true, .bool false, .nilFunc, .nilFunc]
  | 4 => [.string ⟨#[67, 83]⟩, .int .u8 32, .int .i64 1, .int .i64 16, .bool true, .bool false, .bool true, .bool false, (.func (.func 114) #[] #[]), .nilFunc]
  | 5 => [.string ⟨#[68, 65]⟩, .int .u8 32, .int .i64 1, .int .i64 8, .bool true, .bool false, .bool true, .bool false, (.func (.func 115) #[] #[]), (.func (.func 116) #[] #[])]
  | 6 => [.string ⟨#[68, 83]⟩, .int .u8 32, .int .i64 1, .int .i64 16, .bool true, .bool false, .bool true, .bool false, (.func (.func 117) #[] #[]), (.func (.func 118) #[] #[])]
  | 7 => [.string ⟨#[68, 84]⟩, .int .u8 32, .int .i64 1, .int .i64 26, .bool true, .bool false, .bool true, .bool false, (.func (.func 119) #[] #[]), (.func (.func 120) #[] #[])]
  | 8 => [.string ⟨#[70, 68]⟩, .int .u8 0, .int .i64 8, .int .i64 8, .bool false, .bool false, .bool true, .bool false, .nilFunc, .nilFunc]
  | 9 => [.string ⟨#[70, 76]⟩, .int .u8 0, .int .i64 4, .int .i64 4, .bool false, .bool false, .bool true, .bool false, .nilFunc, .nilFunc]
  | 10 => [.string ⟨#[73, 83]⟩, .int .u8 32, .int .i64 1, .int .i64 12, .bool true, .bool false, .bool true, .bool false, (.func (.func 121) #[] #[]), (.func (.func 122) #[] #[])]
  | 11 => [.string ⟨#[76, 79]⟩, .int .u8 32, .int .i64 1, .int .i64 64, .bool true, .bool true, .bool true, .bool false, (.func (.func 123) #[] #[]), .nilFunc]
  | 12 => [.string ⟨#[76, 84]⟩, .int .u8 32, .int .i64 1, .int .i64 10240, .bool true, .bool true, .bool false, .bool false, (.func (.func 124) #[] #[]), .nilFunc]
  | 13 => [.string ⟨#[79, 66]⟩, .int .u8 0, .int .i64 1, .int .i64 0, .bool false, .bool false, .bool false, .bool true, .nilFunc, .nilFunc]
  | 14 => [.string ⟨#[79, 87]⟩, .int .u8 0, .int .i64 2, .int .i64 0, .bool false, .bool false, .bool false, .bool true, .nilFunc, .nilFunc]
  | 15 => [.string ⟨#[80, 78]⟩, .int .u8 32, .int .i64 1, .int .i64 64, .bool true, .bool true, .bool true, .bool false, (.func (.func 123) #[] #[]), (.func (.func 125) #[] #[])]
  | 16 => [.string ⟨#[83, 72]⟩, .int .u8 32, .int .i64 1, .int .i64 16, .bool true, .bool true, .bool true, .bool false, (.func (.func 123) #[] #[]), .nilFunc]
  | 17 => [.string ⟨#[83, 76]⟩, .int .u8 0, .int .i64 4, .int .i64 4, .bool false, .bool false, .bool true, .bool false, .nilFunc, .nilFunc]
  | 18 => [.string ⟨#[83, 81]⟩, .int .u8 0, .int .i64 1, .int .i64 0, .bool false, .bool false, .bool false, .bool true, .nilFunc, .nilFunc]
  | 19 => [.string ⟨#[83, 83]⟩, .int .u8 0, .int .i64 2, .int .i64 2, .bool false, .bool false, .bool true, .bool false, .nilFunc, .nilFunc]
  | 20 => [.string ⟨#[83, 84]⟩, .int .u8 32, .int .i64 1, .int .i64 1024, .bool true, .bool true, .bool false, .bool false, (.func (.func 124) #[] #[]), .nilFunc]
  | 21 => [.string ⟨#[84, 77]⟩, .int .u8 32, .int .i64 1, .int .i64 14, .bool true, .bool false, .bool true, .bool false, (.func (.func 126) #[] #[]), (.func (.func 127) #[] #[])]
  | 22 => [.string ⟨#[85, 67]⟩, .int .u8 32, .int .i64 1, .int .i64 0, .bool true, .bool true, .bool true, .bool true, (.func (.func 123) #[] #[]), .nilFunc]
  | 23 => [.string ⟨#[85, 73]⟩, .int .u8 0, .int .i64 1, .int .i64 64, .bool true, .bool false, .bool true, .bool false, (.func (.func 126) #[] #[]), (.func (.func 128) #[] #[])]
  | 24 => [.string ⟨#[85, 76]⟩, .int .u8 0, .int .i64 4, .int .i64 4, .bool false, .bool false, .bool true, .bool false, .nilFunc, .nilFunc]
  | 25 => [.string ⟨#[85, 78]⟩, .int .u8 0, .int .i64 1, .int .i64 0, .bool false, .bool false, .bool false, .bool true, .nilFunc, .nilFunc]
  | 26 => [.string ⟨#[85, 82]⟩, .int .u8 32, .int .i64 1, .int .i64 0, .bool true, .bool false, .bool false, .bool true, (.func (.func 129) #[] #[]), .nilFunc]
  | 27 => [.string ⟨#[85, 83]⟩, .int .u8 0, .int .i64 2, .int .i64 2, .bool false, .bool false, .bool true, .bool false, .nilFunc, .nilFunc]
  | 28 => [.string ⟨#[85, 84]⟩, .int .u8 32, .int .i64 1, .int .i64 0, .bool true, .bool true, .bool false, .bool true, (.func (.func 124) #[] #[]), .nilFunc]
  | _ => [.string ⟨#[]⟩, .int .u8 0, .int .i64 0, .int .i64 0, .bool false, .bool false, .bool false, .bool false, .nilFunc, .nilFunc]

/-- The whole table, row behind row. -/
def repsC : Array Value := ((List.range 29).flatMap rowOf).toArray

set_option maxRecDepth 100000 in
set_option maxHeartbeats 4000000 in
theorem reps_any (w : World) : Calls Tryz.prog 103 #[] w fun e w' => e = .returned (.agg repsC) ∧ w.alloc (.cells repsC 189) = w' := by
  go_enter Tryz.func103, Tryz.ntmps103
  go_wp2_with (refine wpList_store_rowTo rfl 189 (.tmp 0) (.tmp 57) rfl rfl w.heap.size repsC rfl (by kernel_rfl) 189 Tryz.zeroCells189 (heap_alloc_last w _) (by kernel_rfl) (by kernel_rfl) (by kernel_rfl) ?_)
  rw [World.setRow_alloc_new]
  refine bodyPost_ret (v := .agg repsC) ?_ rfl ⟨rfl, rfl⟩
  exact results_cell_row rfl _ _ w.heap.size 189 repsC (0, 0) _ rfl (heap_alloc_last w _) Tryz.underlying189 rfl (by kernel_rfl)
end Go.Proofs.YtfoodjhffehgpaaGreatDoor.Rp

import Derived.Test.YtpnmnjelppnfoaaGreatNobF
namespace Go.Proofs.YtpnmnjelppnfoaaGreat
open Go.RowKit

theorem dk_new (V : World) (b m m2 : Nat) (hb : b = V.heap.size) (hm : V.heap[m]? = some (.map #[] 0)) : Dk (V.alloc (.cells #[.int .i64 1, .int .i64 1, .int .i64 0, .int .u64 1, .int .i64 (-1), .slice none 0 0, .map (some m), .map (some m2), .slice none 0 0] 30)) b m := by
  subst hb
  have hlt : m < V.heap.size := (Array.getElem?_eq_some_iff.1 hm).1
  exact ⟨by simp, by simp, by simp, by simp, by simp, by simp, by simp, by simp, fun i => by simp, (Below.heap_alloc V _ m hlt).trans hm, by simp, by simp; omega, by omega⟩

set_option maxHeartbeats 400000 in
theorem new_one (w : World) : Calls Tryz.prog 9 #[.agg #[.int .i64 1, .int .i64 1]] w fun e w' => ∃ b m, e = .returned (.tuple #[.pointer (some ⟨b, 0, none⟩), .nilIface]) ∧ Below w.heap.size w w' ∧ w.heap.size ≤ b ∧ w.heap.size ≤ m ∧ Dk w' b m := by
  have hmm := @run_makeMap Tryz.prog
  go_enter Tryz.func9, Tryz.ntmps9
  go_wp2
  go_ret2
  refine ⟨w.heap.size + 1 + 1 + 1 + 1 + 1, w.heap.size + 1 + 1 + 1, rfl, ?_, by omega, by omega, ?_⟩
  · exact ((((((Below.refl _ _).alloc (Nat.le_refl _) _).alloc (by simp) _).alloc (by simp; omega) _).alloc (by simp; omega) _).alloc (by simp; omega) _).alloc (by simp; omega) _
  · refine dk_new _ _ _ _ (by simp) ?_
    exact (Below.heap_alloc _ _ _ (by simp)).trans (by rw [show w.heap.size + 1 + 1 + 1 = (((w.alloc (Obj.cells #[Value.int IntKind.i64 1, Value.int IntKind.i64 1] 36)).alloc (Obj.cells #[Value.int IntKind.i64 1, Value.int IntKind.i64 1] 36)).alloc (Obj.cells #[Value.int IntKind.i64 1, Value.int IntKind.i64 1] 36)).heap.size by simp]; exact World.alloc_heap_new _ _)

end Go.Proofs.YtpnmnjelppnfoaaGreat

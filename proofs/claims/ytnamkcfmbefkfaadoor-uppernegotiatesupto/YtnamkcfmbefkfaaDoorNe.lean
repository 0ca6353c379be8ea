import Derived.Test.YtnamkcfmbefkfaaDoorNd
import Derived.Test.YtnamkcfmbefkfaaDoorSc
/-
  DERIVED. Rejections.
-/
namespace Go.Proofs.YtnamkcfmbefkfaaDoor
open Go Go.Proofs Go.RowKit

/-- A rejection's cells. -/
def rjC (a b c : Int) : Fin 18 → Value := fun i => #[.int .u16 0, .string ⟨#[]⟩, .string ⟨#[]⟩, .string ⟨#[]⟩, .slice none 0 0, .bool false, .int .u32 0, .string ⟨#[]⟩, .string ⟨#[]⟩, .bool false, .int .u16 0, .int .u16 0, .slice none 0 0, .slice none 0 0, .int .u8 a, .int .u8 b, .int .u8 c, .slice none 0 0].getD i.val undef
theorem rj_one (a b c : Int) : ∀ i, (rjC a b c i).oneCell' = true := fun i => by
  match i with
  | ⟨0, _⟩ => rfl
  | ⟨1, _⟩ => rfl
  | ⟨2, _⟩ => rfl
  | ⟨3, _⟩ => rfl
  | ⟨4, _⟩ => rfl
  | ⟨5, _⟩ => rfl
  | ⟨6, _⟩ => rfl
  | ⟨7, _⟩ => rfl
  | ⟨8, _⟩ => rfl
  | ⟨9, _⟩ => rfl
  | ⟨10, _⟩ => rfl
  | ⟨11, _⟩ => rfl
  | ⟨12, _⟩ => rfl
  | ⟨13, _⟩ => rfl
  | ⟨14, _⟩ => rfl
  | ⟨15, _⟩ => rfl
  | ⟨16, _⟩ => rfl
  | ⟨17, _⟩ => rfl
  | ⟨n + 18, h⟩ => exact absurd h (by omega)
theorem rj_ty (a b c : Int) : TyC (rjC a b c) := ⟨⟨_, rfl⟩, ⟨_, rfl⟩, ⟨_, rfl⟩, ⟨_, rfl⟩, ⟨_, rfl⟩, ⟨_, rfl⟩, ⟨_, rfl⟩, ⟨_, rfl⟩, ⟨_, rfl⟩, ⟨_, rfl⟩, ⟨_, rfl⟩, ⟨_, rfl⟩, ⟨_, rfl⟩, ⟨_, rfl⟩⟩
theorem pd_rj (a b c : Int) : Tryd.prog.built 33 [(0, .int .i64 3), (2, .int .u8 a), (3, .int .u8 b), (4, .int .u8 c)] = some (Pd 3 (rjC a b c)) := by kernel_rfl
theorem hu33 : ∃ fs, Tryd.prog.underlying 33 = some (.struct fs) := ⟨_, Tryd.underlying33⟩
def Z33 : Array Value := #[.int .i64 0, .int .u16 0, .string ⟨#[]⟩, .string ⟨#[]⟩, .string ⟨#[]⟩, .slice none 0 0, .bool false, .int .u32 0, .string ⟨#[]⟩, .string ⟨#[]⟩, .bool false, .int .u16 0, .int .u16 0, .slice none 0 0, .slice none 0 0, .int .u8 0, .int .u8 0, .int .u8 0, .slice none 0 0]
theorem z33 (k : Int) (c : Fin 18 → Value) : Z33.size = (Pd k c).size := rfl
set_option maxRecDepth 100000 in
set_option maxHeartbeats 2000000 in
theorem rejected_any (w : World) (a b c : Int) : Calls Tryd.prog 25 #[.int .u8 a, .int .u8 b, .int .u8 c] w fun e w' => e = .returned (.agg (Pd 3 (rjC a b c))) ∧ Below w.heap.size w w' := by
  have hb := pd_rj a b c
  have hs := size40' 3 (rjC a b c)
  have h1 := pd_one 3 (rjC a b c) (rj_one a b c)
  have hl := z33 3 (rjC a b c)
  obtain ⟨fs, hu⟩ := hu33
  generalize Pd 3 (rjC a b c) = RQ at *
  obtain ⟨Z, hZ⟩ : ∃ Z, Z33 = Z := ⟨_, rfl⟩
  rw [hZ] at hl
  have hg1 : (w.alloc (.cells Z 33)).heap[w.heap.size]? = some (.cells Z 33) := alloc_new w _
  have hbl : Below w.heap.size w ((w.alloc (.cells Z 33)).setRow w.heap.size RQ) := below_setRow ((Below.refl _ _).alloc (Nat.le_refl _) _) (Nat.le_refl _) _
  have hh := setRow_heap (w.alloc (.cells Z 33)) w.heap.size _ RQ 33 _ hg1
  have hld := run_loadVar_row (P := Tryd.prog) _ _ _ 33 _ _ _ hh hu rfl hs
  subst hZ
  unfold Z33 at *
  go_enter Tryd.func25, Tryd.ntmps25
  go_wp2_with (first | (refine step_build rfl 33 _ rfl RQ (by simp [Act.eval]; exact hb) ?_) | (refine wpList_store_row rfl 33 (.tmp 6) (.tmp 10) rfl w.heap.size RQ rfl rfl 33 _ hg1 hs hl h1 ?_))
  refine bodyPost_ret (v := .agg RQ) (res_cell (k := 6) Tryd.results25 (by kernel_rfl) hld) rfl ⟨rfl, hbl⟩
set_option maxRecDepth 100000 in
set_option maxHeartbeats 2000000 in
theorem rreject_any (w : World) (a b c : Int) : Calls Tryd.prog 32 #[.int .u8 a, .int .u8 b, .int .u8 c] w fun e w' => e = .returned (.agg (Pd 3 (rjC a b c))) ∧ Below w.heap.size w w' := by
  have hb := pd_rj a b c
  have hs := size40' 3 (rjC a b c)
  have h1 := pd_one 3 (rjC a b c) (rj_one a b c)
  have hl := z33 3 (rjC a b c)
  obtain ⟨fs, hu⟩ := hu33
  generalize Pd 3 (rjC a b c) = RQ at *
  obtain ⟨Z, hZ⟩ : ∃ Z, Z33 = Z := ⟨_, rfl⟩
  rw [hZ] at hl
  have hg1 : (w.alloc (.cells Z 33)).heap[w.heap.size]? = some (.cells Z 33) := alloc_new w _
  have hbl : Below w.heap.size w ((w.alloc (.cells Z 33)).setRow w.heap.size RQ) := below_setRow ((Below.refl _ _).alloc (Nat.le_refl _) _) (Nat.le_refl _) _
  have hh := setRow_heap (w.alloc (.cells Z 33)) w.heap.size _ RQ 33 _ hg1
  have hld := run_loadVar_row (P := Tryd.prog) _ _ _ 33 _ _ _ hh hu rfl hs
  subst hZ
  unfold Z33 at *
  go_enter Tryd.func32, Tryd.ntmps32
  go_wp2_with (first | (refine step_build rfl 33 _ rfl RQ (by simp [Act.eval]; exact hb) ?_) | (refine wpList_store_row rfl 33 (.tmp 6) (.tmp 10) rfl w.heap.size RQ rfl rfl 33 _ hg1 hs hl h1 ?_))
  refine bodyPost_ret (v := .agg RQ) (res_cell (k := 6) Tryd.results32 (by kernel_rfl) hld) rfl ⟨rfl, hbl⟩
end Go.Proofs.YtnamkcfmbefkfaaDoor

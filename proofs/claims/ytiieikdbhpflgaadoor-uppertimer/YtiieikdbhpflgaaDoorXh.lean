import Derived.Test.YtiieikdbhpflgaaDoorXg
/-
  DERIVED. What is sent, what the user is told: one act of the row that an action gives.
-/
namespace Go.Proofs.YtiieikdbhpflgaaDoor
open Go Go.Proofs Go.RowKit

/-- An act's cells. -/
def Ac (x y : Int) (k : Int) (c : Fin 18 → Value) : Array Value := #[.int .i64 x, .int .i64 y] ++ Pd k c
theorem ac_told (x y : Int) (k : Int) (c : Fin 18 → Value) : Tryd.prog.built 57 [(0, .int .i64 x), (1, .int .i64 y), (2, .agg (Pd k c))] = some (Ac x y k c) := by kernel_rfl
theorem ac_sent (x : Int) (k : Int) (c : Fin 18 → Value) : Tryd.prog.built 57 [(0, .int .i64 x), (2, .agg (Pd k c))] = some (Ac x 0 k c) := by kernel_rfl
theorem ac_size (x y : Int) (k : Int) (c : Fin 18 → Value) : (Tryd.prog.info? 57).map (·.size) = some (Ac x y k c).size := by unfold Ac Pd; kernel_rfl
theorem ac_len (x y : Int) (k : Int) (c : Fin 18 → Value) : (Ac x y k c).size = 21 := by simp [Ac, Pd]
theorem ac_one (x y : Int) (k : Int) (c : Fin 18 → Value) (h : ∀ i, (c i).oneCell' = true) : (Ac x y k c).all (·.oneCell') = true := by
  have := pd_one k c h
  unfold Ac
  rw [Array.all_append, this]
  simp [show (Value.int .i64 x).oneCell' = true from rfl, show (Value.int .i64 y).oneCell' = true from rfl]
theorem hu57 : ∃ fs, Tryd.prog.underlying 57 = some (.struct fs) := ⟨_, Tryd.underlying57⟩
theorem step_build {P : Program} {ops : Array Oper} {rest : List Oper} {o : Oper} {a : Act} {w : World} {Q : Exit → Act → World → Prop} (hg : o.guard = none) (t : TypeId) (parts : Array (Nat × Operand)) (ho : o.op = .build t parts) (cells : Array Value)
    (hb : P.built t (parts.map fun (i, x) => (i, a.eval x)).toList = some cells) (h : wpList P ops Q rest (a.put o.dst (.agg cells)) w) : wpList P ops Q (o :: rest) a w :=
  wpList_build hg t parts ho (by rw [hb]; rfl) (by rw [hb]; exact h)
set_option maxRecDepth 100000 in
set_option maxHeartbeats 2000000 in
theorem sent_any (w : World) (k : Int) (c : Fin 18 → Value) (hc : ∀ i, (c i).oneCell' = true) : Calls Tryd.prog 84 #[.agg (Pd k c)] w fun e w' => e = .returned (.agg (Ac 3 0 k c)) ∧ Below w.heap.size w w' := by
  have hb := ac_sent 3 k c
  have hs := ac_size 3 0 k c
  have h1 := ac_one 3 0 k c hc
  have hl := ac_len 3 0 k c
  have hs4 : (Tryd.prog.info? 40).map (·.size) = some (Pd k c).size := by unfold Pd; kernel_rfl
  obtain ⟨fs, hu⟩ := hu40
  obtain ⟨fs5, hu5⟩ := hu57
  generalize Ac 3 0 k c = RQ at *
  generalize Pd k c = PQ at *
  obtain ⟨Z, hZ⟩ : ∃ Z : Array Value, #[.int .i64 0, .int .i64 0, .int .i64 0, .int .u16 0, .string ⟨#[]⟩, .string ⟨#[]⟩, .string ⟨#[]⟩, .slice none 0 0, .bool false, .int .u32 0, .string ⟨#[]⟩, .string ⟨#[]⟩, .bool false, .int .u16 0, .int .u16 0, .slice none 0 0, .slice none 0 0, .int .u8 0, .int .u8 0, .int .u8 0, .slice none 0 0] = Z := ⟨_, rfl⟩
  have hZs : Z.size = RQ.size := by rw [← hZ, hl]; rfl
  have hg1 : ((w.alloc (.cells PQ 40)).alloc (.cells Z 57)).heap[w.heap.size]? = some (.cells PQ 40) := (Below.heap_alloc _ _ _ (by simp)).trans (alloc_new w _)
  have hg2 : ((w.alloc (.cells PQ 40)).alloc (.cells Z 57)).heap[w.heap.size + 1]? = some (.cells Z 57) := by
    have := alloc_new (w.alloc (.cells PQ 40)) (.cells Z 57)
    simpa using this
  have hbl : Below w.heap.size w (((w.alloc (.cells PQ 40)).alloc (.cells Z 57)).setRow (w.heap.size + 1) RQ) := below_setRow (((Below.refl _ _).alloc (Nat.le_refl _) _).alloc (by simp) _) (by omega) _
  have hh := setRow_heap ((w.alloc (.cells PQ 40)).alloc (.cells Z 57)) (w.heap.size + 1) _ RQ 57 _ hg2
  have hld := run_loadVar_row (P := Tryd.prog) _ _ _ 57 _ _ _ hh hu5 rfl hs
  subst hZ
  go_enter Tryd.func84, Tryd.ntmps84
  go_wp2_with (first | (refine wpList_load_row rfl 40 (.tmp 1) rfl w.heap.size rfl 40 PQ (0, 0) _ hg1 hu rfl hs4 ?_) | (refine step_build rfl 57 _ rfl RQ (by simp [Act.eval]; exact hb) ?_) | (refine wpList_store_row rfl 57 (.tmp 2) (.tmp 4) rfl (w.heap.size + 1) RQ rfl rfl 57 _ hg2 hs hZs h1 ?_))
  refine bodyPost_ret (v := .agg RQ) (res_cell (k := 2) Tryd.results84 (by kernel_rfl) hld) rfl ⟨rfl, hbl⟩
set_option maxRecDepth 100000 in
set_option maxHeartbeats 2000000 in
theorem told_any (w : World) (t k : Int) (c : Fin 18 → Value) (hc : ∀ i, (c i).oneCell' = true) : Calls Tryd.prog 85 #[.int .i64 t, .agg (Pd k c)] w fun e w' => e = .returned (.agg (Ac 5 t k c)) ∧ Below w.heap.size w w' := by
  have hb := ac_told 5 t k c
  have hs := ac_size 5 t k c
  have h1 := ac_one 5 t k c hc
  have hl := ac_len 5 t k c
  have hs4 : (Tryd.prog.info? 40).map (·.size) = some (Pd k c).size := by unfold Pd; kernel_rfl
  obtain ⟨fs, hu⟩ := hu40
  obtain ⟨fs5, hu5⟩ := hu57
  generalize Ac 5 t k c = RQ at *
  generalize Pd k c = PQ at *
  obtain ⟨Z, hZ⟩ : ∃ Z : Array Value, #[.int .i64 0, .int .i64 0, .int .i64 0, .int .u16 0, .string ⟨#[]⟩, .string ⟨#[]⟩, .string ⟨#[]⟩, .slice none 0 0, .bool false, .int .u32 0, .string ⟨#[]⟩, .string ⟨#[]⟩, .bool false, .int .u16 0, .int .u16 0, .slice none 0 0, .slice none 0 0, .int .u8 0, .int .u8 0, .int .u8 0, .slice none 0 0] = Z := ⟨_, rfl⟩
  have hZs : Z.size = RQ.size := by rw [← hZ, hl]; rfl
  have hg1 : ((w.alloc (.cells PQ 40)).alloc (.cells Z 57)).heap[w.heap.size]? = some (.cells PQ 40) := (Below.heap_alloc _ _ _ (by simp)).trans (alloc_new w _)
  have hg2 : ((w.alloc (.cells PQ 40)).alloc (.cells Z 57)).heap[w.heap.size + 1]? = some (.cells Z 57) := by
    have := alloc_new (w.alloc (.cells PQ 40)) (.cells Z 57)
    simpa using this
  have hbl : Below w.heap.size w (((w.alloc (.cells PQ 40)).alloc (.cells Z 57)).setRow (w.heap.size + 1) RQ) := below_setRow (((Below.refl _ _).alloc (Nat.le_refl _) _).alloc (by simp) _) (by omega) _
  have hh := setRow_heap ((w.alloc (.cells PQ 40)).alloc (.cells Z 57)) (w.heap.size + 1) _ RQ 57 _ hg2
  have hld := run_loadVar_row (P := Tryd.prog) _ _ _ 57 _ _ _ hh hu5 rfl hs
  subst hZ
  go_enter Tryd.func85, Tryd.ntmps85
  go_wp2_with (first | (refine wpList_load_row rfl 40 (.tmp 3) rfl w.heap.size rfl 40 PQ (0, 0) _ hg1 hu rfl hs4 ?_) | (refine step_build rfl 57 _ rfl RQ (by simp [Act.eval]; exact hb) ?_) | (refine wpList_store_row rfl 57 (.tmp 4) (.tmp 7) rfl (w.heap.size + 1) RQ rfl rfl 57 _ hg2 hs hZs h1 ?_))
  exact bodyPost_ret (v := .agg RQ) (res_cell (k := 4) Tryd.results85 (by kernel_rfl) hld) rfl ⟨rfl, hbl⟩
end Go.Proofs.YtiieikdbhpflgaaDoor

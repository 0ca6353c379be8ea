import Derived.Test.YtgdemlebohlolaaGreatDoorNe
/-
  DERIVED. The texts of a step; refusals of this layer.
-/
namespace Go.Proofs.YtgdemlebohlolaaGreatDoor.Ck
open Go Go.Proofs Go.RowKit

/-- The texts, by their places. -/
def tx19 (l : List ByteArray) (i : Nat) : ByteArray := l.getD i ByteArray.empty
set_option maxRecDepth 100000 in
set_option maxHeartbeats 16000000 in
theorem texts_9 (w : World) (s0 s1 s2 s3 s4 s5 s6 s7 s8 s9 s10 s11 s12 s13 s14 s15 s16 s17 s18 : ByteArray) (st : Int) : Calls Tryz.prog 9 #[.agg #[.string s0, .string s1, .string s2, .string s3, .string s4, .string s5, .string s6, .string s7, .string s8, .string s9, .string s10, .string s11, .string s12, .string s13, .string s14, .string s15, .string s16, .string s17, .string s18, .int .i64 st]] w fun e w' => e = .returned (.agg #[.string s0, .string s1, .string s2, .string s3, .string s4, .string s5, .string s6, .string s7, .string s8, .string s9, .string s10, .string s11, .string s12, .string s13, .string s14, .string s15, .string s16, .string s17, .string s18]) ∧ Below w.heap.size w w' := by
  obtain ⟨W1, hW1⟩ : ∃ W1, (w.alloc (.cells #[.string s0, .string s1, .string s2, .string s3, .string s4, .string s5, .string s6, .string s7, .string s8, .string s9, .string s10, .string s11, .string s12, .string s13, .string s14, .string s15, .string s16, .string s17, .string s18, .int .i64 st] 23)).alloc (.cells #[.string { data := #[] }, .string { data := #[] }, .string { data := #[] }, .string { data := #[] }, .string { data := #[] }, .string { data := #[] }, .string { data := #[] }, .string { data := #[] }, .string { data := #[] }, .string { data := #[] }, .string { data := #[] }, .string { data := #[] }, .string { data := #[] }, .string { data := #[] }, .string { data := #[] }, .string { data := #[] }, .string { data := #[] }, .string { data := #[] }, .string { data := #[] }] 36) = W1 := ⟨_, rfl⟩
  have hH : W1.heap[w.heap.size + 1]? = some (.cells #[.string { data := #[] }, .string { data := #[] }, .string { data := #[] }, .string { data := #[] }, .string { data := #[] }, .string { data := #[] }, .string { data := #[] }, .string { data := #[] }, .string { data := #[] }, .string { data := #[] }, .string { data := #[] }, .string { data := #[] }, .string { data := #[] }, .string { data := #[] }, .string { data := #[] }, .string { data := #[] }, .string { data := #[] }, .string { data := #[] }, .string { data := #[] }] 36 (0, 0)) := by
    rw [← hW1]
    have := heap_alloc_last (w.alloc (.cells #[.string s0, .string s1, .string s2, .string s3, .string s4, .string s5, .string s6, .string s7, .string s8, .string s9, .string s10, .string s11, .string s12, .string s13, .string s14, .string s15, .string s16, .string s17, .string s18, .int .i64 st] 23)) (.cells #[.string { data := #[] }, .string { data := #[] }, .string { data := #[] }, .string { data := #[] }, .string { data := #[] }, .string { data := #[] }, .string { data := #[] }, .string { data := #[] }, .string { data := #[] }, .string { data := #[] }, .string { data := #[] }, .string { data := #[] }, .string { data := #[] }, .string { data := #[] }, .string { data := #[] }, .string { data := #[] }, .string { data := #[] }, .string { data := #[] }, .string { data := #[] }] 36)
    rw [Wk.size_alloc] at this
    exact this
  have y0 : W1.cell? ⟨w.heap.size, 0, none⟩ = some (.string s0) := by rw [← hW1]; simp
  have y1 : W1.cell? ⟨w.heap.size, 1, none⟩ = some (.string s1) := by rw [← hW1]; simp
  have y2 : W1.cell? ⟨w.heap.size, 2, none⟩ = some (.string s2) := by rw [← hW1]; simp
  have y3 : W1.cell? ⟨w.heap.size, 3, none⟩ = some (.string s3) := by rw [← hW1]; simp
  have y4 : W1.cell? ⟨w.heap.size, 4, none⟩ = some (.string s4) := by rw [← hW1]; simp
  have y5 : W1.cell? ⟨w.heap.size, 5, none⟩ = some (.string s5) := by rw [← hW1]; simp
  have y6 : W1.cell? ⟨w.heap.size, 6, none⟩ = some (.string s6) := by rw [← hW1]; simp
  have y7 : W1.cell? ⟨w.heap.size, 7, none⟩ = some (.string s7) := by rw [← hW1]; simp
  have y8 : W1.cell? ⟨w.heap.size, 8, none⟩ = some (.string s8) := by rw [← hW1]; simp
  have y9 : W1.cell? ⟨w.heap.size, 9, none⟩ = some (.string s9) := by rw [← hW1]; simp
  have y10 : W1.cell? ⟨w.heap.size, 10, none⟩ = some (.string s10) := by rw [← hW1]; simp
  have y11 : W1.cell? ⟨w.heap.size, 11, none⟩ = some (.string s11) := by rw [← hW1]; simp
  have y12 : W1.cell? ⟨w.heap.size, 12, none⟩ = some (.string s12) := by rw [← hW1]; simp
  have y13 : W1.cell? ⟨w.heap.size, 13, none⟩ = some (.string s13) := by rw [← hW1]; simp
  have y14 : W1.cell? ⟨w.heap.size, 14, none⟩ = some (.string s14) := by rw [← hW1]; simp
  have y15 : W1.cell? ⟨w.heap.size, 15, none⟩ = some (.string s15) := by rw [← hW1]; simp
  have y16 : W1.cell? ⟨w.heap.size, 16, none⟩ = some (.string s16) := by rw [← hW1]; simp
  have y17 : W1.cell? ⟨w.heap.size, 17, none⟩ = some (.string s17) := by rw [← hW1]; simp
  have y18 : W1.cell? ⟨w.heap.size, 18, none⟩ = some (.string s18) := by rw [← hW1]; simp
  have hi36 : (Tryz.prog.info? 36).map (·.size) = some 19 := by kernel_rfl
  have h1c : (#[.string s0, .string s1, .string s2, .string s3, .string s4, .string s5, .string s6, .string s7, .string s8, .string s9, .string s10, .string s11, .string s12, .string s13, .string s14, .string s15, .string s16, .string s17, .string s18] : Array Value).all (·.oneCell') = true := by kernel_rfl
  have hX : W1.setRow (w.heap.size + 1) #[.string s0, .string s1, .string s2, .string s3, .string s4, .string s5, .string s6, .string s7, .string s8, .string s9, .string s10, .string s11, .string s12, .string s13, .string s14, .string s15, .string s16, .string s17, .string s18] = (w.alloc (.cells #[.string s0, .string s1, .string s2, .string s3, .string s4, .string s5, .string s6, .string s7, .string s8, .string s9, .string s10, .string s11, .string s12, .string s13, .string s14, .string s15, .string s16, .string s17, .string s18, .int .i64 st] 23)).alloc (.cells #[.string s0, .string s1, .string s2, .string s3, .string s4, .string s5, .string s6, .string s7, .string s8, .string s9, .string s10, .string s11, .string s12, .string s13, .string s14, .string s15, .string s16, .string s17, .string s18] 36) := by
    have := World.setRow_alloc_new (w.alloc (.cells #[.string s0, .string s1, .string s2, .string s3, .string s4, .string s5, .string s6, .string s7, .string s8, .string s9, .string s10, .string s11, .string s12, .string s13, .string s14, .string s15, .string s16, .string s17, .string s18, .int .i64 st] 23)) #[.string { data := #[] }, .string { data := #[] }, .string { data := #[] }, .string { data := #[] }, .string { data := #[] }, .string { data := #[] }, .string { data := #[] }, .string { data := #[] }, .string { data := #[] }, .string { data := #[] }, .string { data := #[] }, .string { data := #[] }, .string { data := #[] }, .string { data := #[] }, .string { data := #[] }, .string { data := #[] }, .string { data := #[] }, .string { data := #[] }, .string { data := #[] }] #[.string s0, .string s1, .string s2, .string s3, .string s4, .string s5, .string s6, .string s7, .string s8, .string s9, .string s10, .string s11, .string s12, .string s13, .string s14, .string s15, .string s16, .string s17, .string s18] 36
    rw [Wk.size_alloc, hW1] at this
    exact this
  go_enter Tryz.func9, Tryz.ntmps9
  go_wp2_with (refine wpList_store_rowTo rfl 36 (.tmp 2) (.tmp 41) rfl rfl (w.heap.size + 1) #[.string s0, .string s1, .string s2, .string s3, .string s4, .string s5, .string s6, .string s7, .string s8, .string s9, .string s10, .string s11, .string s12, .string s13, .string s14, .string s15, .string s16, .string s17, .string s18] ?_ ?_ 36 _ hH hi36 rfl h1c ?_; rfl; rfl)
  rw [hX]
  refine bodyPost_ret (v := .agg #[.string s0, .string s1, .string s2, .string s3, .string s4, .string s5, .string s6, .string s7, .string s8, .string s9, .string s10, .string s11, .string s12, .string s13, .string s14, .string s15, .string s16, .string s17, .string s18]) ?_ rfl ⟨rfl, ((Below.refl _ _).alloc (Nat.le_refl _) _).alloc (by simp) _⟩
  refine results_cell_row rfl _ _ (w.heap.size + 1) 36 #[.string s0, .string s1, .string s2, .string s3, .string s4, .string s5, .string s6, .string s7, .string s8, .string s9, .string s10, .string s11, .string s12, .string s13, .string s14, .string s15, .string s16, .string s17, .string s18] (0, 0) _ rfl ?_ Tryz.underlying36 rfl (by kernel_rfl)
  have := heap_alloc_last (w.alloc (.cells #[.string s0, .string s1, .string s2, .string s3, .string s4, .string s5, .string s6, .string s7, .string s8, .string s9, .string s10, .string s11, .string s12, .string s13, .string s14, .string s15, .string s16, .string s17, .string s18, .int .i64 st] 23)) (.cells #[.string s0, .string s1, .string s2, .string s3, .string s4, .string s5, .string s6, .string s7, .string s8, .string s9, .string s10, .string s11, .string s12, .string s13, .string s14, .string s15, .string s16, .string s17, .string s18] 36)
  rw [Wk.size_alloc] at this
  exact this
set_option maxRecDepth 100000 in
set_option maxHeartbeats 16000000 in
theorem texts_13 (w : World) (s0 s1 s2 s3 s4 s5 s6 s7 s8 s9 s10 s11 s12 s13 s14 s15 s16 s17 s18 : ByteArray) (st : Int) : Calls Tryz.prog 13 #[.agg #[.string s0, .string s1, .string s2, .string s3, .string s4, .string s5, .string s6, .string s7, .string s8, .string s9, .string s10, .string s11, .string s12, .string s13, .string s14, .string s15, .string s16, .string s17, .string s18, .int .i64 st]] w fun e w' => e = .returned (.agg #[.string s0, .string s1, .string s2, .string s3, .string s4, .string s5, .string s6, .string s7, .string s8, .string s9, .string s10, .string s11, .string s12, .string s13, .string s14, .string s15, .string s16, .string s17, .string s18]) ∧ Below w.heap.size w w' := by
  obtain ⟨W1, hW1⟩ : ∃ W1, (w.alloc (.cells #[.string s0, .string s1, .string s2, .string s3, .string s4, .string s5, .string s6, .string s7, .string s8, .string s9, .string s10, .string s11, .string s12, .string s13, .string s14, .string s15, .string s16, .string s17, .string s18, .int .i64 st] 23)).alloc (.cells #[.string { data := #[] }, .string { data := #[] }, .string { data := #[] }, .string { data := #[] }, .string { data := #[] }, .string { data := #[] }, .string { data := #[] }, .string { data := #[] }, .string { data := #[] }, .string { data := #[] }, .string { data := #[] }, .string { data := #[] }, .string { data := #[] }, .string { data := #[] }, .string { data := #[] }, .string { data := #[] }, .string { data := #[] }, .string { data := #[] }, .string { data := #[] }] 36) = W1 := ⟨_, rfl⟩
  have hH : W1.heap[w.heap.size + 1]? = some (.cells #[.string { data := #[] }, .string { data := #[] }, .string { data := #[] }, .string { data := #[] }, .string { data := #[] }, .string { data := #[] }, .string { data := #[] }, .string { data := #[] }, .string { data := #[] }, .string { data := #[] }, .string { data := #[] }, .string { data := #[] }, .string { data := #[] }, .string { data := #[] }, .string { data := #[] }, .string { data := #[] }, .string { data := #[] }, .string { data := #[] }, .string { data := #[] }] 36 (0, 0)) := by
    rw [← hW1]
    have := heap_alloc_last (w.alloc (.cells #[.string s0, .string s1, .string s2, .string s3, .string s4, .string s5, .string s6, .string s7, .string s8, .string s9, .string s10, .string s11, .string s12, .string s13, .string s14, .string s15, .string s16, .string s17, .string s18, .int .i64 st] 23)) (.cells #[.string { data := #[] }, .string { data := #[] }, .string { data := #[] }, .string { data := #[] }, .string { data := #[] }, .string { data := #[] }, .string { data := #[] }, .string { data := #[] }, .string { data := #[] }, .string { data := #[] }, .string { data := #[] }, .string { data := #[] }, .string { data := #[] }, .string { data := #[] }, .string { data := #[] }, .string { data := #[] }, .string { data := #[] }, .string { data := #[] }, .string { data := #[] }] 36)
    rw [Wk.size_alloc] at this
    exact this
  have y0 : W1.cell? ⟨w.heap.size, 0, none⟩ = some (.string s0) := by rw [← hW1]; simp
  have y1 : W1.cell? ⟨w.heap.size, 1, none⟩ = some (.string s1) := by rw [← hW1]; simp
  have y2 : W1.cell? ⟨w.heap.size, 2, none⟩ = some (.string s2) := by rw [← hW1]; simp
  have y3 : W1.cell? ⟨w.heap.size, 3, none⟩ = some (.string s3) := by rw [← hW1]; simp
  have y4 : W1.cell? ⟨w.heap.size, 4, none⟩ = some (.string s4) := by rw [← hW1]; simp
  have y5 : W1.cell? ⟨w.heap.size, 5, none⟩ = some (.string s5) := by rw [← hW1]; simp
  have y6 : W1.cell? ⟨w.heap.size, 6, none⟩ = some (.string s6) := by rw [← hW1]; simp
  have y7 : W1.cell? ⟨w.heap.size, 7, none⟩ = some (.string s7) := by rw [← hW1]; simp
  have y8 : W1.cell? ⟨w.heap.size, 8, none⟩ = some (.string s8) := by rw [← hW1]; simp
  have y9 : W1.cell? ⟨w.heap.size, 9, none⟩ = some (.string s9) := by rw [← hW1]; simp
  have y10 : W1.cell? ⟨w.heap.size, 10, none⟩ = some (.string s10) := by rw [← hW1]; simp
  have y11 : W1.cell? ⟨w.heap.size, 11, none⟩ = some (.string s11) := by rw [← hW1]; simp
  have y12 : W1.cell? ⟨w.heap.size, 12, none⟩ = some (.string s12) := by rw [← hW1]; simp
  have y13 : W1.cell? ⟨w.heap.size, 13, none⟩ = some (.string s13) := by rw [← hW1]; simp
  have y14 : W1.cell? ⟨w.heap.size, 14, none⟩ = some (.string s14) := by rw [← hW1]; simp
  have y15 : W1.cell? ⟨w.heap.size, 15, none⟩ = some (.string s15) := by rw [← hW1]; simp
  have y16 : W1.cell? ⟨w.heap.size, 16, none⟩ = some (.string s16) := by rw [← hW1]; simp
  have y17 : W1.cell? ⟨w.heap.size, 17, none⟩ = some (.string s17) := by rw [← hW1]; simp
  have y18 : W1.cell? ⟨w.heap.size, 18, none⟩ = some (.string s18) := by rw [← hW1]; simp
  have hi36 : (Tryz.prog.info? 36).map (·.size) = some 19 := by kernel_rfl
  have h1c : (#[.string s0, .string s1, .string s2, .string s3, .string s4, .string s5, .string s6, .string s7, .string s8, .string s9, .string s10, .string s11, .string s12, .string s13, .string s14, .string s15, .string s16, .string s17, .string s18] : Array Value).all (·.oneCell') = true := by kernel_rfl
  have hX : W1.setRow (w.heap.size + 1) #[.string s0, .string s1, .string s2, .string s3, .string s4, .string s5, .string s6, .string s7, .string s8, .string s9, .string s10, .string s11, .string s12, .string s13, .string s14, .string s15, .string s16, .string s17, .string s18] = (w.alloc (.cells #[.string s0, .string s1, .string s2, .string s3, .string s4, .string s5, .string s6, .string s7, .string s8, .string s9, .string s10, .string s11, .string s12, .string s13, .string s14, .string s15, .string s16, .string s17, .string s18, .int .i64 st] 23)).alloc (.cells #[.string s0, .string s1, .string s2, .string s3, .string s4, .string s5, .string s6, .string s7, .string s8, .string s9, .string s10, .string s11, .string s12, .string s13, .string s14, .string s15, .string s16, .string s17, .string s18] 36) := by
    have := World.setRow_alloc_new (w.alloc (.cells #[.string s0, .string s1, .string s2, .string s3, .string s4, .string s5, .string s6, .string s7, .string s8, .string s9, .string s10, .string s11, .string s12, .string s13, .string s14, .string s15, .string s16, .string s17, .string s18, .int .i64 st] 23)) #[.string { data := #[] }, .string { data := #[] }, .string { data := #[] }, .string { data := #[] }, .string { data := #[] }, .string { data := #[] }, .string { data := #[] }, .string { data := #[] }, .string { data := #[] }, .string { data := #[] }, .string { data := #[] }, .string { data := #[] }, .string { data := #[] }, .string { data := #[] }, .string { data := #[] }, .string { data := #[] }, .string { data := #[] }, .string { data := #[] }, .string { data := #[] }] #[.string s0, .string s1, .string s2, .string s3, .string s4, .string s5, .string s6, .string s7, .string s8, .string s9, .string s10, .string s11, .string s12, .string s13, .string s14, .string s15, .string s16, .string s17, .string s18] 36
    rw [Wk.size_alloc, hW1] at this
    exact this
  go_enter Tryz.func13, Tryz.ntmps13
  go_wp2_with (refine wpList_store_rowTo rfl 36 (.tmp 2) (.tmp 41) rfl rfl (w.heap.size + 1) #[.string s0, .string s1, .string s2, .string s3, .string s4, .string s5, .string s6, .string s7, .string s8, .string s9, .string s10, .string s11, .string s12, .string s13, .string s14, .string s15, .string s16, .string s17, .string s18] ?_ ?_ 36 _ hH hi36 rfl h1c ?_; rfl; rfl)
  rw [hX]
  refine bodyPost_ret (v := .agg #[.string s0, .string s1, .string s2, .string s3, .string s4, .string s5, .string s6, .string s7, .string s8, .string s9, .string s10, .string s11, .string s12, .string s13, .string s14, .string s15, .string s16, .string s17, .string s18]) ?_ rfl ⟨rfl, ((Below.refl _ _).alloc (Nat.le_refl _) _).alloc (by simp) _⟩
  refine results_cell_row rfl _ _ (w.heap.size + 1) 36 #[.string s0, .string s1, .string s2, .string s3, .string s4, .string s5, .string s6, .string s7, .string s8, .string s9, .string s10, .string s11, .string s12, .string s13, .string s14, .string s15, .string s16, .string s17, .string s18] (0, 0) _ rfl ?_ Tryz.underlying36 rfl (by kernel_rfl)
  have := heap_alloc_last (w.alloc (.cells #[.string s0, .string s1, .string s2, .string s3, .string s4, .string s5, .string s6, .string s7, .string s8, .string s9, .string s10, .string s11, .string s12, .string s13, .string s14, .string s15, .string s16, .string s17, .string s18, .int .i64 st] 23)) (.cells #[.string s0, .string s1, .string s2, .string s3, .string s4, .string s5, .string s6, .string s7, .string s8, .string s9, .string s10, .string s11, .string s12, .string s13, .string s14, .string s15, .string s16, .string s17, .string s18] 36)
  rw [Wk.size_alloc] at this
  exact this
end Go.Proofs.YtgdemlebohlolaaGreatDoor.Ck

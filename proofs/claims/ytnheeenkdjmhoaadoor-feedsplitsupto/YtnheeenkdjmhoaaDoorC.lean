import Derived.Test.YtnheeenkdjmhoaaDoorB
/-
  DERIVED. Frame.
-/
namespace Go.Proofs.YtnheeenkdjmhoaaDoor
open Go Go.Proofs Go.RowKit

theorem cell_two_new (w : World) (x y : Value) (t : TypeId) : ∀ j u, [x, y][j]? = some u → (w.alloc (.cells #[x, y] t)).cell? ((⟨w.heap.size, 0, none⟩ : Addr).add j) = some u := by
  intro j u hj
  rcases j with _ | _ | j
  · simp at hj; subst hj; simp [go_sem, Addr.add]
  · simp at hj; subst hj; simp [go_sem, Addr.add]
  · simp at hj

set_option maxRecDepth 100000 in
theorem frame_any (w : World) (s : ByteArray) (hl : s.size ≤ 140737488351232) :
    Calls Tryd.prog 20 #[.string s] w fun e w' => e = .returned (.slice (some ⟨w.heap.size, 0, none⟩) (s.size + 3) (s.size + 3)) ∧ w'.ownsRow w.heap.size 5 1 (.slice (some ⟨w.heap.size, 0, none⟩) (s.size + 3) (s.size + 3)) (s.size + 3) (([.int .u8 11] ++ Lib.strCells s) ++ [.int .u8 28, .int .u8 13]) ∧ Below w.heap.size w w' := by
  obtain ⟨i0, hi, hz0, hz1, hz2⟩ := info_parts info5s
  obtain ⟨B, hB⟩ : ∃ B, w.heap.size = B := ⟨_, rfl⟩
  rw [hB]
  have HB : Hid (B = w.heap.size) := hB.symm
  go_enter Tryd.func20, Tryd.ntmps20
  go_wp2_with (first | (at_make; refine wpList_make_own _ rfl _ _ 22 rfl B 5 i0 (.int .u8 0) 1 Tryd.underlying22 hi hz0 hz1 .i64 .i64 _ (s.size + 3) rfl rfl ?_ ?_ ?_ ?_ ?_) | fail)
  · omega
  · rw [hz2]; omega
  · unfold maxLen; omega
  · omega
  · intro w1 hown1 hgrow1
    have hbe1 : Below B w w1 := (Below.refl B w).grown hgrow1 (by omega) (by simp)
    have hs1 : B ≤ w1.heap.size := by have := hbe1.size; omega
    clear hgrow1
    go_wp2_with (first | (at_builtin; go_loud (refine wpList_append_fits _ rfl _ _ 22 rfl B 5 i0 1 Tryd.underlying22 hi hz1 B 0 (s.size + 3) _ rfl (hown1.alloc _) ⟨w1.heap.size, 0, none⟩ 1 1 [.int .u8 11] rfl rfl ?_ ?_ ?_ ?_)) | fail)
    · exact cell_one_new _ _ _
    · intro u hu; simp at hu; subst hu; rfl
    · omega
    · intro w2 hown2 hgrow2
      have hbe2 : Below B w w2 := (hbe1.alloc hs1 _).grown hgrow2 (by simp; omega) (fun j hj => by cases hj; omega)
      have hs2 : B ≤ w2.heap.size := by have := hbe2.size; have := HB.out; omega
      clear hgrow2 hown1 hbe1
      go_wp2_with (first | (at_builtin; go_loud (refine Go.Lib.wpList_append_fits_string _ rfl _ _ 22 9 rfl B 5 i0 Tryd.underlying22 Tryd.underlying9 hi hz1 _ 1 (s.size + 3) _ rfl hown2 s rfl ?_ ?_ ?_)) | fail)
      · omega
      · omega
      · intro w3 hown3 hgrow3
        have hbe3 : Below B w w3 := hbe2.grown hgrow3 hs2 (fun j hj => by have hj' : some B = some j := hj; cases hj'; omega)
        have hs3 : B ≤ w3.heap.size := by have := hbe3.size; have := HB.out; omega
        clear hgrow3 hown2 hbe2
        go_wp2_with (first | (at_builtin; go_loud (refine wpList_append_fits _ rfl _ _ 22 rfl B 5 i0 1 Tryd.underlying22 hi hz1 B (1 + s.size) (s.size + 3) _ rfl (hown3.alloc _) ⟨w3.heap.size, 0, none⟩ 2 2 [.int .u8 28, .int .u8 13] rfl rfl ?_ ?_ ?_ ?_)) | fail)
        · exact cell_two_new _ _ _ _
        · intro u hu; simp at hu; rcases hu with rfl | rfl <;> rfl
        · omega
        · intro w4 hown4 hgrow4
          have hbe4 : Below B w w4 := (hbe3.alloc hs3 _).grown hgrow4 (by simp; omega) (fun j hj => by cases hj; omega)
          have e1 : 1 + s.size + 2 = s.size + 3 := by omega
          rw [e1] at hown4
          go_wp2
          go_ret
          refine ⟨?_, hown4, hbe4⟩
          first | rfl | simp [e1] | (rw [e1])
end Go.Proofs.YtnheeenkdjmhoaaDoor

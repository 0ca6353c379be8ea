import Derived.Test.YtpnmnjelppnfoabGreatBegB
namespace Go.Proofs.YtpnmnjelppnfoabGreat
open Go.RowKit

set_option maxHeartbeats 400000 in
theorem is_nil (w : World) : Calls Tryz.prog 25 #[.nilIface, .agg #[.slice none 0 0, .int .i64 0]] w fun e w' => e = .returned (.bool true) ∧ Below w.heap.size w w' := by
  obtain ⟨W1, hW1⟩ : ∃ W1, w.alloc (.cells #[.slice none 0 0, .int .i64 0] 62) = W1 := ⟨_, rfl⟩
  have hb1 : Below w.heap.size w W1 := hW1 ▸ (Below.refl _ _).alloc (Nat.le_refl _) _
  have hs1 : w.heap.size < W1.heap.size := by rw [← hW1]; simp
  have a0 : W1.cell? ⟨w.heap.size, 0, none⟩ = some (.slice none 0 0) := by rw [← hW1]; simp
  have a1 : W1.cell? ⟨w.heap.size, 1, none⟩ = some (.int .i64 0) := by rw [← hW1]; simp
  go_enter Tryz.func25, Tryz.ntmps25
  go_wp2_with (first | (go_at_call 70; refine (told_nil _).mono ?_; rintro e W2 ⟨rfl, hb2⟩; have b0 := (hb2.cell (p := ⟨w.heap.size, 0, none⟩) hs1).trans a0; have b1 := (hb2.cell (p := ⟨w.heap.size, 1, none⟩) hs1).trans a1; have hs2 : w.heap.size < W2.heap.size := Nat.lt_of_lt_of_le hs1 hb2.size) | (go_at_call 71; refine (same_none _).mono ?_; rintro e W3 ⟨rfl, hb3⟩))
  go_ret
  exact ⟨rfl, ((hb1.trans (hb2.mono hb1.size)).alloc (by omega) _).trans (hb3.mono (by simp; omega))⟩

set_option maxHeartbeats 800000 in
theorem is_one (q g cg : Nat) (at' : Int) (w : World) (h0 : w.cell? ⟨q, 0, none⟩ = some (.string { data := #[100, 105, 115, 107] })) (h1 : w.cell? ⟨q, 1, none⟩ = some (.int .i64 at')) (h2 : w.cell? ⟨q, 2, none⟩ = some (.iface 41 (.int .i64 20)))
    (g0 : w.cell? ⟨g, 0, none⟩ = some (.string { data := #[100, 105, 115, 107] })) (g1 : w.cell? ⟨g, 1, none⟩ = some (.int .i64 at')) :
    Calls Tryz.prog 25 #[.iface 176 (.pointer (some ⟨q, 0, none⟩)), .agg #[.slice (some ⟨g, 0, none⟩) 1 cg, .int .i64 20]] w fun e w' => e = .returned (.bool true) ∧ Below w.heap.size w w' := by
  have hq := cell_lt h0
  have hg := cell_lt g0
  obtain ⟨W1, hW1⟩ : ∃ W1, w.alloc (.cells #[.slice (some ⟨g, 0, none⟩) 1 cg, .int .i64 20] 62) = W1 := ⟨_, rfl⟩
  have hb1 : Below w.heap.size w W1 := hW1 ▸ (Below.refl _ _).alloc (Nat.le_refl _) _
  have hs1 : w.heap.size < W1.heap.size := by rw [← hW1]; simp
  have a0 : W1.cell? ⟨w.heap.size, 0, none⟩ = some (.slice (some ⟨g, 0, none⟩) 1 cg) := by rw [← hW1]; simp
  have a1 : W1.cell? ⟨w.heap.size, 1, none⟩ = some (.int .i64 20) := by rw [← hW1]; simp
  have ht := told_disk q at' W1 ((hb1.cell (p := ⟨q, 0, none⟩) hq).trans h0) ((hb1.cell (p := ⟨q, 1, none⟩) hq).trans h1) ((hb1.cell (p := ⟨q, 2, none⟩) hq).trans h2)
  have f0 := (hb1.cell (p := ⟨g, 0, none⟩) hg).trans g0
  have f1 := (hb1.cell (p := ⟨g, 1, none⟩) hg).trans g1
  have hgw : g < W1.heap.size := Nat.lt_of_lt_of_le hg hb1.size
  clear h0 h1 h2 g0 g1
  go_enter Tryz.func25, Tryz.ntmps25
  go_wp2_with (go_at_call 70; fail)
  refine ht.mono ?_
  rintro e W2 ⟨g4, cap4, rfl, hb2, t0, t1, hge⟩
  have b0 := (hb2.cell (p := ⟨w.heap.size, 0, none⟩) hs1).trans a0
  have b1 := (hb2.cell (p := ⟨w.heap.size, 1, none⟩) hs1).trans a1
  have hs2 : w.heap.size < W2.heap.size := Nat.lt_of_lt_of_le hs1 hb2.size
  have e0 := (hb2.cell (p := ⟨g, 0, none⟩) hgw).trans f0
  have e1 := (hb2.cell (p := ⟨g, 1, none⟩) hgw).trans f1
  clear ht a0 a1 f0 f1
  go_wp2_with (go_at_call 71; fail)
  have hb3 : Below W2.heap.size W2 (W2.alloc (.cells #[.slice (some ⟨g4, 0, none⟩) 1 cap4, .int .i64 20] 62)) := (Below.refl _ _).alloc (Nat.le_refl _) _
  refine (same_one g g4 cg cap4 20 at' _ ((hb3.cell (p := ⟨g, 0, none⟩) (cell_lt e0)).trans e0) ((hb3.cell (p := ⟨g, 1, none⟩) (cell_lt e1)).trans e1) ((hb3.cell (p := ⟨g4, 0, none⟩) (cell_lt t0)).trans t0) ((hb3.cell (p := ⟨g4, 1, none⟩) (cell_lt t1)).trans t1) (Nat.lt_of_lt_of_le (cell_lt e0) hb3.size) (Nat.lt_of_lt_of_le (cell_lt t0) hb3.size)).mono ?_
  rintro e W3 ⟨rfl, hb4⟩
  go_wp2
  go_ret
  exact ⟨rfl, ((hb1.trans (hb2.mono hb1.size)).trans (hb3.mono (by omega))).trans (hb4.mono (by simp; omega))⟩

end Go.Proofs.YtpnmnjelppnfoabGreat

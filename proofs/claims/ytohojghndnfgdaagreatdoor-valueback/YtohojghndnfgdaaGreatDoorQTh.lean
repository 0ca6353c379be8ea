import Derived.Test.YtohojghndnfgdaaGreatDoorQTg
/-
  DERIVED. The program's ParseTime and ParseMoment.
-/
namespace Go.Proofs.YtohojghndnfgdaaGreatDoor.Tm
open Go Go.Proofs Go.RowKit

def tv (S : Mst) : Value := .agg #[.int .i64 (S.h : Int), .int .i64 (S.mi : Int), .int .i64 (S.sc : Int), .int .i64 (S.mc : Int), .int .i64 (S.p : Int)]

set_option maxRecDepth 100000 in
set_option maxHeartbeats 1000000 in
theorem parse16_any (w : World) (s : ByteArray) (hs : s.size ≤ 140737488351232) (hT : Mt w) : Calls Tryz.prog 5 #[.string s] w (PostR w (tv (rdM s (timeS s))) (rdO s (timeS s))) := by
  obtain ⟨r, hr⟩ : ∃ r, w.heap.size = r := ⟨_, rfl⟩
  obtain ⟨W0, hW0⟩ : ∃ W0, w.alloc (.cells #[.int .i64 0, .int .i64 0, .int .i64 0, .int .i64 0, .int .i64 0] 29) = W0 := ⟨_, rfl⟩
  have hb0 : Below r w W0 := by rw [← hW0, ← hr]; exact (Below.refl _ _).alloc (Nat.le_refl _) _
  have hs0 : W0.heap.size = r + 1 := by rw [← hW0, ← hr]; simp
  have HZ0 : Hid (W0.rowIs r 29 5 fun k => #[Value.int .i64 0, .int .i64 0, .int .i64 0, .int .i64 0, .int .i64 0].getD k undef) := by
    show W0.rowIs _ _ _ _
    rw [← hW0, ← hr]
    exact World.rowIs_alloc w _ 29 _ (row_lit _)
  have c30 := readTM W0 s hs (hT.on (hr ▸ hb0))
  have HB0 : Hid (Below r w W0) := hb0
  obtain ⟨FS, hFS⟩ : ∃ FS, rdM s (timeS s) = FS := ⟨_, rfl⟩
  rw [hFS] at c30 ⊢
  generalize rdO s (timeS s) = o at *
  unfold mo11 at c30
  have HW0 : Hid (w.alloc (.cells #[.int .i64 0, .int .i64 0, .int .i64 0, .int .i64 0, .int .i64 0] 29) = W0) := hW0
  clear hT hb0 hW0 hFS
  go_enter Tryz.func5, Tryz.ntmps5
  go_wp2_with (go_at_call 13; refine Stop.mk ?_)
  rw [HW0.out]
  refine Stop.out (c30.mono ?_)
  rintro e W1 ⟨v, rfl, hv, hb1⟩
  have HZ1 : Hid (W1.rowIs r 29 5 fun k => #[Value.int .i64 0, .int .i64 0, .int .i64 0, .int .i64 0, .int .i64 0].getD k undef) := HZ0.out.of_block (hb1.block _ HZ0.out.lt)
  have HB1 : Hid (Below r w W1) := HB0.out.trans (hb1.mono (by omega))
  have HV : Hid (PErr W1 v o) := hv
  have hs1 : r < W1.heap.size := by have := hb1.size; omega
  clear c30 hv hb1 HZ0 HB0 HW0
  go_upto_region 2 with fail
  obtain ⟨W2, hW2⟩ : ∃ W2, W1.alloc (.cells #[.int .i64 (FS.y : Int), .int .i64 (FS.m : Int), .int .i64 (FS.d : Int), .int .i64 (FS.dp : Int), .int .i64 (FS.h : Int), .int .i64 (FS.mi : Int), .int .i64 (FS.sc : Int), .int .i64 (FS.mc : Int), .int .i64 (FS.p : Int), .bool FS.zd, .int .i64 FS.z] 35) = W2 := ⟨_, rfl⟩
  obtain ⟨B, hB⟩ : ∃ B, W1.heap.size = B := ⟨_, rfl⟩
  have d0 : W2.cell? ⟨B, 4, none⟩ = some (.int .i64 (FS.h : Int)) := by rw [← hW2, ← hB]; simp
  have d1 : W2.cell? ⟨B, 5, none⟩ = some (.int .i64 (FS.mi : Int)) := by rw [← hW2, ← hB]; simp
  have d2 : W2.cell? ⟨B, 6, none⟩ = some (.int .i64 (FS.sc : Int)) := by rw [← hW2, ← hB]; simp
  have d3 : W2.cell? ⟨B, 7, none⟩ = some (.int .i64 (FS.mc : Int)) := by rw [← hW2, ← hB]; simp
  have d4 : W2.cell? ⟨B, 8, none⟩ = some (.int .i64 (FS.p : Int)) := by rw [← hW2, ← hB]; simp
  have hbA : Below W1.heap.size W1 W2 := hW2 ▸ (Below.refl _ _).alloc (Nat.le_refl _) _
  have hZ2 := HZ1.out.of_block (hbA.block _ HZ1.out.lt)
  have e0 : W2.cell? ⟨r, 0, none⟩ = some (.int .i64 0) := hZ2.cell (i := 0) (by omega)
  have e1 : W2.cell? ⟨r, 1, none⟩ = some (.int .i64 0) := hZ2.cell (i := 1) (by omega)
  have e2 : W2.cell? ⟨r, 2, none⟩ = some (.int .i64 0) := hZ2.cell (i := 2) (by omega)
  have e3 : W2.cell? ⟨r, 3, none⟩ = some (.int .i64 0) := hZ2.cell (i := 3) (by omega)
  have e4 : W2.cell? ⟨r, 4, none⟩ = some (.int .i64 0) := hZ2.cell (i := 4) (by omega)
  have ef : ∀ i, W2.frozen? ⟨r, i, none⟩ = false := fun i => hZ2.frozen i
  have HD3 : Hid (Dbt W2 r v o) := ⟨HV.out.next hbA, fun p' hp' => by
    rintro rfl
    cases o with
    | none => have := HV.out; rw [hp'] at this; cases this
    | some x =>
      obtain ⟨q', hq', hF⟩ := HV.out.next hbA
      rw [hp'] at hq'
      obtain rfl : p' = q' := by simpa using hq'
      have := hF.2.2
      rw [e2] at this
      cases this⟩
  have HB3 : Hid (Below r w W2) := HB1.out.trans (hbA.mono (by omega))
  rw [hW2, hB]
  clear HZ1 HV HB1 hbA hZ2 hW2
  go_wp2
  refine bodyPost_ret (v := .tuple #[tv FS, v]) (by simp [results, Tryz.results5, go_sem, tv, e0, e1, e2, e3, e4]) rfl ⟨v, rfl, ?_, ?_⟩
  · exact (HD3.out.grown (grown_set (grown_set (grown_set (grown_set (grown_set (grown_refl _ _) 0 _) 1 _) 2 _) 3 _) 4 _)).1
  · rw [hr]
    exact ((((HB3.out.setCell (p := ⟨r, 0, none⟩) (Nat.le_refl _) _).setCell (p := ⟨r, 1, none⟩) (Nat.le_refl _) _).setCell (p := ⟨r, 2, none⟩) (Nat.le_refl _) _).setCell (p := ⟨r, 3, none⟩) (Nat.le_refl _) _).setCell (p := ⟨r, 4, none⟩) (Nat.le_refl _) _

set_option maxRecDepth 100000 in
set_option maxHeartbeats 1000000 in
theorem parse20_any (w : World) (s : ByteArray) (hs : s.size ≤ 140737488351232) (hT : Mt w) : Calls Tryz.prog 7 #[.string s] w (PostR w (mo11 (rdM s (momS s))) (rdO s (momS s))) := by
  obtain ⟨r, hr⟩ : ∃ r, w.heap.size = r := ⟨_, rfl⟩
  obtain ⟨W0, hW0⟩ : ∃ W0, w.alloc (.cells #[.int .i64 0, .int .i64 0, .int .i64 0, .int .i64 0, .int .i64 0, .int .i64 0, .int .i64 0, .int .i64 0, .int .i64 0, .bool false, .int .i64 0] 35) = W0 := ⟨_, rfl⟩
  have hb0 : Below r w W0 := by rw [← hW0, ← hr]; exact (Below.refl _ _).alloc (Nat.le_refl _) _
  have hs0 : W0.heap.size = r + 1 := by rw [← hW0, ← hr]; simp
  have HZ0 : Hid (W0.rowIs r 35 11 zm0) := by
    show W0.rowIs _ _ _ _
    rw [← hW0, ← hr]
    exact World.rowIs_alloc w _ 35 _ (row_lit _)
  have c30 := readDT W0 s hs (hT.on (hr ▸ hb0))
  have HB0 : Hid (Below r w W0) := hb0
  obtain ⟨FS, hFS⟩ : ∃ FS, rdM s (momS s) = FS := ⟨_, rfl⟩
  rw [hFS] at c30 ⊢
  generalize rdO s (momS s) = o at *
  unfold mo11 at c30
  have HW0 : Hid (w.alloc (.cells #[.int .i64 0, .int .i64 0, .int .i64 0, .int .i64 0, .int .i64 0, .int .i64 0, .int .i64 0, .int .i64 0, .int .i64 0, .bool false, .int .i64 0] 35) = W0) := hW0
  clear hT hb0 hW0 hFS
  go_enter Tryz.func7, Tryz.ntmps7
  go_wp2_with (go_at_call 13; refine Stop.mk ?_)
  rw [HW0.out]
  refine Stop.out (c30.mono ?_)
  rintro e W1 ⟨v, rfl, hv, hb1⟩
  have hZ1 : W1.rowIs r 35 11 zm0 := HZ0.out.of_block (hb1.block _ HZ0.out.lt)
  have HB1 : Hid (Below r w W1) := HB0.out.trans (hb1.mono (by omega))
  have HV : Hid (PErr W1 v o) := hv
  have e0 : W1.cell? ⟨r, 0, none⟩ = some (.int .i64 0) := hZ1.cell (i := 0) (by omega)
  have e1 : W1.cell? ⟨r, 1, none⟩ = some (.int .i64 0) := hZ1.cell (i := 1) (by omega)
  have e2 : W1.cell? ⟨r, 2, none⟩ = some (.int .i64 0) := hZ1.cell (i := 2) (by omega)
  have e3 : W1.cell? ⟨r, 3, none⟩ = some (.int .i64 0) := hZ1.cell (i := 3) (by omega)
  have e4 : W1.cell? ⟨r, 4, none⟩ = some (.int .i64 0) := hZ1.cell (i := 4) (by omega)
  have e5 : W1.cell? ⟨r, 5, none⟩ = some (.int .i64 0) := hZ1.cell (i := 5) (by omega)
  have e6 : W1.cell? ⟨r, 6, none⟩ = some (.int .i64 0) := hZ1.cell (i := 6) (by omega)
  have e7 : W1.cell? ⟨r, 7, none⟩ = some (.int .i64 0) := hZ1.cell (i := 7) (by omega)
  have e8 : W1.cell? ⟨r, 8, none⟩ = some (.int .i64 0) := hZ1.cell (i := 8) (by omega)
  have e9 : W1.cell? ⟨r, 9, none⟩ = some (.bool false) := hZ1.cell (i := 9) (by omega)
  have e10 : W1.cell? ⟨r, 10, none⟩ = some (.int .i64 0) := hZ1.cell (i := 10) (by omega)
  have ef : ∀ i, W1.frozen? ⟨r, i, none⟩ = false := fun i => hZ1.frozen i
  have HD3 : Hid (Dbt W1 r v o) := ⟨HV.out, fun p' hp' => by
    rintro rfl
    cases o with
    | none => have := HV.out; rw [hp'] at this; cases this
    | some x =>
      obtain ⟨q', hq', hF⟩ := HV.out
      rw [hp'] at hq'
      obtain rfl : p' = q' := by simpa using hq'
      have := hF.2.2
      rw [e2] at this
      cases this⟩
  clear c30 hv hb1 HZ0 HB0 HW0 hZ1 HV
  go_wp2
  refine bodyPost_ret (v := .tuple #[mo11 FS, v]) (by simp [results, Tryz.results7, go_sem, mo11, e0, e1, e2, e3, e4, e5, e6, e7, e8, e9, e10]) rfl ⟨v, rfl, ?_, ?_⟩
  · exact (HD3.out.grown (grown_set (grown_set (grown_set (grown_set (grown_set (grown_set (grown_set (grown_set (grown_set (grown_set (grown_set (grown_refl _ _) 0 _) 1 _) 2 _) 3 _) 4 _) 5 _) 6 _) 7 _) 8 _) 9 _) 10 _)).1
  · rw [hr]
    exact ((((((((((HB1.out.setCell (p := ⟨r, 0, none⟩) (Nat.le_refl _) _).setCell (p := ⟨r, 1, none⟩) (Nat.le_refl _) _).setCell (p := ⟨r, 2, none⟩) (Nat.le_refl _) _).setCell (p := ⟨r, 3, none⟩) (Nat.le_refl _) _).setCell (p := ⟨r, 4, none⟩) (Nat.le_refl _) _).setCell (p := ⟨r, 5, none⟩) (Nat.le_refl _) _).setCell (p := ⟨r, 6, none⟩) (Nat.le_refl _) _).setCell (p := ⟨r, 7, none⟩) (Nat.le_refl _) _).setCell (p := ⟨r, 8, none⟩) (Nat.le_refl _) _).setCell (p := ⟨r, 9, none⟩) (Nat.le_refl _) _).setCell (p := ⟨r, 10, none⟩) (Nat.le_refl _) _
end Go.Proofs.YtohojghndnfgdaaGreatDoor.Tm

import Derived.Test.YtehgeninocbpeaaDoorQV
import Derived.Test.YtehgeninocbpeaaDoorQEd
/-
  DERIVED. The document's ParseDate.
-/
namespace Go.Proofs.YtehgeninocbpeaaDoor.Tm
open Go Go.Proofs Go.RowKit

set_option maxRecDepth 100000 in
set_option maxHeartbeats 1000000 in
theorem parse11_short (w : World) (s : ByteArray) (hs : s.size ≤ 140737488351232) (h : cnt s 0 8 < 8) : Calls Tryd.prog 10 #[.string s] w (PostF w (dv 0 0 0) (some ((cnt s 0 8 : Nat), 100))) := by
  obtain ⟨W1, hW1⟩ : ∃ W1, w.alloc (.cells #[.int .i64 0, .int .i64 0, .int .i64 0] 38) = W1 := ⟨_, rfl⟩
  have hs1 : W1.heap.size = w.heap.size + 1 := by rw [← hW1]; simp
  obtain ⟨W2, hW2⟩ : ∃ W2, W1.alloc (.cells #[.slice none 0 0, .int .i64 0] 31) = W2 := ⟨_, rfl⟩
  have HM : Hid (M2 w W2) := by show M2 w W2; rw [← hW2, ← hW1]; exact M2.start w
  have c31 := digits31_any W2 s 0 8 (by omega) hs (by omega)
  obtain ⟨n, hn⟩ : ∃ n, cnt s 0 8 = n := ⟨_, rfl⟩
  rw [hn] at c31 h ⊢
  have hI : (n : Int) < 8 := by omega
  have c32 := no_any n 100 W2
  clear hn hs
  unfold dv
  go_enter Tryd.func10, Tryd.ntmps10
  go_wp2_with (go_at_call 32; refine Stop.mk ?_)
  refine Stop.out (c31.mono ?_)
  rintro e W3 ⟨rfl, rfl⟩
  clear c31
  go_wp2_with (go_at_call 18; refine Stop.mk ?_)
  refine Stop.out (c32.mono ?_)
  rintro e W5 ⟨v, rfl, hv, hb5⟩
  have HM5 : Hid (M2 w W5) := HM.out.on hb5
  obtain ⟨r0, r1, r2, rf, s0, s1, sf⟩ := HM5.out.facts
  have HV : Hid (RErr W5 v (some ((n : Int), 100))) := hv
  obtain ⟨g, k, rfl, _, _⟩ := hv
  clear c32 hb5 HM hW1 hW2
  go_wp2
  refine bodyPost_ret (v := .tuple #[.agg #[.int .i64 0, .int .i64 0, .int .i64 0], .agg #[.slice (some ⟨g, 0, none⟩) 1 k, .int .i64 100]]) (by simp [results, Tryd.results10, go_sem, r0, r1, r2, s0, s1]) rfl ⟨_, rfl, ?_, ?_⟩
  · exact stored_err HM5.out HV.out _ _ _ _ _
  · exact stored_below HM5.out.b _ _ _ _ _

set_option maxRecDepth 100000 in
set_option maxHeartbeats 1000000 in
theorem parse11_long (w : World) (s : ByteArray) (hs : s.size ≤ 140737488351232) (h : cnt s 0 8 = 8) (h8 : 8 < s.size) : Calls Tryd.prog 10 #[.string s] w (PostF w (dv 0 0 0) (some (8, 100))) := by
  obtain ⟨W1, hW1⟩ : ∃ W1, w.alloc (.cells #[.int .i64 0, .int .i64 0, .int .i64 0] 38) = W1 := ⟨_, rfl⟩
  have hs1 : W1.heap.size = w.heap.size + 1 := by rw [← hW1]; simp
  obtain ⟨W2, hW2⟩ : ∃ W2, W1.alloc (.cells #[.slice none 0 0, .int .i64 0] 31) = W2 := ⟨_, rfl⟩
  have HM : Hid (M2 w W2) := by show M2 w W2; rw [← hW2, ← hW1]; exact M2.start w
  have c31 := digits31_any W2 s 0 8 (by omega) hs (by omega)
  rw [h] at c31
  have hI : (8 : Int) < (s.size : Int) := by omega
  have c32 := no_any 8 100 W2
  clear h
  unfold dv
  go_enter Tryd.func10, Tryd.ntmps10
  go_wp2_with (go_at_call 32; refine Stop.mk ?_)
  refine Stop.out (c31.mono ?_)
  rintro e W3 ⟨rfl, rfl⟩
  clear c31
  go_wp2_with (go_at_call 18; refine Stop.mk ?_)
  refine Stop.out (c32.mono ?_)
  rintro e W5 ⟨v, rfl, hv, hb5⟩
  have HM5 : Hid (M2 w W5) := HM.out.on hb5
  obtain ⟨r0, r1, r2, rf, s0, s1, sf⟩ := HM5.out.facts
  have HV : Hid (RErr W5 v (some (8, 100))) := hv
  obtain ⟨g, k, rfl, _, _⟩ := hv
  clear c32 hb5 HM hW1 hW2
  go_wp2
  refine bodyPost_ret (v := .tuple #[.agg #[.int .i64 0, .int .i64 0, .int .i64 0], .agg #[.slice (some ⟨g, 0, none⟩) 1 k, .int .i64 100]]) (by simp [results, Tryd.results10, go_sem, r0, r1, r2, s0, s1]) rfl ⟨_, rfl, ?_, ?_⟩
  · exact stored_err HM5.out HV.out _ _ _ _ _
  · exact stored_below HM5.out.b _ _ _ _ _

set_option maxRecDepth 100000 in
set_option maxHeartbeats 1000000 in
theorem parse11_bad (w : World) (s : ByteArray) (hs : s.size ≤ 140737488351232) (h : cnt s 0 8 = 8) (h8 : s.size = 8) (hu : 0 ≤ pl (uf (nv s 0 4 : Nat) (nv s 4 2 : Nat) (nv s 6 2 : Nat))) :
    Calls Tryd.prog 10 #[.string s] w (PostF w (dv 0 0 0) (some (pl (uf (nv s 0 4 : Nat) (nv s 4 2 : Nat) (nv s 6 2 : Nat)), 101))) := by
  obtain ⟨W1, hW1⟩ : ∃ W1, w.alloc (.cells #[.int .i64 0, .int .i64 0, .int .i64 0] 38) = W1 := ⟨_, rfl⟩
  have hs1 : W1.heap.size = w.heap.size + 1 := by rw [← hW1]; simp
  obtain ⟨W2, hW2⟩ : ∃ W2, W1.alloc (.cells #[.slice none 0 0, .int .i64 0] 31) = W2 := ⟨_, rfl⟩
  have HM : Hid (M2 w W2) := by show M2 w W2; rw [← hW2, ← hW1]; exact M2.start w
  have c31 := digits31_any W2 s 0 8 (by omega) hs (by omega)
  have c33 := pieces33_any W2 s h8 h
  rw [h] at c31
  generalize nv s 0 4 = y at *
  generalize nv s 4 2 = m at *
  generalize nv s 6 2 = d at *
  generalize pl (uf (y : Int) (m : Int) (d : Int)) = U at *
  have c32 := fun W => no_any U 101 W
  clear h
  unfold dv at *
  go_enter Tryd.func10, Tryd.ntmps10
  go_wp2_with (go_at_call 32; refine Stop.mk ?_)
  refine Stop.out (c31.mono ?_)
  rintro e W3 ⟨rfl, rfl⟩
  clear c31
  go_wp2_with (go_at_call 33; refine Stop.mk ?_)
  refine Stop.out (c33.mono ?_)
  rintro e W4 ⟨rfl, hb4⟩
  have HM4 : Hid (M2 w W4) := HM.out.on hb4
  obtain ⟨W5, hW5⟩ : ∃ W5, W4.alloc (.cells #[.int .i64 (y : Int), .int .i64 (m : Int), .int .i64 (d : Int)] 38) = W5 := ⟨_, rfl⟩
  have HM5 : Hid (M2 w W5) := hW5 ▸ HM4.out.on ((Below.refl _ _).alloc (Nat.le_refl _) _)
  clear c33 hb4 HM HM4 hW1 hW2
  go_wp2_with (go_at_call 18; refine Stop.mk ?_)
  refine Stop.out ((c32 _).mono ?_)
  rintro e W6 ⟨v, rfl, hv, hb6⟩
  have HM6 : Hid (M2 w W6) := HM5.out.on hb6
  obtain ⟨r0, r1, r2, rf, s0, s1, sf⟩ := HM6.out.facts
  have HV : Hid (RErr W6 v (some (U, 101))) := hv
  obtain ⟨g, k, rfl, _, _⟩ := hv
  clear c32 hb6 HM5 hW5
  go_wp2
  refine bodyPost_ret (v := .tuple #[.agg #[.int .i64 0, .int .i64 0, .int .i64 0], .agg #[.slice (some ⟨g, 0, none⟩) 1 k, .int .i64 101]]) (by simp [results, Tryd.results10, go_sem, r0, r1, r2, s0, s1]) rfl ⟨_, rfl, ?_, ?_⟩
  · exact stored_err HM6.out HV.out _ _ _ _ _
  · exact stored_below HM6.out.b _ _ _ _ _

set_option maxRecDepth 100000 in
set_option maxHeartbeats 1000000 in
theorem parse11_ok (w : World) (s : ByteArray) (hs : s.size ≤ 140737488351232) (h : cnt s 0 8 = 8) (h8 : s.size = 8) (hu : pl (uf (nv s 0 4 : Nat) (nv s 4 2 : Nat) (nv s 6 2 : Nat)) = -1) :
    Calls Tryd.prog 10 #[.string s] w (PostF w (dv (nv s 0 4 : Nat) (nv s 4 2 : Nat) (nv s 6 2 : Nat)) none) := by
  obtain ⟨W1, hW1⟩ : ∃ W1, w.alloc (.cells #[.int .i64 0, .int .i64 0, .int .i64 0] 38) = W1 := ⟨_, rfl⟩
  have hs1 : W1.heap.size = w.heap.size + 1 := by rw [← hW1]; simp
  obtain ⟨W2, hW2⟩ : ∃ W2, W1.alloc (.cells #[.slice none 0 0, .int .i64 0] 31) = W2 := ⟨_, rfl⟩
  have HM : Hid (M2 w W2) := by show M2 w W2; rw [← hW2, ← hW1]; exact M2.start w
  have c31 := digits31_any W2 s 0 8 (by omega) hs (by omega)
  have c33 := pieces33_any W2 s h8 h
  rw [h] at c31
  rw [hu] at c33
  clear hu
  generalize nv s 0 4 = y at *
  generalize nv s 4 2 = m at *
  generalize nv s 6 2 = d at *
  have c34 := fun W => none34_any W
  clear h
  unfold dv at *
  go_enter Tryd.func10, Tryd.ntmps10
  go_wp2_with (go_at_call 32; refine Stop.mk ?_)
  refine Stop.out (c31.mono ?_)
  rintro e W3 ⟨rfl, rfl⟩
  clear c31
  go_wp2_with (go_at_call 33; refine Stop.mk ?_)
  refine Stop.out (c33.mono ?_)
  rintro e W4 ⟨rfl, hb4⟩
  have HM4 : Hid (M2 w W4) := HM.out.on hb4
  obtain ⟨W5, hW5⟩ : ∃ W5, W4.alloc (.cells #[.int .i64 (y : Int), .int .i64 (m : Int), .int .i64 (d : Int)] 38) = W5 := ⟨_, rfl⟩
  have HM5 : Hid (M2 w W5.drew) := by
    have : M2 w W5 := hW5 ▸ HM4.out.on ((Below.refl _ _).alloc (Nat.le_refl _) _)
    exact ⟨this.r, this.e, this.b.drew⟩
  have HD5 : Hid (W5.drew.rowIs W4.heap.size 38 3 (f3 y m d)) := by
    have : W5.rowIs W4.heap.size 38 3 (f3 y m d) := by
      rw [← hW5]
      exact World.rowIs_alloc W4 _ 38 _ (fun i hi => by
        rcases (by simp at hi; omega : i = 0 ∨ i = 1 ∨ i = 2) with rfl | rfl | rfl <;> rfl)
    exact this
  clear c33 hb4 HM HM4 hW1 hW2
  go_wp2
  have e0 : W5.cell? ⟨W4.heap.size, 0, none⟩ = some (.int .i64 (y : Int)) := HD5.out.cell (i := 0) (by omega)
  have e1 : W5.cell? ⟨W4.heap.size, 1, none⟩ = some (.int .i64 (m : Int)) := HD5.out.cell (i := 1) (by omega)
  have e2 : W5.cell? ⟨W4.heap.size, 2, none⟩ = some (.int .i64 (d : Int)) := HD5.out.cell (i := 2) (by omega)
  clear hW5
  go_region_with (first | (go_at_call 25; refine (c34 _).mono ?_; rintro e W10 ⟨rfl, hb10⟩; have M10 := M2.on HM5.out hb10; have D10 := row_on HD5.out hb10; have g0 : W10.cell? ⟨W4.heap.size, 0, none⟩ = some (.int .i64 (y : Int)) := D10.cell (i := 0) (by omega); have g1 : W10.cell? ⟨W4.heap.size, 1, none⟩ = some (.int .i64 (m : Int)) := D10.cell (i := 1) (by omega); have g2 : W10.cell? ⟨W4.heap.size, 2, none⟩ = some (.int .i64 (d : Int)) := D10.cell (i := 2) (by omega); obtain ⟨r0, r1, r2, rf, s0, s1, sf⟩ := M10.facts) | fail)
  all_goals
    go_wp2
    refine bodyPost_ret (v := .tuple #[.agg #[.int .i64 (y : Int), .int .i64 (m : Int), .int .i64 (d : Int)], .agg #[.slice none 0 0, .int .i64 0]]) (by simp [results, Tryd.results10, go_sem, r0, r1, r2, s0, s1]) rfl ⟨_, rfl, rfl, ?_⟩
    exact stored_below M10.b _ _ _ _ _
end Go.Proofs.YtehgeninocbpeaaDoor.Tm

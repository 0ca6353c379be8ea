import Derived.Test.YtgdemlebohlolaaGreatDoorQV
import Derived.Test.YtgdemlebohlolaaGreatDoorQEd
import Derived.Test.YtgdemlebohlolaaGreatDoorQRa
/-
  DERIVED. The document's ParseDate.
-/
namespace Go.Proofs.YtgdemlebohlolaaGreatDoor.Tm
open Go Go.Proofs Go.RowKit

set_option maxRecDepth 100000 in
set_option maxHeartbeats 1000000 in
theorem parse11_short (w : World) (s : ByteArray) (hs : s.size ≤ 140737488351232) (h : cnt s 0 8 < 8) : Calls Tryz.prog 26 #[.string s] w (PostF w (dv 0 0 0) (some ((cnt s 0 8 : Nat), 100))) := by
  obtain ⟨W1, hW1⟩ : ∃ W1, w.alloc (.cells #[.int .i64 0, .int .i64 0, .int .i64 0] 59) = W1 := ⟨_, rfl⟩
  have hs1 : W1.heap.size = w.heap.size + 1 := by rw [← hW1]; simp
  obtain ⟨W2, hW2⟩ : ∃ W2, W1.alloc (.cells #[.slice none 0 0, .int .i64 0] 30) = W2 := ⟨_, rfl⟩
  have HM : Hid (M2 w W2) := by show M2 w W2; rw [← hW2, ← hW1]; exact M2.start w
  have c31 := digits31_any W2 s 0 8 (by omega) hs (by omega)
  obtain ⟨n, hn⟩ : ∃ n, cnt s 0 8 = n := ⟨_, rfl⟩
  rw [hn] at c31 h ⊢
  have hI : (n : Int) < 8 := by omega
  have c32 := no_any n 100 W2
  clear hn hs
  unfold dv
  go_enter Tryz.func26, Tryz.ntmps26
  go_wp2_with (go_at_call 44; refine Stop.mk ?_)
  refine Stop.out (c31.mono ?_)
  rintro e W3 ⟨rfl, rfl⟩
  clear c31
  go_wp2_with (go_at_call 45; refine Stop.mk ?_)
  refine Stop.out (c32.mono ?_)
  rintro e W5 ⟨v, rfl, hv, hb5⟩
  have HM5 : Hid (M2 w W5) := HM.out.on hb5
  obtain ⟨r0, r1, r2, rf, s0, s1, sf⟩ := HM5.out.facts
  have HV : Hid (RErr W5 v (some ((n : Int), 100))) := hv
  obtain ⟨g, k, rfl, _, _⟩ := hv
  clear c32 hb5 HM hW1 hW2
  go_wp2
  refine bodyPost_ret (v := .tuple #[.agg #[.int .i64 0, .int .i64 0, .int .i64 0], .agg #[.slice (some ⟨g, 0, none⟩) 1 k, .int .i64 100]]) (by simp [results, Tryz.results26, go_sem, r0, r1, r2, s0, s1]) rfl ⟨_, rfl, ?_, ?_⟩
  · exact stored_err HM5.out HV.out _ _ _ _ _
  · exact stored_below HM5.out.b _ _ _ _ _

set_option maxRecDepth 100000 in
set_option maxHeartbeats 1000000 in
theorem parse11_long (w : World) (s : ByteArray) (hs : s.size ≤ 140737488351232) (h : cnt s 0 8 = 8) (h8 : 8 < s.size) : Calls Tryz.prog 26 #[.string s] w (PostF w (dv 0 0 0) (some (8, 100))) := by
  obtain ⟨W1, hW1⟩ : ∃ W1, w.alloc (.cells #[.int .i64 0, .int .i64 0, .int .i64 0] 59) = W1 := ⟨_, rfl⟩
  have hs1 : W1.heap.size = w.heap.size + 1 := by rw [← hW1]; simp
  obtain ⟨W2, hW2⟩ : ∃ W2, W1.alloc (.cells #[.slice none 0 0, .int .i64 0] 30) = W2 := ⟨_, rfl⟩
  have HM : Hid (M2 w W2) := by show M2 w W2; rw [← hW2, ← hW1]; exact M2.start w
  have c31 := digits31_any W2 s 0 8 (by omega) hs (by omega)
  rw [h] at c31
  have hI : (8 : Int) < (s.size : Int) := by omega
  have c32 := no_any 8 100 W2
  clear h
  unfold dv
  go_enter Tryz.func26, Tryz.ntmps26
  go_wp2_with (go_at_call 44; refine Stop.mk ?_)
  refine Stop.out (c31.mono ?_)
  rintro e W3 ⟨rfl, rfl⟩
  clear c31
  go_wp2_with (go_at_call 45; refine Stop.mk ?_)
  refine Stop.out (c32.mono ?_)
  rintro e W5 ⟨v, rfl, hv, hb5⟩
  have HM5 : Hid (M2 w W5) := HM.out.on hb5
  obtain ⟨r0, r1, r2, rf, s0, s1, sf⟩ := HM5.out.facts
  have HV : Hid (RErr W5 v (some (8, 100))) := hv
  obtain ⟨g, k, rfl, _, _⟩ := hv
  clear c32 hb5 HM hW1 hW2
  go_wp2
  refine bodyPost_ret (v := .tuple #[.agg #[.int .i64 0, .int .i64 0, .int .i64 0], .agg #[.slice (some ⟨g, 0, none⟩) 1 k, .int .i64 100]]) (by simp [results, Tryz.results26, go_sem, r0, r1, r2, s0, s1]) rfl ⟨_, rfl, ?_, ?_⟩
  · exact stored_err HM5.out HV.out _ _ _ _ _
  · exact stored_below HM5.out.b _ _ _ _ _

set_option maxRecDepth 100000 in
set_option maxHeartbeats 1000000 in
theorem parse11_bad (w : World) (s : ByteArray) (hs : s.size ≤ 140737488351232) (h : cnt s 0 8 = 8) (h8 : s.size = 8) (hu : 0 ≤ pl (uf (nv s 0 4 : Nat) (nv s 4 2 : Nat) (nv s 6 2 : Nat))) :
    Calls Tryz.prog 26 #[.string s] w (PostF w (dv 0 0 0) (some (pl (uf (nv s 0 4 : Nat) (nv s 4 2 : Nat) (nv s 6 2 : Nat)), 101))) := by
  obtain ⟨W1, hW1⟩ : ∃ W1, w.alloc (.cells #[.int .i64 0, .int .i64 0, .int .i64 0] 59) = W1 := ⟨_, rfl⟩
  have hs1 : W1.heap.size = w.heap.size + 1 := by rw [← hW1]; simp
  obtain ⟨W2, hW2⟩ : ∃ W2, W1.alloc (.cells #[.slice none 0 0, .int .i64 0] 30) = W2 := ⟨_, rfl⟩
  have HM : Hid (M2 w W2) := by show M2 w W2; rw [← hW2, ← hW1]; exact M2.start w
  have c31 := digits31_any W2 s 0 8 (by omega) hs (by omega)
  have c33 := pieces33_any W2 s h8 h
  rw [h] at c31
  generalize nv s 0 4 = y at *
  generalize nv s 4 2 = m at *
  generalize nv s 6 2 = d at *
  generalize pl (uf (y : Int) (m : Int) (d : Int)) = U at *
  have c32 := fun W => no_any U 101 W
  clear h
  unfold dv at *
  go_enter Tryz.func26, Tryz.ntmps26
  go_wp2_with (go_at_call 44; refine Stop.mk ?_)
  refine Stop.out (c31.mono ?_)
  rintro e W3 ⟨rfl, rfl⟩
  clear c31
  go_wp2_with (go_at_call 46; refine Stop.mk ?_)
  refine Stop.out (c33.mono ?_)
  rintro e W4 ⟨rfl, hb4⟩
  have HM4 : Hid (M2 w W4) := HM.out.on hb4
  obtain ⟨W5, hW5⟩ : ∃ W5, W4.alloc (.cells #[.int .i64 (y : Int), .int .i64 (m : Int), .int .i64 (d : Int)] 59) = W5 := ⟨_, rfl⟩
  have HM5 : Hid (M2 w W5) := hW5 ▸ HM4.out.on ((Below.refl _ _).alloc (Nat.le_refl _) _)
  clear c33 hb4 HM HM4 hW1 hW2
  go_wp2_with (go_at_call 45; refine Stop.mk ?_)
  refine Stop.out ((c32 _).mono ?_)
  rintro e W6 ⟨v, rfl, hv, hb6⟩
  have HM6 : Hid (M2 w W6) := HM5.out.on hb6
  obtain ⟨r0, r1, r2, rf, s0, s1, sf⟩ := HM6.out.facts
  have HV : Hid (RErr W6 v (some (U, 101))) := hv
  obtain ⟨g, k, rfl, _, _⟩ := hv
  clear c32 hb6 HM5 hW5
  go_wp2
  refine bodyPost_ret (v := .tuple #[.agg #[.int .i64 0, .int .i64 0, .int .i64 0], .agg #[.slice (some ⟨g, 0, none⟩) 1 k, .int .i64 101]]) (by simp [results, Tryz.results26, go_sem, r0, r1, r2, s0, s1]) rfl ⟨_, rfl, ?_, ?_⟩
  · exact stored_err HM6.out HV.out _ _ _ _ _
  · exact stored_below HM6.out.b _ _ _ _ _

set_option maxRecDepth 100000 in
set_option maxHeartbeats 1000000 in
theorem parse11_ok (w : World) (s : ByteArray) (hs : s.size ≤ 140737488351232) (h : cnt s 0 8 = 8) (h8 : s.size = 8) (hu : pl (uf (nv s 0 4 : Nat) (nv s 4 2 : Nat) (nv s 6 2 : Nat)) = -1) :
    Calls Tryz.prog 26 #[.string s] w (PostF w (dv (nv s 0 4 : Nat) (nv s 4 2 : Nat) (nv s 6 2 : Nat)) none) := by
  obtain ⟨W1, hW1⟩ : ∃ W1, w.alloc (.cells #[.int .i64 0, .int .i64 0, .int .i64 0] 59) = W1 := ⟨_, rfl⟩
  have hs1 : W1.heap.size = w.heap.size + 1 := by rw [← hW1]; simp
  obtain ⟨W2, hW2⟩ : ∃ W2, W1.alloc (.cells #[.slice none 0 0, .int .i64 0] 30) = W2 := ⟨_, rfl⟩
  have HM : Hid (M2 w W2) := by show M2 w W2; rw [← hW2, ← hW1]; exact M2.start w
  have c31 := digits31_any W2 s 0 8 (by omega) hs (by omega)
  have c33 := pieces33_any W2 s h8 h
  rw [h] at c31
  rw [hu] at c33
  clear hu
  generalize nv s 0 4 = y at *
  generalize nv s 4 2 = m at *
  generalize nv s 6 2 = d at *
  have c34 := fun W => none34_any W
  clear h
  unfold dv at *
  go_enter Tryz.func26, Tryz.ntmps26
  go_wp2_with (go_at_call 44; refine Stop.mk ?_)
  refine Stop.out (c31.mono ?_)
  rintro e W3 ⟨rfl, rfl⟩
  clear c31
  go_wp2_with (go_at_call 46; refine Stop.mk ?_)
  refine Stop.out (c33.mono ?_)
  rintro e W4 ⟨rfl, hb4⟩
  have HM4 : Hid (M2 w W4) := HM.out.on hb4
  obtain ⟨W5, hW5⟩ : ∃ W5, W4.alloc (.cells #[.int .i64 (y : Int), .int .i64 (m : Int), .int .i64 (d : Int)] 59) = W5 := ⟨_, rfl⟩
  have HM5 : Hid (M2 w W5.drew) := by
    have : M2 w W5 := hW5 ▸ HM4.out.on ((Below.refl _ _).alloc (Nat.le_refl _) _)
    exact ⟨this.r, this.e, this.b.drew⟩
  have HD5 : Hid (W5.drew.rowIs W4.heap.size 59 3 (f3 y m d)) := by
    have : W5.rowIs W4.heap.size 59 3 (f3 y m d) := by
      rw [← hW5]
      exact World.rowIs_alloc W4 _ 59 _ (fun i hi => by
        rcases (by simp at hi; omega : i = 0 ∨ i = 1 ∨ i = 2) with rfl | rfl | rfl <;> rfl)
    exact this
  clear c33 hb4 HM HM4 hW1 hW2
  go_wp2
  have e0 : W5.cell? ⟨W4.heap.size, 0, none⟩ = some (.int .i64 (y : Int)) := HD5.out.cell (i := 0) (by omega)
  have e1 : W5.cell? ⟨W4.heap.size, 1, none⟩ = some (.int .i64 (m : Int)) := HD5.out.cell (i := 1) (by omega)
  have e2 : W5.cell? ⟨W4.heap.size, 2, none⟩ = some (.int .i64 (d : Int)) := HD5.out.cell (i := 2) (by omega)
  clear hW5
  go_region_with (first | (go_at_call 16; refine (c34 _).mono ?_; rintro e W10 ⟨rfl, hb10⟩; have M10 := M2.on HM5.out hb10; have D10 := row_on HD5.out hb10; have g0 : W10.cell? ⟨W4.heap.size, 0, none⟩ = some (.int .i64 (y : Int)) := D10.cell (i := 0) (by omega); have g1 : W10.cell? ⟨W4.heap.size, 1, none⟩ = some (.int .i64 (m : Int)) := D10.cell (i := 1) (by omega); have g2 : W10.cell? ⟨W4.heap.size, 2, none⟩ = some (.int .i64 (d : Int)) := D10.cell (i := 2) (by omega); obtain ⟨r0, r1, r2, rf, s0, s1, sf⟩ := M10.facts) | fail)
  all_goals
    go_wp2
    refine bodyPost_ret (v := .tuple #[.agg #[.int .i64 (y : Int), .int .i64 (m : Int), .int .i64 (d : Int)], .agg #[.slice none 0 0, .int .i64 0]]) (by simp [results, Tryz.results26, go_sem, r0, r1, r2, s0, s1]) rfl ⟨_, rfl, rfl, ?_⟩
    exact stored_below M10.b _ _ _ _ _
end Go.Proofs.YtgdemlebohlolaaGreatDoor.Tm

/-
  DERIVED. What both read is the same.
-/
namespace Go.Proofs.YtgdemlebohlolaaGreatDoor.Tm
open Go Go.Proofs Go.RowKit

theorem oP_short {s : ByteArray} (h : cnt s 0 8 < 8) : oP s = some (((cnt s 0 8 : Nat) : Int), 100) := by
  have hb : b3 s = true ∧ k1 s + k2 s + k3 s = cnt s 0 8 := by
    have a1 := cnt_split s 4 4 0
    have a2 := cnt_split s 2 2 4
    have c1 := cnt_le s 4 0
    have c2 := cnt_le s 2 4
    have c3 := cnt_le s 2 6
    rw [show 4 + 4 = 8 by omega, show 0 + 4 = 4 by omega] at a1
    rw [show 2 + 2 = 4 by omega, show 4 + 2 = 6 by omega] at a2
    unfold b3 k3 b2 k2 k1
    by_cases h1 : cnt s 0 4 < 4
    · rw [if_pos h1] at a1
      simp [h1]
      omega
    · have h1' : cnt s 0 4 = 4 := by omega
      rw [if_neg h1] at a1
      by_cases h2 : cnt s 4 2 < 2
      · rw [if_pos h2] at a2
        simp [h1', h2]
        omega
      · have h2' : cnt s 4 2 = 2 := by omega
        rw [if_neg h2] at a2
        have h3 : cnt s 6 2 < 2 := by omega
        simp [h1', h2', h3]
        omega
  unfold oP oe
  rw [if_pos (.inl hb.1), hb.2]
  rfl

theorem ks {s : ByteArray} (h : cnt s 0 8 = 8) : k1 s = 4 ∧ k2 s = 2 ∧ k3 s = 2 ∧ b3 s = false := by
  have a1 := cnt_split s 4 4 0
  have a2 := cnt_split s 2 2 4
  have c1 := cnt_le s 4 0
  have c2 := cnt_le s 2 4
  have c3 := cnt_le s 2 6
  have c4 := cnt_le s 4 4
  rw [show 4 + 4 = 8 by omega, show 0 + 4 = 4 by omega] at a1
  rw [show 2 + 2 = 4 by omega, show 4 + 2 = 6 by omega] at a2
  have h1 : cnt s 0 4 = 4 := by split at a1 <;> omega
  rw [if_neg (by omega)] at a1
  have h2 : cnt s 4 2 = 2 := by split at a2 <;> omega
  rw [if_neg (by omega)] at a2
  have h3 : cnt s 6 2 = 2 := by omega
  unfold b3 k3 b2 k2 k1
  simp [h1, h2, h3]

theorem oP_long {s : ByteArray} (h : cnt s 0 8 = 8) (h8 : 8 < s.size) : oP s = some (8, 100) := by
  obtain ⟨e1, e2, e3, e4⟩ := ks h
  unfold oP oe
  rw [e1, e2, e3, if_pos (.inr (by omega))]
  rfl

theorem vals {s : ByteArray} (h : cnt s 0 8 = 8) : yy s = nv s 0 4 ∧ mm s = nv s 4 2 ∧ dd s = nv s 6 2 := by
  obtain ⟨e1, e2, e3, e4⟩ := ks h
  unfold yy mm dd
  rw [e1, e2, e3]
  exact ⟨rfl, rfl, rfl⟩

theorem oP_eight {s : ByteArray} (h : cnt s 0 8 = 8) (h8 : s.size = 8) :
    oP s = if uf (nv s 0 4 : Nat) (nv s 4 2 : Nat) (nv s 6 2 : Nat) = -1 then none else some (pl (uf (nv s 0 4 : Nat) (nv s 4 2 : Nat) (nv s 6 2 : Nat)), 101) := by
  obtain ⟨e1, e2, e3, e4⟩ := ks h
  obtain ⟨v1, v2, v3⟩ := vals h
  unfold oP oe o3 o2 o1
  rw [v1, v2, v3, e1, e2, e3, e4, if_neg (by simp; omega)]
  generalize nv s 0 4 = y
  generalize nv s 4 2 = m
  generalize nv s 6 2 = d
  unfold uf nextD
  rw [Int.toNat_natCast, Int.toNat_natCast]
  generalize md y m = L
  by_cases p1 : (y : Int) < 1 ∨ 9999 < (y : Int)
  · have : (decide ((y : Int) < 1) || decide (9999 < (y : Int))) = true := by simpa using p1
    rw [this]
    simp [p1, pl]
  · have : (decide ((y : Int) < 1) || decide (9999 < (y : Int))) = false := by simpa using p1
    rw [this, if_neg p1]
    by_cases p2 : (m : Int) < 1 ∨ 12 < (m : Int)
    · have : (decide ((m : Int) < 1) || decide (12 < (m : Int))) = true := by simpa using p2
      rw [this, if_pos p2]
      simp [pl]
    · have : (decide ((m : Int) < 1) || decide (12 < (m : Int))) = false := by simpa using p2
      rw [this, if_neg p2]
      by_cases p3 : (d : Int) < 1 ∨ (L : Int) < (d : Int)
      · have : (decide ((d : Int) < 1) || decide ((L : Int) < (d : Int))) = true := by simpa using p3
        rw [this, if_pos p3]
        simp [pl]
      · have : (decide ((d : Int) < 1) || decide ((L : Int) < (d : Int))) = false := by simpa using p3
        rw [this, if_neg p3]
        simp
/-- Both read a text the same way. -/
def rd (s : ByteArray) : Value := if oP s = none then dv (yy s : Nat) (mm s : Nat) (dd s : Nat) else dv 0 0 0

theorem parse11_any (w : World) (s : ByteArray) (hs : s.size ≤ 140737488351232) : Calls Tryz.prog 26 #[.string s] w (PostF w (rd s) (oP s)) := by
  have hc := cnt_le s 8 0
  have hz := cnt_size s 8 0 (by omega)
  by_cases h : cnt s 0 8 < 8
  · have e := oP_short h
    have er : rd s = dv 0 0 0 := by unfold rd; rw [e, if_neg (by simp)]
    rw [er, e]
    exact parse11_short w s hs h
  · have h' : cnt s 0 8 = 8 := by omega
    by_cases h8 : 8 < s.size
    · have e := oP_long h' h8
      have er : rd s = dv 0 0 0 := by unfold rd; rw [e, if_neg (by simp)]
      rw [er, e]
      exact parse11_long w s hs h' h8
    · have h8' : s.size = 8 := by omega
      have e := oP_eight h' h8'
      obtain ⟨v1, v2, v3⟩ := vals h'
      by_cases hu : uf (nv s 0 4 : Nat) (nv s 4 2 : Nat) (nv s 6 2 : Nat) = -1
      · rw [if_pos hu] at e
        have er : rd s = dv (nv s 0 4 : Nat) (nv s 4 2 : Nat) (nv s 6 2 : Nat) := by unfold rd; rw [e, if_pos rfl, v1, v2, v3]
        rw [er, e]
        exact parse11_ok w s hs h' h8' (by rw [hu]; rfl)
      · rw [if_neg hu] at e
        have er : rd s = dv 0 0 0 := by unfold rd; rw [e, if_neg (by simp)]
        rw [er, e]
        refine parse11_bad w s hs h' h8' ?_
        have := (uf_is (nv s 0 4 : Nat) (nv s 4 2 : Nat) (nv s 6 2 : Nat)).resolve_left hu
        generalize uf (nv s 0 4 : Nat) (nv s 4 2 : Nat) (nv s 6 2 : Nat) = U at *
        rcases (by omega : U = 0 ∨ U = 1 ∨ U = 2) with rfl | rfl | rfl <;> decide

end Go.Proofs.YtgdemlebohlolaaGreatDoor.Tm

/-
  DERIVED. A day, read by the program: what it says.
-/
namespace Go.Proofs.YtgdemlebohlolaaGreatDoor.Tm
open Go Go.Proofs Go.RowKit

theorem mon_f (s : ByteArray) (S : Mst) : (monthS s S).a = S.a + pcC s S 2 ∧ (monthS s S).b = (S.b || decide (pcC s S 2 < 2)) ∧ (monthS s S).o = pcO s S 2 1 12 ∧ (monthS s S).y = S.y ∧ (monthS s S).m = pcN s S 2 := ⟨rfl, rfl, rfl, rfl, rfl⟩
theorem day_f (s : ByteArray) (S : Mst) : (dayS s S).a = S.a + pcC s S 2 ∧ (dayS s S).b = (S.b || decide (pcC s S 2 < 2)) ∧ (dayS s S).o = pcO s S 2 1 (md S.y S.m : Nat) ∧ (dayS s S).y = S.y ∧ (dayS s S).m = S.m ∧ (dayS s S).d = pcN s S 2 := ⟨rfl, rfl, rfl, rfl, rfl, rfl⟩
theorem year_f (s : ByteArray) (S : Mst) : (yearS s S).a = S.a + pcC s S 4 ∧ (yearS s S).b = (S.b || decide (pcC s S 4 < 4)) ∧ (yearS s S).o = pcO s S 4 1 9999 ∧ (yearS s S).y = pcN s S 4 := ⟨rfl, rfl, rfl, rfl⟩
theorem date_is (s : ByteArray) : rdO s (dateF s 0) = oP s ∧ (dateF s 0).y = yy s ∧ (dateF s 0).m = mm s ∧ (dateF s 0).d = dd s := by
  unfold dateF
  have e0 : (stA 0).a = 0 ∧ (stA 0).b = false ∧ (stA 0).o = none := ⟨rfl, rfl, rfl⟩
  generalize stA 0 = S0 at *
  obtain ⟨a0, b0, c0⟩ := e0
  have p1 : pcC s S0 4 = k1 s := by unfold pcC k1; rw [a0, b0]; rfl
  obtain ⟨a1, b1, c1, d1⟩ := year_f s S0
  rw [p1, a0, Nat.zero_add] at a1
  rw [p1, b0, Bool.false_or] at b1
  have n1 : pcN s S0 4 = yy s := by unfold pcN yy; rw [p1, a0]
  have c1' : (yearS s S0).o = o1 s := by rw [c1]; unfold pcO o1; rw [n1, a0, c0]
  rw [n1] at d1
  clear c1
  generalize yearS s S0 = Y at *
  obtain ⟨a2, b2', c2, d2, m2⟩ := mon_f s Y
  have p2 : pcC s Y 2 = k2 s := by unfold pcC k2; rw [a1, b1]
  have n2 : pcN s Y 2 = mm s := by unfold pcN mm; rw [p2, a1]
  rw [p2, a1] at a2
  have b2'' : (monthS s Y).b = b2 s := by rw [b2', p2, b1]; rfl
  have c2' : (monthS s Y).o = o2 s := by rw [c2]; unfold pcO o2; rw [n2, a1, c1']
  rw [d1] at d2
  rw [n2] at m2
  clear c2 b2'
  generalize monthS s Y = M at *
  obtain ⟨a3, b3', c3, d3, m3, x3⟩ := day_f s M
  have p3 : pcC s M 2 = k3 s := by unfold pcC k3; rw [a2, b2'']
  have n3 : pcN s M 2 = dd s := by unfold pcN dd; rw [p3, a2]
  rw [p3, a2] at a3
  have b3'' : (dayS s M).b = b3 s := by rw [b3', p3, b2'']; rfl
  have c3' : (dayS s M).o = o3 s := by rw [c3]; unfold pcO o3; rw [n3, a2, c2', d2, m2]
  refine ⟨?_, by rw [d3, d2], by rw [m3, m2], by rw [x3, n3]⟩
  unfold rdO fmO oP oe
  rw [a3, b3'', c3']
end Go.Proofs.YtgdemlebohlolaaGreatDoor.Tm

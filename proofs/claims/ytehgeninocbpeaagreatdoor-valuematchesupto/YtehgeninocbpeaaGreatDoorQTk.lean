import Derived.Test.YtehgeninocbpeaaGreatDoorQV
import Derived.Test.YtehgeninocbpeaaGreatDoorQEd
import Derived.Test.YtehgeninocbpeaaGreatDoorQTg
namespace Go.Proofs.YtehgeninocbpeaaGreatDoor.Tm
open Go Go.Proofs Go.RowKit
set_option maxRecDepth 100000 in
set_option maxHeartbeats 1000000 in
theorem parse11_short (w : World) (s : ByteArray) (hs : s.size ≤ 140737488351232) (h : cnt s 0 8 < 8) : Calls Tryz.prog 81 #[.string s] w (PostF w (dv 0 0 0) (some ((cnt s 0 8 : Nat), 100))) := by
  obtain ⟨W1, hW1⟩ : ∃ W1, w.alloc (.cells #[.int .i64 0, .int .i64 0, .int .i64 0] 118) = W1 := ⟨_, rfl⟩
  have hs1 : W1.heap.size = w.heap.size + 1 := by rw [← hW1]; simp
  obtain ⟨W2, hW2⟩ : ∃ W2, W1.alloc (.cells #[.slice none 0 0, .int .i64 0] 35) = W2 := ⟨_, rfl⟩
  have HM : Hid (M2 w W2) := by show M2 w W2; rw [← hW2, ← hW1]; exact M2.start w
  have c31 := digits31_any W2 s 0 8 (by omega) hs (by omega)
  obtain ⟨n, hn⟩ : ∃ n, cnt s 0 8 = n := ⟨_, rfl⟩
  rw [hn] at c31 h ⊢
  have hI : (n : Int) < 8 := by omega
  have c32 := no_any n 100 W2
  clear hn hs
  unfold dv
  go_enter Tryz.func81, Tryz.ntmps81
  go_wp2_with (go_at_call 56; refine Stop.mk ?_)
  refine Stop.out (c31.mono ?_)
  rintro e W3 ⟨rfl, rfl⟩
  clear c31
  go_wp2_with (go_at_call 31; refine Stop.mk ?_)
  refine Stop.out (c32.mono ?_)
  rintro e W5 ⟨v, rfl, hv, hb5⟩
  have HM5 : Hid (M2 w W5) := HM.out.on hb5
  obtain ⟨r0, r1, r2, rf, s0, s1, sf⟩ := HM5.out.facts
  have HV : Hid (RErr W5 v (some ((n : Int), 100))) := hv
  obtain ⟨g, k, rfl, _, _⟩ := hv
  clear c32 hb5 HM hW1 hW2
  go_wp2
  refine bodyPost_ret (v := .tuple #[.agg #[.int .i64 0, .int .i64 0, .int .i64 0], .agg #[.slice (some ⟨g, 0, none⟩) 1 k, .int .i64 100]]) (by simp [results, Tryz.results81, go_sem, r0, r1, r2, s0, s1]) rfl ⟨_, rfl, ?_, ?_⟩
  · exact stored_err HM5.out HV.out _ _ _ _ _
  · exact stored_below HM5.out.b _ _ _ _ _
set_option maxRecDepth 100000 in
set_option maxHeartbeats 1000000 in
theorem parse11_long (w : World) (s : ByteArray) (hs : s.size ≤ 140737488351232) (h : cnt s 0 8 = 8) (h8 : 8 < s.size) : Calls Tryz.prog 81 #[.string s] w (PostF w (dv 0 0 0) (some (8, 100))) := by
  obtain ⟨W1, hW1⟩ : ∃ W1, w.alloc (.cells #[.int .i64 0, .int .i64 0, .int .i64 0] 118) = W1 := ⟨_, rfl⟩
  have hs1 : W1.heap.size = w.heap.size + 1 := by rw [← hW1]; simp
  obtain ⟨W2, hW2⟩ : ∃ W2, W1.alloc (.cells #[.slice none 0 0, .int .i64 0] 35) = W2 := ⟨_, rfl⟩
  have HM : Hid (M2 w W2) := by show M2 w W2; rw [← hW2, ← hW1]; exact M2.start w
  have c31 := digits31_any W2 s 0 8 (by omega) hs (by omega)
  rw [h] at c31
  have hI : (8 : Int) < (s.size : Int) := by omega
  have c32 := no_any 8 100 W2
  clear h
  unfold dv
  go_enter Tryz.func81, Tryz.ntmps81
  go_wp2_with (go_at_call 56; refine Stop.mk ?_)
  refine Stop.out (c31.mono ?_)
  rintro e W3 ⟨rfl, rfl⟩
  clear c31
  go_wp2_with (go_at_call 31; refine Stop.mk ?_)
  refine Stop.out (c32.mono ?_)
  rintro e W5 ⟨v, rfl, hv, hb5⟩
  have HM5 : Hid (M2 w W5) := HM.out.on hb5
  obtain ⟨r0, r1, r2, rf, s0, s1, sf⟩ := HM5.out.facts
  have HV : Hid (RErr W5 v (some (8, 100))) := hv
  obtain ⟨g, k, rfl, _, _⟩ := hv
  clear c32 hb5 HM hW1 hW2
  go_wp2
  refine bodyPost_ret (v := .tuple #[.agg #[.int .i64 0, .int .i64 0, .int .i64 0], .agg #[.slice (some ⟨g, 0, none⟩) 1 k, .int .i64 100]]) (by simp [results, Tryz.results81, go_sem, r0, r1, r2, s0, s1]) rfl ⟨_, rfl, ?_, ?_⟩
  · exact stored_err HM5.out HV.out _ _ _ _ _
  · exact stored_below HM5.out.b _ _ _ _ _
set_option maxRecDepth 100000 in
set_option maxHeartbeats 1000000 in
theorem parse11_bad (w : World) (s : ByteArray) (hs : s.size ≤ 140737488351232) (h : cnt s 0 8 = 8) (h8 : s.size = 8) (hu : 0 ≤ pl (uf (nv s 0 4 : Nat) (nv s 4 2 : Nat) (nv s 6 2 : Nat))) :
    Calls Tryz.prog 81 #[.string s] w (PostF w (dv 0 0 0) (some (pl (uf (nv s 0 4 : Nat) (nv s 4 2 : Nat) (nv s 6 2 : Nat)), 101))) := by
  obtain ⟨W1, hW1⟩ : ∃ W1, w.alloc (.cells #[.int .i64 0, .int .i64 0, .int .i64 0] 118) = W1 := ⟨_, rfl⟩
  have hs1 : W1.heap.size = w.heap.size + 1 := by rw [← hW1]; simp
  obtain ⟨W2, hW2⟩ : ∃ W2, W1.alloc (.cells #[.slice none 0 0, .int .i64 0] 35) = W2 := ⟨_, rfl⟩
  have HM : Hid (M2 w W2) := by show M2 w W2; rw [← hW2, ← hW1]; exact M2.start w
  have c31 := digits31_any W2 s 0 8 (by omega) hs (by omega)
  have c33 := pieces33_any W2 s h8 h
  rw [h] at c31
  generalize nv s 0 4 = y at *
  generalize nv s 4 2 = m at *
  generalize nv s 6 2 = d at *
  generalize pl (uf (y : Int) (m : Int) (d : Int)) = U at *
  have c32 := fun W => no_any U 101 W
  clear h
  unfold dv at *
  go_enter Tryz.func81, Tryz.ntmps81
  go_wp2_with (go_at_call 56; refine Stop.mk ?_)
  refine Stop.out (c31.mono ?_)
  rintro e W3 ⟨rfl, rfl⟩
  clear c31
  go_wp2_with (go_at_call 107; refine Stop.mk ?_)
  refine Stop.out (c33.mono ?_)
  rintro e W4 ⟨rfl, hb4⟩
  have HM4 : Hid (M2 w W4) := HM.out.on hb4
  obtain ⟨W5, hW5⟩ : ∃ W5, W4.alloc (.cells #[.int .i64 (y : Int), .int .i64 (m : Int), .int .i64 (d : Int)] 118) = W5 := ⟨_, rfl⟩
  have HM5 : Hid (M2 w W5) := hW5 ▸ HM4.out.on ((Below.refl _ _).alloc (Nat.le_refl _) _)
  clear c33 hb4 HM HM4 hW1 hW2
  go_wp2_with (go_at_call 31; refine Stop.mk ?_)
  refine Stop.out ((c32 _).mono ?_)
  rintro e W6 ⟨v, rfl, hv, hb6⟩
  have HM6 : Hid (M2 w W6) := HM5.out.on hb6
  obtain ⟨r0, r1, r2, rf, s0, s1, sf⟩ := HM6.out.facts
  have HV : Hid (RErr W6 v (some (U, 101))) := hv
  obtain ⟨g, k, rfl, _, _⟩ := hv
  clear c32 hb6 HM5 hW5
  go_wp2
  refine bodyPost_ret (v := .tuple #[.agg #[.int .i64 0, .int .i64 0, .int .i64 0], .agg #[.slice (some ⟨g, 0, none⟩) 1 k, .int .i64 101]]) (by simp [results, Tryz.results81, go_sem, r0, r1, r2, s0, s1]) rfl ⟨_, rfl, ?_, ?_⟩
  · exact stored_err HM6.out HV.out _ _ _ _ _
  · exact stored_below HM6.out.b _ _ _ _ _
set_option maxRecDepth 100000 in
set_option maxHeartbeats 1000000 in
theorem parse11_ok (w : World) (s : ByteArray) (hs : s.size ≤ 140737488351232) (h : cnt s 0 8 = 8) (h8 : s.size = 8) (hu : pl (uf (nv s 0 4 : Nat) (nv s 4 2 : Nat) (nv s 6 2 : Nat)) = -1) :
    Calls Tryz.prog 81 #[.string s] w (PostF w (dv (nv s 0 4 : Nat) (nv s 4 2 : Nat) (nv s 6 2 : Nat)) none) := by
  obtain ⟨W1, hW1⟩ : ∃ W1, w.alloc (.cells #[.int .i64 0, .int .i64 0, .int .i64 0] 118) = W1 := ⟨_, rfl⟩
  have hs1 : W1.heap.size = w.heap.size + 1 := by rw [← hW1]; simp
  obtain ⟨W2, hW2⟩ : ∃ W2, W1.alloc (.cells #[.slice none 0 0, .int .i64 0] 35) = W2 := ⟨_, rfl⟩
  have HM : Hid (M2 w W2) := by show M2 w W2; rw [← hW2, ← hW1]; exact M2.start w
  have c31 := digits31_any W2 s 0 8 (by omega) hs (by omega)
  have c33 := pieces33_any W2 s h8 h
  rw [h] at c31
  rw [hu] at c33
  clear hu
  generalize nv s 0 4 = y at *
  generalize nv s 4 2 = m at *
  generalize nv s 6 2 = d at *
  have c34 := fun W => none34_any W
  clear h
  unfold dv at *
  go_enter Tryz.func81, Tryz.ntmps81
  go_wp2_with (go_at_call 56; refine Stop.mk ?_)
  refine Stop.out (c31.mono ?_)
  rintro e W3 ⟨rfl, rfl⟩
  clear c31
  go_wp2_with (go_at_call 107; refine Stop.mk ?_)
  refine Stop.out (c33.mono ?_)
  rintro e W4 ⟨rfl, hb4⟩
  have HM4 : Hid (M2 w W4) := HM.out.on hb4
  obtain ⟨W5, hW5⟩ : ∃ W5, W4.alloc (.cells #[.int .i64 (y : Int), .int .i64 (m : Int), .int .i64 (d : Int)] 118) = W5 := ⟨_, rfl⟩
  have HM5 : Hid (M2 w W5.drew) := by
    have : M2 w W5 := hW5 ▸ HM4.out.on ((Below.refl _ _).alloc (Nat.le_refl _) _)
    exact ⟨this.r, this.e, this.b.drew⟩
  have HD5 : Hid (W5.drew.rowIs W4.heap.size 118 3 (f3 y m d)) := by
    have : W5.rowIs W4.heap.size 118 3 (f3 y m d) := by
      rw [← hW5]
      exact World.rowIs_alloc W4 _ 118 _ (fun i hi => by
        rcases (by simp at hi; omega : i = 0 ∨ i = 1 ∨ i = 2) with rfl | rfl | rfl <;> rfl)
    exact this
  clear c33 hb4 HM HM4 hW1 hW2
  go_wp2
  have e0 : W5.cell? ⟨W4.heap.size, 0, none⟩ = some (.int .i64 (y : Int)) := HD5.out.cell (i := 0) (by omega)
  have e1 : W5.cell? ⟨W4.heap.size, 1, none⟩ = some (.int .i64 (m : Int)) := HD5.out.cell (i := 1) (by omega)
  have e2 : W5.cell? ⟨W4.heap.size, 2, none⟩ = some (.int .i64 (d : Int)) := HD5.out.cell (i := 2) (by omega)
  clear hW5
  go_region_with (first | (go_at_call 27; refine (c34 _).mono ?_; rintro e W10 ⟨rfl, hb10⟩; have M10 := M2.on HM5.out hb10; have D10 := row_on HD5.out hb10; have g0 : W10.cell? ⟨W4.heap.size, 0, none⟩ = some (.int .i64 (y : Int)) := D10.cell (i := 0) (by omega); have g1 : W10.cell? ⟨W4.heap.size, 1, none⟩ = some (.int .i64 (m : Int)) := D10.cell (i := 1) (by omega); have g2 : W10.cell? ⟨W4.heap.size, 2, none⟩ = some (.int .i64 (d : Int)) := D10.cell (i := 2) (by omega); obtain ⟨r0, r1, r2, rf, s0, s1, sf⟩ := M10.facts) | fail)
  all_goals
    go_wp2
    refine bodyPost_ret (v := .tuple #[.agg #[.int .i64 (y : Int), .int .i64 (m : Int), .int .i64 (d : Int)], .agg #[.slice none 0 0, .int .i64 0]]) (by simp [results, Tryz.results81, go_sem, r0, r1, r2, s0, s1]) rfl ⟨_, rfl, rfl, ?_⟩
    exact stored_below M10.b _ _ _ _ _
end Go.Proofs.YtehgeninocbpeaaGreatDoor.Tm

namespace Go.Proofs.YtehgeninocbpeaaGreatDoor.Tm
open Go Go.Proofs Go.RowKit
theorem get_ext {s : ByteArray} {e k : Nat} (he : e ≤ s.size) (hk : k < e) : (s.extract 0 e).get! k = s.get! k := by
  have h1 : k < (s.extract 0 e).size := by rw [ByteArray.size_extract]; omega
  rw [← get_get! _ k h1, ← get_get! s k (by omega)]
  simp [ByteArray.getElem_extract]
theorem isD_ext {s : ByteArray} {e k : Nat} (he : e ≤ s.size) (hk : k < e) : isD (s.extract 0 e) k = isD s k := by
  unfold isD
  rw [get_ext he hk, ByteArray.size_extract]
  have h1 : decide (k < min e s.size - 0) = true := by simp; omega
  have h2 : decide (k < s.size) = true := by simp; omega
  rw [h1, h2]
theorem isD_past {s : ByteArray} {k : Nat} (hk : ¬ k < s.size) : isD s k = false := by unfold isD; rw [decide_eq_false hk, Bool.false_and]
theorem cnt_ext {s : ByteArray} {e : Nat} (he : e ≤ s.size) (hE : isD s e = false) : ∀ m i, i ≤ e → cnt (s.extract 0 e) i m = cnt s i m ∧ i + cnt s i m ≤ e
  | 0, i, h => by simp [cnt]; exact h
  | m + 1, i, h => by
    rw [cnt, cnt]
    rcases Nat.lt_or_eq_of_le h with h1 | h1
    · rw [isD_ext he h1]
      cases hd : isD s i with
      | true =>
        have ih := cnt_ext he hE m (i + 1) (by omega)
        rw [if_pos rfl, if_pos rfl, ih.1]
        exact ⟨rfl, by omega⟩
      | false => simp; omega
    · subst h1
      rw [hE, isD_past (by rw [ByteArray.size_extract]; omega)]
      simp
def PostK (w : World) (T : Value) (c a : Int) (e : Ending) (w' : World) : Prop := e = .returned (.tuple #[T, .int .i64 c, .int .i64 a]) ∧ Below w.heap.size w w'
def t5 (h mi sc mc p : Int) : Value := .agg #[.int .i64 h, .int .i64 mi, .int .i64 sc, .int .i64 mc, .int .i64 p]
def Clk (w W : World) (r : Nat) : Prop := w.heap.size = r ∧ W.rowIs r 124 5 (fun k => #[Value.int .i64 0, .int .i64 0, .int .i64 0, .int .i64 0, .int .i64 0].getD k undef) ∧ W.rowIs (r + 1) 124 5 (fun k => #[Value.int .i64 0, .int .i64 0, .int .i64 0, .int .i64 0, .int .i64 0].getD k undef) ∧ Below r w W
theorem Clk.start (w : World) : Clk w ((w.alloc (.cells #[.int .i64 0, .int .i64 0, .int .i64 0, .int .i64 0, .int .i64 0] 124)).alloc (.cells #[.int .i64 0, .int .i64 0, .int .i64 0, .int .i64 0, .int .i64 0] 124)) w.heap.size := by
  refine ⟨rfl, (World.rowIs_alloc w _ 124 _ (row_lit _)).alloc _, ?_, ((Below.refl _ _).alloc (Nat.le_refl _) _).alloc (by simp) _⟩
  have h : (w.alloc (.cells #[.int .i64 0, .int .i64 0, .int .i64 0, .int .i64 0, .int .i64 0] 124)).heap.size = w.heap.size + 1 := by simp
  rw [← h]
  exact World.rowIs_alloc _ _ 124 _ (row_lit _)
theorem below5 {w W : World} {r : Nat} (h : Below r w W) (a b c d e : Value) : Below r w (((((W.setCell ⟨r, 0, none⟩ a).setCell ⟨r, 1, none⟩ b).setCell ⟨r, 2, none⟩ c).setCell ⟨r, 3, none⟩ d).setCell ⟨r, 4, none⟩ e) :=
  ((((h.setCell (p := ⟨r, 0, none⟩) (Nat.le_refl _) _).setCell (p := ⟨r, 1, none⟩) (Nat.le_refl _) _).setCell (p := ⟨r, 2, none⟩) (Nat.le_refl _) _).setCell (p := ⟨r, 3, none⟩) (Nat.le_refl _) _).setCell (p := ⟨r, 4, none⟩) (Nat.le_refl _) _
set_option maxRecDepth 100000 in
set_option maxHeartbeats 1000000 in
theorem clock_form1 (w : World) (s : ByteArray) (i e : Nat) (hs : s.size ≤ 140737488351232) (hi : i ≤ e) (he : e ≤ s.size) (hE : isD s e = false) (hn : (cnt s i 6 ≠ 2 ∧ cnt s i 6 ≠ 4 ∧ cnt s i 6 ≠ 6) ∨ (cnt s i 6 = 2 ∧ i + 2 < e) ∨ (cnt s i 6 = 4 ∧ i + 4 < e)) :
    Calls Tryz.prog 110 #[.string s, .int .i64 (i : Int), .int .i64 (e : Int)] w (PostK w (t5 0 0 0 0 0) 100 ((i + cnt s i 6 : Nat) : Int)) := by
  obtain ⟨r, hr⟩ : ∃ r, w.heap.size = r := ⟨_, rfl⟩
  obtain ⟨W1, hW1⟩ : ∃ W1, (w.alloc (.cells #[.int .i64 0, .int .i64 0, .int .i64 0, .int .i64 0, .int .i64 0] 124)).alloc (.cells #[.int .i64 0, .int .i64 0, .int .i64 0, .int .i64 0, .int .i64 0] 124) = W1 := ⟨_, rfl⟩
  obtain ⟨-, hR, hT, hB⟩ : Clk w W1 r := by rw [← hW1, ← hr]; exact Clk.start w
  have c31 := digits31_any W1 (s.extract 0 e) i 6 (by rw [ByteArray.size_extract]; omega) (by rw [ByteArray.size_extract]; omega) (by omega)
  rw [(cnt_ext he hE 6 i hi).1] at c31
  have hle := (cnt_ext he hE 6 i hi).2
  have hc6 := cnt_le s 6 i
  generalize cnt s i 6 = n at *
  have heI : (e : Int) ≤ (s.size : Int) := by omega
  have z0 : W1.cell? ⟨r, 0, none⟩ = some (.int .i64 0) := hR.cell (i := 0) (by omega)
  have z1 : W1.cell? ⟨r, 1, none⟩ = some (.int .i64 0) := hR.cell (i := 1) (by omega)
  have z2 : W1.cell? ⟨r, 2, none⟩ = some (.int .i64 0) := hR.cell (i := 2) (by omega)
  have z3 : W1.cell? ⟨r, 3, none⟩ = some (.int .i64 0) := hR.cell (i := 3) (by omega)
  have z4 : W1.cell? ⟨r, 4, none⟩ = some (.int .i64 0) := hR.cell (i := 4) (by omega)
  have t0 : W1.cell? ⟨r + 1, 0, none⟩ = some (.int .i64 0) := hT.cell (i := 0) (by omega)
  have t1 : W1.cell? ⟨r + 1, 1, none⟩ = some (.int .i64 0) := hT.cell (i := 1) (by omega)
  have t2 : W1.cell? ⟨r + 1, 2, none⟩ = some (.int .i64 0) := hT.cell (i := 2) (by omega)
  have t3 : W1.cell? ⟨r + 1, 3, none⟩ = some (.int .i64 0) := hT.cell (i := 3) (by omega)
  have t4 : W1.cell? ⟨r + 1, 4, none⟩ = some (.int .i64 0) := hT.cell (i := 4) (by omega)
  have zf : ∀ j, W1.frozen? ⟨r, j, none⟩ = false := fun j => hR.frozen j
  have HB : Hid (Below r w W1) := hB
  have HW1 : Hid _ := hW1
  clear hR hT hB hW1 hE
  rw [show ((i + n : Nat) : Int) = (i : Int) + (n : Int) by omega]
  have hcs : n = 0 ∨ n = 1 ∨ n = 3 ∨ n = 5 ∨ (n = 2 ∧ i + 2 < e) ∨ (n = 4 ∧ i + 4 < e) := by omega
  clear hn
  rcases hcs with rfl | rfl | rfl | rfl | ⟨rfl, hlt⟩ | ⟨rfl, hlt⟩
  all_goals
    try have hltI : decide ((i : Int) + 2 < (e : Int)) = true := by simp; omega
    try have hltI : decide ((i : Int) + 4 < (e : Int)) = true := by simp; omega
    go_enter Tryz.func110, Tryz.ntmps110
    go_wp2_with (go_at_call 56; refine Stop.mk ?_)
    rw [HW1.out]
    refine Stop.out (c31.mono ?_)
    rintro e W3 ⟨rfl, rfl⟩
    clear c31
    go_wp2
    refine bodyPost_ret (by simp [results, Tryz.results110, go_sem, z0, z1, z2, z3, z4]; rfl) rfl ⟨?_, ?_⟩
    · first | rfl | simp [t5]
    · rw [hr]; exact below5 HB.out _ _ _ _ _
end Go.Proofs.YtehgeninocbpeaaGreatDoor.Tm

namespace Go.Proofs.YtehgeninocbpeaaGreatDoor.Tm
open Go Go.Proofs Go.RowKit
set_option maxRecDepth 100000 in
set_option maxHeartbeats 1000000 in
theorem clock_form3 (w : World) (s : ByteArray) (i e : Nat) (hs : s.size ≤ 140737488351232) (hi : i ≤ e) (he : e ≤ s.size) (hE : isD s e = false) (hn : cnt s i 6 = 6) (h6 : i + 6 < e) (hb : (s.get! (i + 6)).toNat ≠ 46) :
    Calls Tryz.prog 110 #[.string s, .int .i64 (i : Int), .int .i64 (e : Int)] w (PostK w (t5 0 0 0 0 0) 100 ((i + 6 : Nat) : Int)) := by
  obtain ⟨r, hr⟩ : ∃ r, w.heap.size = r := ⟨_, rfl⟩
  obtain ⟨W1, hW1⟩ : ∃ W1, (w.alloc (.cells #[.int .i64 0, .int .i64 0, .int .i64 0, .int .i64 0, .int .i64 0] 124)).alloc (.cells #[.int .i64 0, .int .i64 0, .int .i64 0, .int .i64 0, .int .i64 0] 124) = W1 := ⟨_, rfl⟩
  obtain ⟨-, hR, hT, hB⟩ : Clk w W1 r := by rw [← hW1, ← hr]; exact Clk.start w
  have c31 := digits31_any W1 (s.extract 0 e) i 6 (by rw [ByteArray.size_extract]; omega) (by rw [ByteArray.size_extract]; omega) (by omega)
  rw [(cnt_ext he hE 6 i hi).1, hn] at c31
  have hle := (cnt_ext he hE 6 i hi).2
  rw [hn] at hle
  have heI : (e : Int) ≤ (s.size : Int) := by omega
  have z0 : W1.cell? ⟨r, 0, none⟩ = some (.int .i64 0) := hR.cell (i := 0) (by omega)
  have z1 : W1.cell? ⟨r, 1, none⟩ = some (.int .i64 0) := hR.cell (i := 1) (by omega)
  have z2 : W1.cell? ⟨r, 2, none⟩ = some (.int .i64 0) := hR.cell (i := 2) (by omega)
  have z3 : W1.cell? ⟨r, 3, none⟩ = some (.int .i64 0) := hR.cell (i := 3) (by omega)
  have z4 : W1.cell? ⟨r, 4, none⟩ = some (.int .i64 0) := hR.cell (i := 4) (by omega)
  have t0 : W1.cell? ⟨r + 1, 0, none⟩ = some (.int .i64 0) := hT.cell (i := 0) (by omega)
  have t1 : W1.cell? ⟨r + 1, 1, none⟩ = some (.int .i64 0) := hT.cell (i := 1) (by omega)
  have t2 : W1.cell? ⟨r + 1, 2, none⟩ = some (.int .i64 0) := hT.cell (i := 2) (by omega)
  have t3 : W1.cell? ⟨r + 1, 3, none⟩ = some (.int .i64 0) := hT.cell (i := 3) (by omega)
  have t4 : W1.cell? ⟨r + 1, 4, none⟩ = some (.int .i64 0) := hT.cell (i := 4) (by omega)
  have zf : ∀ j, W1.frozen? ⟨r, j, none⟩ = false := fun j => hR.frozen j
  have tf : ∀ j, W1.frozen? ⟨r + 1, j, none⟩ = false := fun j => hT.frozen j
  have HB : Hid (Below r w W1) := hB
  have HW1 : Hid _ := hW1
  clear hR hT hB hW1 hE hn
  rw [show ((i + 6 : Nat) : Int) = (i : Int) + 6 by omega]
  have h6I : decide ((i : Int) + 6 < (e : Int)) = true := by simp; omega
  have h6S : (i : Int) + 6 < (s.size : Int) := by omega
  have h6N : i + 6 < s.size := by omega
  obtain ⟨c, hc⟩ : ∃ c, s[i + 6].toNat = c := ⟨_, rfl⟩
  rw [← get_get! s (i + 6) h6N, hc] at hb
  have hcI : ((c : Int) == 46) = false := by simp; omega
  go_enter Tryz.func110, Tryz.ntmps110
  go_wp2_with (go_at_call 56; refine Stop.mk ?_)
  rw [HW1.out]
  refine Stop.out (c31.mono ?_)
  rintro e W3 ⟨rfl, rfl⟩
  clear c31
  go_wp2
  refine bodyPost_ret (by simp [results, Tryz.results110, go_sem, z0, z1, z2, z3, z4]; rfl) rfl ⟨?_, ?_⟩
  · first | rfl | simp [t5]
  · rw [hr]; exact below5 HB.out _ _ _ _ _
set_option maxRecDepth 100000 in
set_option maxHeartbeats 1000000 in
theorem clock_form4 (w : World) (s : ByteArray) (i e : Nat) (hs : s.size ≤ 140737488351232) (hi : i ≤ e) (he : e ≤ s.size) (hE : isD s e = false) (hn : cnt s i 6 = 6) (h6 : i + 6 < e) (hb : (s.get! (i + 6)).toNat = 46) (n : Nat) (hfr : cnt s (i + 7) 6 = n) (hn0 : n = 0 ∨ i + 7 + n < e) :
    Calls Tryz.prog 110 #[.string s, .int .i64 (i : Int), .int .i64 (e : Int)] w (PostK w (t5 0 0 0 0 0) 100 ((i + 7 + n : Nat) : Int)) := by
  obtain ⟨r, hr⟩ : ∃ r, w.heap.size = r := ⟨_, rfl⟩
  obtain ⟨W1, hW1⟩ : ∃ W1, (w.alloc (.cells #[.int .i64 0, .int .i64 0, .int .i64 0, .int .i64 0, .int .i64 0] 124)).alloc (.cells #[.int .i64 0, .int .i64 0, .int .i64 0, .int .i64 0, .int .i64 0] 124) = W1 := ⟨_, rfl⟩
  obtain ⟨-, hR, hT, hB⟩ : Clk w W1 r := by rw [← hW1, ← hr]; exact Clk.start w
  have c31 := digits31_any W1 (s.extract 0 e) i 6 (by rw [ByteArray.size_extract]; omega) (by rw [ByteArray.size_extract]; omega) (by omega)
  rw [(cnt_ext he hE 6 i hi).1, hn] at c31
  have hle := (cnt_ext he hE 6 i hi).2
  rw [hn] at hle
  have heI : (e : Int) ≤ (s.size : Int) := by omega
  have z0 : W1.cell? ⟨r, 0, none⟩ = some (.int .i64 0) := hR.cell (i := 0) (by omega)
  have z1 : W1.cell? ⟨r, 1, none⟩ = some (.int .i64 0) := hR.cell (i := 1) (by omega)
  have z2 : W1.cell? ⟨r, 2, none⟩ = some (.int .i64 0) := hR.cell (i := 2) (by omega)
  have z3 : W1.cell? ⟨r, 3, none⟩ = some (.int .i64 0) := hR.cell (i := 3) (by omega)
  have z4 : W1.cell? ⟨r, 4, none⟩ = some (.int .i64 0) := hR.cell (i := 4) (by omega)
  have t0 : W1.cell? ⟨r + 1, 0, none⟩ = some (.int .i64 0) := hT.cell (i := 0) (by omega)
  have t1 : W1.cell? ⟨r + 1, 1, none⟩ = some (.int .i64 0) := hT.cell (i := 1) (by omega)
  have t2 : W1.cell? ⟨r + 1, 2, none⟩ = some (.int .i64 0) := hT.cell (i := 2) (by omega)
  have t3 : W1.cell? ⟨r + 1, 3, none⟩ = some (.int .i64 0) := hT.cell (i := 3) (by omega)
  have t4 : W1.cell? ⟨r + 1, 4, none⟩ = some (.int .i64 0) := hT.cell (i := 4) (by omega)
  have zf : ∀ j, W1.frozen? ⟨r, j, none⟩ = false := fun j => hR.frozen j
  have tf : ∀ j, W1.frozen? ⟨r + 1, j, none⟩ = false := fun j => hT.frozen j
  have HB : Hid (Below r w W1) := hB
  have HW1 : Hid _ := hW1
  have c31b := digits31_any W1 (s.extract 0 e) (i + 7) 6 (by rw [ByteArray.size_extract]; omega) (by rw [ByteArray.size_extract]; omega) (by omega)
  rw [(cnt_ext he hE 6 (i + 7) (by omega)).1, hfr, show ((i + 7 : Nat) : Int) = (i : Int) + 7 by omega] at c31b
  have hn6 : n ≤ 6 := hfr ▸ cnt_le s 6 (i + 7)
  clear hR hT hB hW1 hE hn hfr
  rw [show ((i + 7 + n : Nat) : Int) = (i : Int) + 7 + (n : Int) by omega]
  have h6I : decide ((i : Int) + 6 < (e : Int)) = true := by simp; omega
  have h6S : (i : Int) + 6 < (s.size : Int) := by omega
  have h6N : i + 6 < s.size := by omega
  have hc : s[i + 6].toNat = 46 := by rw [get_get! s (i + 6) h6N, hb]
  clear hb
  have hcs : ((n : Int) == 0) = true ∧ n = 0 ∨ ((n : Int) == 0) = false ∧ decide ((i : Int) + 7 + (n : Int) < (e : Int)) = true := by
    rcases Nat.eq_zero_or_pos n with h | h
    · exact .inl ⟨by simp; omega, h⟩
    · exact .inr ⟨by simp; omega, by simp; omega⟩
  clear hn0
  rcases hcs with ⟨-, rfl⟩ | ⟨hcs, hcs2⟩
  all_goals
    go_enter Tryz.func110, Tryz.ntmps110
    go_wp2_with (go_at_call 56; refine Stop.mk ?_)
    rw [HW1.out]
    refine Stop.out (c31.mono ?_)
    rintro e W3 ⟨rfl, rfl⟩
    clear c31
    go_wp2_with (go_at_call 56; refine Stop.mk ?_)
    refine Stop.out (c31b.mono ?_)
    rintro e W3 ⟨rfl, rfl⟩
    clear c31b
    go_wp2
    refine bodyPost_ret (by simp [results, Tryz.results110, go_sem, z0, z1, z2, z3, z4]; rfl) rfl ⟨?_, ?_⟩
    · first | rfl | simp [t5]
    · rw [hr]; exact below5 HB.out _ _ _ _ _
end Go.Proofs.YtehgeninocbpeaaGreatDoor.Tm

namespace Go.Proofs.YtehgeninocbpeaaGreatDoor.Tm
open Go Go.Proofs Go.RowKit
def clC (h m s : Nat) : Int := if 23 < h ∨ 59 < m ∨ 60 < s then 101 else 0
def clA (i h m s : Nat) : Int := if 23 < h then (i : Int) else if 59 < m then (i : Int) + 2 else if 60 < s then (i : Int) + 4 else 0
theorem cnt_sub {s : ByteArray} {i : Nat} : ∀ (m k j : Nat), k + j ≤ cnt s i m → cnt s (i + k) j = j
  | m, k, 0, _ => by simp [cnt]
  | m, k, j + 1, h => by
    have h1 := cnt_digit s m i k (by omega)
    rw [cnt, if_pos h1, show i + k + 1 = i + (k + 1) by omega, cnt_sub m (k + 1) j (by omega)]
    omega
def z5 : Nat → Value := fun k => #[Value.int .i64 0, .int .i64 0, .int .i64 0, .int .i64 0, .int .i64 0].getD k undef
def Lp8 (w W : World) (r : Nat) (H M S mc P : Nat) : Prop := W.rowIs r 124 5 z5 ∧ (∃ f, W.rowIs (r + 1) 124 5 f ∧ f 0 = .int .i64 (H : Int) ∧ f 1 = .int .i64 (M : Int) ∧ f 2 = .int .i64 (S : Int) ∧ f 3 = .int .i64 (mc : Int) ∧ f 4 = .int .i64 (P : Int)) ∧ Below r w W
theorem Lp8.next {w W : World} {r H M S mc P : Nat} (h : Lp8 w W r H M S mc P) (i : Nat) (v : Nat) (H' M' S' mc' P' : Nat) (hi : (i = 0 ∧ H' = v ∧ M' = M ∧ S' = S ∧ mc' = mc ∧ P' = P) ∨ (i = 1 ∧ H' = H ∧ M' = v ∧ S' = S ∧ mc' = mc ∧ P' = P) ∨ (i = 2 ∧ H' = H ∧ M' = M ∧ S' = v ∧ mc' = mc ∧ P' = P) ∨ (i = 3 ∧ H' = H ∧ M' = M ∧ S' = S ∧ mc' = v ∧ P' = P) ∨ (i = 4 ∧ H' = H ∧ M' = M ∧ S' = S ∧ mc' = mc ∧ P' = v)) :
    Lp8 w (W.setCell ⟨r + 1, i, none⟩ (.int .i64 (v : Int))) r H' M' S' mc' P' := by
  obtain ⟨hR, ⟨f, hT, f0, f1, f2, f3, f4⟩, hB⟩ := h
  refine ⟨row_kept hR (grown_set (grown_refl _ (some (r + 1))) i _) (by omega), ⟨up f i (.int .i64 (v : Int)), hT.set i _, ?_⟩, hB.setCell (p := ⟨r + 1, i, none⟩) (Nat.le_succ _) _⟩
  rcases hi with ⟨rfl, rfl, rfl, rfl, rfl, rfl⟩ | ⟨rfl, rfl, rfl, rfl, rfl, rfl⟩ | ⟨rfl, rfl, rfl, rfl, rfl, rfl⟩ | ⟨rfl, rfl, rfl, rfl, rfl, rfl⟩ | ⟨rfl, rfl, rfl, rfl, rfl, rfl⟩
  all_goals
    refine ⟨?_, ?_, ?_, ?_, ?_⟩ <;> first | exact up_eq | (rw [up_ne (by omega)]; assumption)
theorem Lp8.facts {w W : World} {r H M S mc P : Nat} (h : Lp8 w W r H M S mc P) : (W.cell? ⟨r, 0, none⟩ = some (.int .i64 0) ∧ W.cell? ⟨r, 1, none⟩ = some (.int .i64 0) ∧ W.cell? ⟨r, 2, none⟩ = some (.int .i64 0) ∧ W.cell? ⟨r, 3, none⟩ = some (.int .i64 0) ∧ W.cell? ⟨r, 4, none⟩ = some (.int .i64 0)) ∧ (W.cell? ⟨r + 1, 0, none⟩ = some (.int .i64 (H : Int)) ∧ W.cell? ⟨r + 1, 1, none⟩ = some (.int .i64 (M : Int)) ∧ W.cell? ⟨r + 1, 2, none⟩ = some (.int .i64 (S : Int)) ∧ W.cell? ⟨r + 1, 3, none⟩ = some (.int .i64 (mc : Int)) ∧ W.cell? ⟨r + 1, 4, none⟩ = some (.int .i64 (P : Int))) ∧ (∀ j, W.frozen? ⟨r, j, none⟩ = false) ∧ (∀ j, W.frozen? ⟨r + 1, j, none⟩ = false) ∧ Below r w W := by
  obtain ⟨hR, ⟨f, hT, f0, f1, f2, f3, f4⟩, hB⟩ := h
  exact ⟨⟨hR.cell (i := 0) (by omega), hR.cell (i := 1) (by omega), hR.cell (i := 2) (by omega), hR.cell (i := 3) (by omega), hR.cell (i := 4) (by omega)⟩, ⟨f0 ▸ hT.cell (i := 0) (by omega), f1 ▸ hT.cell (i := 1) (by omega), f2 ▸ hT.cell (i := 2) (by omega), f3 ▸ hT.cell (i := 3) (by omega), f4 ▸ hT.cell (i := 4) (by omega)⟩, fun j => hR.frozen j, fun j => hT.frozen j, hB⟩
set_option maxRecDepth 100000 in
set_option maxHeartbeats 2000000 in
theorem clock_ok2 (w : World) (s : ByteArray) (i e : Nat) (hs : s.size ≤ 140737488351232) (hi : i ≤ e) (he : e ≤ s.size) (hE : isD s e = false) (hn : cnt s i 6 = 2) (h6 : i + 2 = e) :
    Calls Tryz.prog 110 #[.string s, .int .i64 (i : Int), .int .i64 (e : Int)] w (PostK w (t5 (nv s i 2 : Nat) 0 0 0 1) (clC (nv s i 2) (0) (0)) (clA i (nv s i 2) (0) (0))) := by
  obtain ⟨r, hr⟩ : ∃ r, w.heap.size = r := ⟨_, rfl⟩
  obtain ⟨W1, hW1⟩ : ∃ W1, (w.alloc (.cells #[.int .i64 0, .int .i64 0, .int .i64 0, .int .i64 0, .int .i64 0] 124)).alloc (.cells #[.int .i64 0, .int .i64 0, .int .i64 0, .int .i64 0, .int .i64 0] 124) = W1 := ⟨_, rfl⟩
  obtain ⟨-, hR, hT, hB⟩ : Clk w W1 r := by rw [← hW1, ← hr]; exact Clk.start w
  have c31 := digits31_any W1 (s.extract 0 e) i 6 (by rw [ByteArray.size_extract]; omega) (by rw [ByteArray.size_extract]; omega) (by omega)
  rw [(cnt_ext he hE 6 i hi).1, hn] at c31
  have hle := (cnt_ext he hE 6 i hi).2
  rw [hn] at hle
  have heI : (e : Int) ≤ (s.size : Int) := by omega
  have z0 : W1.cell? ⟨r, 0, none⟩ = some (.int .i64 0) := hR.cell (i := 0) (by omega)
  have z1 : W1.cell? ⟨r, 1, none⟩ = some (.int .i64 0) := hR.cell (i := 1) (by omega)
  have z2 : W1.cell? ⟨r, 2, none⟩ = some (.int .i64 0) := hR.cell (i := 2) (by omega)
  have z3 : W1.cell? ⟨r, 3, none⟩ = some (.int .i64 0) := hR.cell (i := 3) (by omega)
  have z4 : W1.cell? ⟨r, 4, none⟩ = some (.int .i64 0) := hR.cell (i := 4) (by omega)
  have t0 : W1.cell? ⟨r + 1, 0, none⟩ = some (.int .i64 0) := hT.cell (i := 0) (by omega)
  have t1 : W1.cell? ⟨r + 1, 1, none⟩ = some (.int .i64 0) := hT.cell (i := 1) (by omega)
  have t2 : W1.cell? ⟨r + 1, 2, none⟩ = some (.int .i64 0) := hT.cell (i := 2) (by omega)
  have t3 : W1.cell? ⟨r + 1, 3, none⟩ = some (.int .i64 0) := hT.cell (i := 3) (by omega)
  have t4 : W1.cell? ⟨r + 1, 4, none⟩ = some (.int .i64 0) := hT.cell (i := 4) (by omega)
  have zf : ∀ j, W1.frozen? ⟨r, j, none⟩ = false := fun j => hR.frozen j
  have tf : ∀ j, W1.frozen? ⟨r + 1, j, none⟩ = false := fun j => hT.frozen j
  have HB : Hid (Below r w W1) := hB
  have HW1 : Hid _ := hW1
  have hvf0 : ∃ vf : ByteArray → Nat, vf = fun u => val u.data.toList := ⟨_, rfl⟩
  obtain ⟨vf, hvf⟩ := hvf0
  have nn : ∀ W u, (Digs u ∧ u.size ≤ 8) → Calls Tryz.prog 57 #[.string u] W fun e w' => e = .returned (.int .i64 (vf u : Nat)) ∧ W = w' := fun W u hu => by rw [hvf]; exact number47_any W u hu.1 hu.2
  have D0 : Digs (s.extract i (i + 2)) ∧ (s.extract i (i + 2)).size ≤ 8 := ⟨digs_ext s i 2 2 (by have := cnt_sub (s := s) (i := i) 6 0 2 (by omega); (try simp only [Nat.add_zero] at this); omega), by rw [ByteArray.size_extract]; omega⟩
  have e0 : nv s i 2 = vf (s.extract i (i + 2)) := by rw [hvf]; rfl
  rw [e0]
  clear e0
  obtain ⟨H, hH⟩ : ∃ H, vf (s.extract i (i + 2)) = H := ⟨_, rfl⟩
  rw [hH]
  clear hvf
  have hCA : (decide (23 < (H : Int)) = true ∧ clC H 0 0 = 101 ∧ clA i H 0 0 = (i : Int)) ∨ (decide (23 < (H : Int)) = false ∧ clC H 0 0 = 0 ∧ clA i H 0 0 = 0) := by
    unfold clC clA
    by_cases h0 : 23 < H
    · exact .inl <| ⟨by simp; omega, by rw [if_pos (by omega)], by rw [if_pos (by omega)]⟩
    · exact .inr ⟨by simp; omega, by rw [if_neg (by omega)], by rw [if_neg (by omega), if_neg (by omega), if_neg (by omega)]⟩
  have h2I : decide ((i : Int) + 2 < (e : Int)) = false := by simp; omega
  have h2S : (i : Int) + 2 ≤ (s.size : Int) := by omega
  clear hR hT hB hW1 hE hn h6 hle hi
  rcases hCA with ⟨hcs0, q1, q2⟩ | ⟨hcs0, q1, q2⟩
  all_goals
    rw [q1, q2]
    clear q1 q2
    go_enter Tryz.func110, Tryz.ntmps110
    go_wp2_with (go_at_call 56; refine Stop.mk ?_)
    rw [HW1.out]
    refine Stop.out (c31.mono ?_)
    rintro e W3 ⟨rfl, rfl⟩
    clear c31
    go_wp2_with (go_at_call 57; refine Stop.mk ?_)
    refine Stop.out ((nn _ _ D0).mono ?_)
    rintro e W3 ⟨rfl, rfl⟩
    rw [hH]
    go_wp2
    refine bodyPost_ret (by simp [results, Tryz.results110, go_sem, z0, z1, z2, z3, z4]; rfl) rfl ⟨?_, ?_⟩
    · first | rfl | simp [t5]
    · rw [hr]
      refine below5 ?_ _ _ _ _ _
      repeat first | exact HB.out | refine Below.setCell ?_ (Nat.le_succ _) _
set_option maxRecDepth 100000 in
set_option maxHeartbeats 2000000 in
theorem clock_ok4 (w : World) (s : ByteArray) (i e : Nat) (hs : s.size ≤ 140737488351232) (hi : i ≤ e) (he : e ≤ s.size) (hE : isD s e = false) (hn : cnt s i 6 = 4) (h6 : i + 4 = e) :
    Calls Tryz.prog 110 #[.string s, .int .i64 (i : Int), .int .i64 (e : Int)] w (PostK w (t5 (nv s i 2 : Nat) (nv s (i + 2) 2 : Nat) 0 0 2) (clC (nv s i 2) (nv s (i + 2) 2) (0)) (clA i (nv s i 2) (nv s (i + 2) 2) (0))) := by
  obtain ⟨r, hr⟩ : ∃ r, w.heap.size = r := ⟨_, rfl⟩
  obtain ⟨W1, hW1⟩ : ∃ W1, (w.alloc (.cells #[.int .i64 0, .int .i64 0, .int .i64 0, .int .i64 0, .int .i64 0] 124)).alloc (.cells #[.int .i64 0, .int .i64 0, .int .i64 0, .int .i64 0, .int .i64 0] 124) = W1 := ⟨_, rfl⟩
  obtain ⟨-, hR, hT, hB⟩ : Clk w W1 r := by rw [← hW1, ← hr]; exact Clk.start w
  have c31 := digits31_any W1 (s.extract 0 e) i 6 (by rw [ByteArray.size_extract]; omega) (by rw [ByteArray.size_extract]; omega) (by omega)
  rw [(cnt_ext he hE 6 i hi).1, hn] at c31
  have hle := (cnt_ext he hE 6 i hi).2
  rw [hn] at hle
  have heI : (e : Int) ≤ (s.size : Int) := by omega
  have z0 : W1.cell? ⟨r, 0, none⟩ = some (.int .i64 0) := hR.cell (i := 0) (by omega)
  have z1 : W1.cell? ⟨r, 1, none⟩ = some (.int .i64 0) := hR.cell (i := 1) (by omega)
  have z2 : W1.cell? ⟨r, 2, none⟩ = some (.int .i64 0) := hR.cell (i := 2) (by omega)
  have z3 : W1.cell? ⟨r, 3, none⟩ = some (.int .i64 0) := hR.cell (i := 3) (by omega)
  have z4 : W1.cell? ⟨r, 4, none⟩ = some (.int .i64 0) := hR.cell (i := 4) (by omega)
  have t0 : W1.cell? ⟨r + 1, 0, none⟩ = some (.int .i64 0) := hT.cell (i := 0) (by omega)
  have t1 : W1.cell? ⟨r + 1, 1, none⟩ = some (.int .i64 0) := hT.cell (i := 1) (by omega)
  have t2 : W1.cell? ⟨r + 1, 2, none⟩ = some (.int .i64 0) := hT.cell (i := 2) (by omega)
  have t3 : W1.cell? ⟨r + 1, 3, none⟩ = some (.int .i64 0) := hT.cell (i := 3) (by omega)
  have t4 : W1.cell? ⟨r + 1, 4, none⟩ = some (.int .i64 0) := hT.cell (i := 4) (by omega)
  have zf : ∀ j, W1.frozen? ⟨r, j, none⟩ = false := fun j => hR.frozen j
  have tf : ∀ j, W1.frozen? ⟨r + 1, j, none⟩ = false := fun j => hT.frozen j
  have HB : Hid (Below r w W1) := hB
  have HW1 : Hid _ := hW1
  have hvf0 : ∃ vf : ByteArray → Nat, vf = fun u => val u.data.toList := ⟨_, rfl⟩
  obtain ⟨vf, hvf⟩ := hvf0
  have nn : ∀ W u, (Digs u ∧ u.size ≤ 8) → Calls Tryz.prog 57 #[.string u] W fun e w' => e = .returned (.int .i64 (vf u : Nat)) ∧ W = w' := fun W u hu => by rw [hvf]; exact number47_any W u hu.1 hu.2
  have D0 : Digs (s.extract i (i + 2)) ∧ (s.extract i (i + 2)).size ≤ 8 := ⟨digs_ext s i 2 2 (by have := cnt_sub (s := s) (i := i) 6 0 2 (by omega); (try simp only [Nat.add_zero] at this); omega), by rw [ByteArray.size_extract]; omega⟩
  have e0 : nv s i 2 = vf (s.extract i (i + 2)) := by rw [hvf]; rfl
  rw [e0]
  clear e0
  obtain ⟨H, hH⟩ : ∃ H, vf (s.extract i (i + 2)) = H := ⟨_, rfl⟩
  rw [hH]
  have D2 : Digs (s.extract (i + 2) (i + 4)) ∧ (s.extract (i + 2) (i + 4)).size ≤ 8 := ⟨digs_ext s (i + 2) 2 2 (by have := cnt_sub (s := s) (i := i) 6 2 2 (by omega); (try simp only [Nat.add_zero] at this); omega), by rw [ByteArray.size_extract]; omega⟩
  have e2 : nv s (i + 2) 2 = vf (s.extract (i + 2) (i + 4)) := by rw [hvf]; rfl
  rw [e2]
  clear e2
  obtain ⟨M, hM⟩ : ∃ M, vf (s.extract (i + 2) (i + 4)) = M := ⟨_, rfl⟩
  rw [hM]
  clear hvf
  have hCA : (decide (23 < (H : Int)) = true ∧ clC H M 0 = 101 ∧ clA i H M 0 = (i : Int)) ∨ (decide (23 < (H : Int)) = false ∧ decide (59 < (M : Int)) = true ∧ clC H M 0 = 101 ∧ clA i H M 0 = (i : Int) + 2) ∨ (decide (23 < (H : Int)) = false ∧ decide (59 < (M : Int)) = false ∧ clC H M 0 = 0 ∧ clA i H M 0 = 0) := by
    unfold clC clA
    by_cases h0 : 23 < H
    · exact .inl <| ⟨by simp; omega, by rw [if_pos (by omega)], by rw [if_pos (by omega)]⟩
    · by_cases h1 : 59 < M
      · exact .inr <| .inl <| ⟨by simp; omega, by simp; omega, by rw [if_pos (by omega)], by rw [if_neg (by omega)]; rw [if_pos (by omega)]⟩
      · exact .inr <| .inr ⟨by simp; omega, by simp; omega, by rw [if_neg (by omega)], by rw [if_neg (by omega), if_neg (by omega), if_neg (by omega)]⟩
  have h2I : decide ((i : Int) + 4 < (e : Int)) = false := by simp; omega
  have h2S : (i : Int) + 2 ≤ (s.size : Int) := by omega
  have h4S : (i : Int) + 4 ≤ (s.size : Int) := by omega
  clear hR hT hB hW1 hE hn h6 hle hi
  rcases hCA with ⟨hcs0, q1, q2⟩ | ⟨hcs0, hcs1, q1, q2⟩ | ⟨hcs0, hcs1, q1, q2⟩
  all_goals
    rw [q1, q2]
    clear q1 q2
    go_enter Tryz.func110, Tryz.ntmps110
    go_wp2_with (go_at_call 56; refine Stop.mk ?_)
    rw [HW1.out]
    refine Stop.out (c31.mono ?_)
    rintro e W3 ⟨rfl, rfl⟩
    clear c31
    go_wp2_with (go_at_call 57; refine Stop.mk ?_)
    refine Stop.out ((nn _ _ D0).mono ?_)
    rintro e W3 ⟨rfl, rfl⟩
    rw [hH]
    go_wp2_with (go_at_call 57; refine Stop.mk ?_)
    refine Stop.out ((nn _ _ D2).mono ?_)
    rintro e W3 ⟨rfl, rfl⟩
    rw [hM]
    go_wp2
    refine bodyPost_ret (by simp [results, Tryz.results110, go_sem, z0, z1, z2, z3, z4]; rfl) rfl ⟨?_, ?_⟩
    · first | rfl | simp [t5]
    · rw [hr]
      refine below5 ?_ _ _ _ _ _
      repeat first | exact HB.out | refine Below.setCell ?_ (Nat.le_succ _) _
set_option maxRecDepth 100000 in
set_option maxHeartbeats 2000000 in
theorem clock_ok6 (w : World) (s : ByteArray) (i e : Nat) (hs : s.size ≤ 140737488351232) (hi : i ≤ e) (he : e ≤ s.size) (hE : isD s e = false) (hn : cnt s i 6 = 6) (h6 : i + 6 = e) :
    Calls Tryz.prog 110 #[.string s, .int .i64 (i : Int), .int .i64 (e : Int)] w (PostK w (t5 (nv s i 2 : Nat) (nv s (i + 2) 2 : Nat) (nv s (i + 4) 2 : Nat) 0 3) (clC (nv s i 2) (nv s (i + 2) 2) (nv s (i + 4) 2)) (clA i (nv s i 2) (nv s (i + 2) 2) (nv s (i + 4) 2))) := by
  obtain ⟨r, hr⟩ : ∃ r, w.heap.size = r := ⟨_, rfl⟩
  obtain ⟨W1, hW1⟩ : ∃ W1, (w.alloc (.cells #[.int .i64 0, .int .i64 0, .int .i64 0, .int .i64 0, .int .i64 0] 124)).alloc (.cells #[.int .i64 0, .int .i64 0, .int .i64 0, .int .i64 0, .int .i64 0] 124) = W1 := ⟨_, rfl⟩
  obtain ⟨-, hR, hT, hB⟩ : Clk w W1 r := by rw [← hW1, ← hr]; exact Clk.start w
  have c31 := digits31_any W1 (s.extract 0 e) i 6 (by rw [ByteArray.size_extract]; omega) (by rw [ByteArray.size_extract]; omega) (by omega)
  rw [(cnt_ext he hE 6 i hi).1, hn] at c31
  have hle := (cnt_ext he hE 6 i hi).2
  rw [hn] at hle
  have heI : (e : Int) ≤ (s.size : Int) := by omega
  have z0 : W1.cell? ⟨r, 0, none⟩ = some (.int .i64 0) := hR.cell (i := 0) (by omega)
  have z1 : W1.cell? ⟨r, 1, none⟩ = some (.int .i64 0) := hR.cell (i := 1) (by omega)
  have z2 : W1.cell? ⟨r, 2, none⟩ = some (.int .i64 0) := hR.cell (i := 2) (by omega)
  have z3 : W1.cell? ⟨r, 3, none⟩ = some (.int .i64 0) := hR.cell (i := 3) (by omega)
  have z4 : W1.cell? ⟨r, 4, none⟩ = some (.int .i64 0) := hR.cell (i := 4) (by omega)
  have t0 : W1.cell? ⟨r + 1, 0, none⟩ = some (.int .i64 0) := hT.cell (i := 0) (by omega)
  have t1 : W1.cell? ⟨r + 1, 1, none⟩ = some (.int .i64 0) := hT.cell (i := 1) (by omega)
  have t2 : W1.cell? ⟨r + 1, 2, none⟩ = some (.int .i64 0) := hT.cell (i := 2) (by omega)
  have t3 : W1.cell? ⟨r + 1, 3, none⟩ = some (.int .i64 0) := hT.cell (i := 3) (by omega)
  have t4 : W1.cell? ⟨r + 1, 4, none⟩ = some (.int .i64 0) := hT.cell (i := 4) (by omega)
  have zf : ∀ j, W1.frozen? ⟨r, j, none⟩ = false := fun j => hR.frozen j
  have tf : ∀ j, W1.frozen? ⟨r + 1, j, none⟩ = false := fun j => hT.frozen j
  have HB : Hid (Below r w W1) := hB
  have HW1 : Hid _ := hW1
  have hvf0 : ∃ vf : ByteArray → Nat, vf = fun u => val u.data.toList := ⟨_, rfl⟩
  obtain ⟨vf, hvf⟩ := hvf0
  have nn : ∀ W u, (Digs u ∧ u.size ≤ 8) → Calls Tryz.prog 57 #[.string u] W fun e w' => e = .returned (.int .i64 (vf u : Nat)) ∧ W = w' := fun W u hu => by rw [hvf]; exact number47_any W u hu.1 hu.2
  have D0 : Digs (s.extract i (i + 2)) ∧ (s.extract i (i + 2)).size ≤ 8 := ⟨digs_ext s i 2 2 (by have := cnt_sub (s := s) (i := i) 6 0 2 (by omega); (try simp only [Nat.add_zero] at this); omega), by rw [ByteArray.size_extract]; omega⟩
  have e0 : nv s i 2 = vf (s.extract i (i + 2)) := by rw [hvf]; rfl
  rw [e0]
  clear e0
  obtain ⟨H, hH⟩ : ∃ H, vf (s.extract i (i + 2)) = H := ⟨_, rfl⟩
  rw [hH]
  have D2 : Digs (s.extract (i + 2) (i + 4)) ∧ (s.extract (i + 2) (i + 4)).size ≤ 8 := ⟨digs_ext s (i + 2) 2 2 (by have := cnt_sub (s := s) (i := i) 6 2 2 (by omega); (try simp only [Nat.add_zero] at this); omega), by rw [ByteArray.size_extract]; omega⟩
  have e2 : nv s (i + 2) 2 = vf (s.extract (i + 2) (i + 4)) := by rw [hvf]; rfl
  rw [e2]
  clear e2
  obtain ⟨M, hM⟩ : ∃ M, vf (s.extract (i + 2) (i + 4)) = M := ⟨_, rfl⟩
  rw [hM]
  have D4 : Digs (s.extract (i + 4) (i + 6)) ∧ (s.extract (i + 4) (i + 6)).size ≤ 8 := ⟨digs_ext s (i + 4) 2 2 (by have := cnt_sub (s := s) (i := i) 6 4 2 (by omega); (try simp only [Nat.add_zero] at this); omega), by rw [ByteArray.size_extract]; omega⟩
  have e4 : nv s (i + 4) 2 = vf (s.extract (i + 4) (i + 6)) := by rw [hvf]; rfl
  rw [e4]
  clear e4
  obtain ⟨S, hS⟩ : ∃ S, vf (s.extract (i + 4) (i + 6)) = S := ⟨_, rfl⟩
  rw [hS]
  clear hvf
  have hCA : (decide (23 < (H : Int)) = true ∧ clC H M S = 101 ∧ clA i H M S = (i : Int)) ∨ (decide (23 < (H : Int)) = false ∧ decide (59 < (M : Int)) = true ∧ clC H M S = 101 ∧ clA i H M S = (i : Int) + 2) ∨ (decide (23 < (H : Int)) = false ∧ decide (59 < (M : Int)) = false ∧ decide (60 < (S : Int)) = true ∧ clC H M S = 101 ∧ clA i H M S = (i : Int) + 4) ∨ (decide (23 < (H : Int)) = false ∧ decide (59 < (M : Int)) = false ∧ decide (60 < (S : Int)) = false ∧ clC H M S = 0 ∧ clA i H M S = 0) := by
    unfold clC clA
    by_cases h0 : 23 < H
    · exact .inl <| ⟨by simp; omega, by rw [if_pos (by omega)], by rw [if_pos (by omega)]⟩
    · by_cases h1 : 59 < M
      · exact .inr <| .inl <| ⟨by simp; omega, by simp; omega, by rw [if_pos (by omega)], by rw [if_neg (by omega)]; rw [if_pos (by omega)]⟩
      · by_cases h2 : 60 < S
        · exact .inr <| .inr <| .inl <| ⟨by simp; omega, by simp; omega, by simp; omega, by rw [if_pos (by omega)], by rw [if_neg (by omega)]; rw [if_neg (by omega)]; rw [if_pos (by omega)]⟩
        · exact .inr <| .inr <| .inr ⟨by simp; omega, by simp; omega, by simp; omega, by rw [if_neg (by omega)], by rw [if_neg (by omega), if_neg (by omega), if_neg (by omega)]⟩
  have h2I : decide ((i : Int) + 6 < (e : Int)) = false := by simp; omega
  have h2S : (i : Int) + 2 ≤ (s.size : Int) := by omega
  have h4S : (i : Int) + 4 ≤ (s.size : Int) := by omega
  have h6S : (i : Int) + 6 ≤ (s.size : Int) := by omega
  clear hR hT hB hW1 hE hn h6 hle hi
  rcases hCA with ⟨hcs0, q1, q2⟩ | ⟨hcs0, hcs1, q1, q2⟩ | ⟨hcs0, hcs1, hcs2, q1, q2⟩ | ⟨hcs0, hcs1, hcs2, q1, q2⟩
  all_goals
    rw [q1, q2]
    clear q1 q2
    go_enter Tryz.func110, Tryz.ntmps110
    go_wp2_with (go_at_call 56; refine Stop.mk ?_)
    rw [HW1.out]
    refine Stop.out (c31.mono ?_)
    rintro e W3 ⟨rfl, rfl⟩
    clear c31
    go_wp2_with (go_at_call 57; refine Stop.mk ?_)
    refine Stop.out ((nn _ _ D0).mono ?_)
    rintro e W3 ⟨rfl, rfl⟩
    rw [hH]
    go_wp2_with (go_at_call 57; refine Stop.mk ?_)
    refine Stop.out ((nn _ _ D2).mono ?_)
    rintro e W3 ⟨rfl, rfl⟩
    rw [hM]
    go_wp2_with (go_at_call 57; refine Stop.mk ?_)
    refine Stop.out ((nn _ _ D4).mono ?_)
    rintro e W3 ⟨rfl, rfl⟩
    rw [hS]
    go_wp2
    refine bodyPost_ret (by simp [results, Tryz.results110, go_sem, z0, z1, z2, z3, z4]; rfl) rfl ⟨?_, ?_⟩
    · first | rfl | simp [t5]
    · rw [hr]
      refine below5 ?_ _ _ _ _ _
      repeat first | exact HB.out | refine Below.setCell ?_ (Nat.le_succ _) _
end Go.Proofs.YtehgeninocbpeaaGreatDoor.Tm

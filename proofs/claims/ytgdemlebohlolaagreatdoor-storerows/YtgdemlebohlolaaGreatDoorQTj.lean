import Derived.Test.YtgdemlebohlolaaGreatDoorQRb
import Derived.Test.YtgdemlebohlolaaGreatDoorQTg
/-
  DERIVED. The document's clock.
-/
namespace Go.Proofs.YtgdemlebohlolaaGreatDoor.Tm
open Go Go.Proofs Go.RowKit

theorem get_ext {s : ByteArray} {e k : Nat} (he : e ≤ s.size) (hk : k < e) : (s.extract 0 e).get! k = s.get! k := by
  have h1 : k < (s.extract 0 e).size := by rw [ByteArray.size_extract]; omega
  rw [← get_get! _ k h1, ← get_get! s k (by omega)]
  simp [ByteArray.getElem_extract]
theorem isD_ext {s : ByteArray} {e k : Nat} (he : e ≤ s.size) (hk : k < e) : isD (s.extract 0 e) k = isD s k := by
  unfold isD
  rw [get_ext he hk, ByteArray.size_extract]
  have h1 : decide (k < min e s.size - 0) = true := by simp; omega
  have h2 : decide (k < s.size) = true := by simp; omega
  rw [h1, h2]
theorem isD_past {s : ByteArray} {k : Nat} (hk : ¬ k < s.size) : isD s k = false := by unfold isD; rw [decide_eq_false hk, Bool.false_and]
theorem cnt_ext {s : ByteArray} {e : Nat} (he : e ≤ s.size) (hE : isD s e = false) : ∀ m i, i ≤ e → cnt (s.extract 0 e) i m = cnt s i m ∧ i + cnt s i m ≤ e
  | 0, i, h => by simp [cnt]; exact h
  | m + 1, i, h => by
    rw [cnt, cnt]
    rcases Nat.lt_or_eq_of_le h with h1 | h1
    · rw [isD_ext he h1]
      cases hd : isD s i with
      | true =>
        have ih := cnt_ext he hE m (i + 1) (by omega)
        rw [if_pos rfl, if_pos rfl, ih.1]
        exact ⟨rfl, by omega⟩
      | false => simp; omega
    · subst h1
      rw [hE, isD_past (by rw [ByteArray.size_extract]; omega)]
      simp

def PostK (w : World) (T : Value) (c a : Int) (e : Ending) (w' : World) : Prop := e = .returned (.tuple #[T, .int .i64 c, .int .i64 a]) ∧ Below w.heap.size w w'
def t5 (h mi sc mc p : Int) : Value := .agg #[.int .i64 h, .int .i64 mi, .int .i64 sc, .int .i64 mc, .int .i64 p]

/-- The two blocks that the clock makes. -/
def Clk (w W : World) (r : Nat) : Prop := w.heap.size = r ∧ W.rowIs r 63 5 (fun k => #[Value.int .i64 0, .int .i64 0, .int .i64 0, .int .i64 0, .int .i64 0].getD k undef) ∧ W.rowIs (r + 1) 63 5 (fun k => #[Value.int .i64 0, .int .i64 0, .int .i64 0, .int .i64 0, .int .i64 0].getD k undef) ∧ Below r w W
theorem Clk.start (w : World) : Clk w ((w.alloc (.cells #[.int .i64 0, .int .i64 0, .int .i64 0, .int .i64 0, .int .i64 0] 63)).alloc (.cells #[.int .i64 0, .int .i64 0, .int .i64 0, .int .i64 0, .int .i64 0] 63)) w.heap.size := by
  refine ⟨rfl, (World.rowIs_alloc w _ 63 _ (row_lit _)).alloc _, ?_, ((Below.refl _ _).alloc (Nat.le_refl _) _).alloc (by simp) _⟩
  have h : (w.alloc (.cells #[.int .i64 0, .int .i64 0, .int .i64 0, .int .i64 0, .int .i64 0] 63)).heap.size = w.heap.size + 1 := by simp
  rw [← h]
  exact World.rowIs_alloc _ _ 63 _ (row_lit _)
theorem below5 {w W : World} {r : Nat} (h : Below r w W) (a b c d e : Value) : Below r w (((((W.setCell ⟨r, 0, none⟩ a).setCell ⟨r, 1, none⟩ b).setCell ⟨r, 2, none⟩ c).setCell ⟨r, 3, none⟩ d).setCell ⟨r, 4, none⟩ e) :=
  ((((h.setCell (p := ⟨r, 0, none⟩) (Nat.le_refl _) _).setCell (p := ⟨r, 1, none⟩) (Nat.le_refl _) _).setCell (p := ⟨r, 2, none⟩) (Nat.le_refl _) _).setCell (p := ⟨r, 3, none⟩) (Nat.le_refl _) _).setCell (p := ⟨r, 4, none⟩) (Nat.le_refl _) _

set_option maxRecDepth 100000 in
set_option maxHeartbeats 1000000 in
theorem clock_form1 (w : World) (s : ByteArray) (i e : Nat) (hs : s.size ≤ 140737488351232) (hi : i ≤ e) (he : e ≤ s.size) (hE : isD s e = false) (hn : (cnt s i 6 ≠ 2 ∧ cnt s i 6 ≠ 4 ∧ cnt s i 6 ≠ 6) ∨ (cnt s i 6 = 2 ∧ i + 2 < e) ∨ (cnt s i 6 = 4 ∧ i + 4 < e)) :
    Calls Tryz.prog 47 #[.string s, .int .i64 (i : Int), .int .i64 (e : Int)] w (PostK w (t5 0 0 0 0 0) 100 ((i + cnt s i 6 : Nat) : Int)) := by
  obtain ⟨r, hr⟩ : ∃ r, w.heap.size = r := ⟨_, rfl⟩
  obtain ⟨W1, hW1⟩ : ∃ W1, (w.alloc (.cells #[.int .i64 0, .int .i64 0, .int .i64 0, .int .i64 0, .int .i64 0] 63)).alloc (.cells #[.int .i64 0, .int .i64 0, .int .i64 0, .int .i64 0, .int .i64 0] 63) = W1 := ⟨_, rfl⟩
  obtain ⟨-, hR, hT, hB⟩ : Clk w W1 r := by rw [← hW1, ← hr]; exact Clk.start w
  have c31 := digits31_any W1 (s.extract 0 e) i 6 (by rw [ByteArray.size_extract]; omega) (by rw [ByteArray.size_extract]; omega) (by omega)
  rw [(cnt_ext he hE 6 i hi).1] at c31
  have hle := (cnt_ext he hE 6 i hi).2
  have hc6 := cnt_le s 6 i
  generalize cnt s i 6 = n at *
  have heI : (e : Int) ≤ (s.size : Int) := by omega
  have z0 : W1.cell? ⟨r, 0, none⟩ = some (.int .i64 0) := hR.cell (i := 0) (by omega)
  have z1 : W1.cell? ⟨r, 1, none⟩ = some (.int .i64 0) := hR.cell (i := 1) (by omega)
  have z2 : W1.cell? ⟨r, 2, none⟩ = some (.int .i64 0) := hR.cell (i := 2) (by omega)
  have z3 : W1.cell? ⟨r, 3, none⟩ = some (.int .i64 0) := hR.cell (i := 3) (by omega)
  have z4 : W1.cell? ⟨r, 4, none⟩ = some (.int .i64 0) := hR.cell (i := 4) (by omega)
  have t0 : W1.cell? ⟨r + 1, 0, none⟩ = some (.int .i64 0) := hT.cell (i := 0) (by omega)
  have t1 : W1.cell? ⟨r + 1, 1, none⟩ = some (.int .i64 0) := hT.cell (i := 1) (by omega)
  have t2 : W1.cell? ⟨r + 1, 2, none⟩ = some (.int .i64 0) := hT.cell (i := 2) (by omega)
  have t3 : W1.cell? ⟨r + 1, 3, none⟩ = some (.int .i64 0) := hT.cell (i := 3) (by omega)
  have t4 : W1.cell? ⟨r + 1, 4, none⟩ = some (.int .i64 0) := hT.cell (i := 4) (by omega)
  have zf : ∀ j, W1.frozen? ⟨r, j, none⟩ = false := fun j => hR.frozen j
  have HB : Hid (Below r w W1) := hB
  have HW1 : Hid _ := hW1
  clear hR hT hB hW1 hE
  rw [show ((i + n : Nat) : Int) = (i : Int) + (n : Int) by omega]
  have hcs : n = 0 ∨ n = 1 ∨ n = 3 ∨ n = 5 ∨ (n = 2 ∧ i + 2 < e) ∨ (n = 4 ∧ i + 4 < e) := by omega
  clear hn
  rcases hcs with rfl | rfl | rfl | rfl | ⟨rfl, hlt⟩ | ⟨rfl, hlt⟩
  all_goals
    try have hltI : decide ((i : Int) + 2 < (e : Int)) = true := by simp; omega
    try have hltI : decide ((i : Int) + 4 < (e : Int)) = true := by simp; omega
    go_enter Tryz.func47, Tryz.ntmps47
    go_wp2_with (go_at_call 44; refine Stop.mk ?_)
    rw [HW1.out]
    refine Stop.out (c31.mono ?_)
    rintro e W3 ⟨rfl, rfl⟩
    clear c31
    go_wp2
    refine bodyPost_ret (by simp [results, Tryz.results47, go_sem, z0, z1, z2, z3, z4]; rfl) rfl ⟨?_, ?_⟩
    · first | rfl | simp [t5]
    · rw [hr]; exact below5 HB.out _ _ _ _ _
end Go.Proofs.YtgdemlebohlolaaGreatDoor.Tm

/-
  DERIVED. The document's clock: forms that are none.
-/
namespace Go.Proofs.YtgdemlebohlolaaGreatDoor.Tm
open Go Go.Proofs Go.RowKit

set_option maxRecDepth 100000 in
set_option maxHeartbeats 1000000 in
theorem clock_form3 (w : World) (s : ByteArray) (i e : Nat) (hs : s.size ≤ 140737488351232) (hi : i ≤ e) (he : e ≤ s.size) (hE : isD s e = false) (hn : cnt s i 6 = 6) (h6 : i + 6 < e) (hb : (s.get! (i + 6)).toNat ≠ 46) :
    Calls Tryz.prog 47 #[.string s, .int .i64 (i : Int), .int .i64 (e : Int)] w (PostK w (t5 0 0 0 0 0) 100 ((i + 6 : Nat) : Int)) := by
  obtain ⟨r, hr⟩ : ∃ r, w.heap.size = r := ⟨_, rfl⟩
  obtain ⟨W1, hW1⟩ : ∃ W1, (w.alloc (.cells #[.int .i64 0, .int .i64 0, .int .i64 0, .int .i64 0, .int .i64 0] 63)).alloc (.cells #[.int .i64 0, .int .i64 0, .int .i64 0, .int .i64 0, .int .i64 0] 63) = W1 := ⟨_, rfl⟩
  obtain ⟨-, hR, hT, hB⟩ : Clk w W1 r := by rw [← hW1, ← hr]; exact Clk.start w
  have c31 := digits31_any W1 (s.extract 0 e) i 6 (by rw [ByteArray.size_extract]; omega) (by rw [ByteArray.size_extract]; omega) (by omega)
  rw [(cnt_ext he hE 6 i hi).1, hn] at c31
  have hle := (cnt_ext he hE 6 i hi).2
  rw [hn] at hle
  have heI : (e : Int) ≤ (s.size : Int) := by omega
  have z0 : W1.cell? ⟨r, 0, none⟩ = some (.int .i64 0) := hR.cell (i := 0) (by omega)
  have z1 : W1.cell? ⟨r, 1, none⟩ = some (.int .i64 0) := hR.cell (i := 1) (by omega)
  have z2 : W1.cell? ⟨r, 2, none⟩ = some (.int .i64 0) := hR.cell (i := 2) (by omega)
  have z3 : W1.cell? ⟨r, 3, none⟩ = some (.int .i64 0) := hR.cell (i := 3) (by omega)
  have z4 : W1.cell? ⟨r, 4, none⟩ = some (.int .i64 0) := hR.cell (i := 4) (by omega)
  have t0 : W1.cell? ⟨r + 1, 0, none⟩ = some (.int .i64 0) := hT.cell (i := 0) (by omega)
  have t1 : W1.cell? ⟨r + 1, 1, none⟩ = some (.int .i64 0) := hT.cell (i := 1) (by omega)
  have t2 : W1.cell? ⟨r + 1, 2, none⟩ = some (.int .i64 0) := hT.cell (i := 2) (by omega)
  have t3 : W1.cell? ⟨r + 1, 3, none⟩ = some (.int .i64 0) := hT.cell (i := 3) (by omega)
  have t4 : W1.cell? ⟨r + 1, 4, none⟩ = some (.int .i64 0) := hT.cell (i := 4) (by omega)
  have zf : ∀ j, W1.frozen? ⟨r, j, none⟩ = false := fun j => hR.frozen j
  have tf : ∀ j, W1.frozen? ⟨r + 1, j, none⟩ = false := fun j => hT.frozen j
  have HB : Hid (Below r w W1) := hB
  have HW1 : Hid _ := hW1
  clear hR hT hB hW1 hE hn
  rw [show ((i + 6 : Nat) : Int) = (i : Int) + 6 by omega]
  have h6I : decide ((i : Int) + 6 < (e : Int)) = true := by simp; omega
  have h6S : (i : Int) + 6 < (s.size : Int) := by omega
  have h6N : i + 6 < s.size := by omega
  obtain ⟨c, hc⟩ : ∃ c, s[i + 6].toNat = c := ⟨_, rfl⟩
  rw [← get_get! s (i + 6) h6N, hc] at hb
  have hcI : ((c : Int) == 46) = false := by simp; omega
  go_enter Tryz.func47, Tryz.ntmps47
  go_wp2_with (go_at_call 44; refine Stop.mk ?_)
  rw [HW1.out]
  refine Stop.out (c31.mono ?_)
  rintro e W3 ⟨rfl, rfl⟩
  clear c31
  go_wp2
  refine bodyPost_ret (by simp [results, Tryz.results47, go_sem, z0, z1, z2, z3, z4]; rfl) rfl ⟨?_, ?_⟩
  · first | rfl | simp [t5]
  · rw [hr]; exact below5 HB.out _ _ _ _ _

set_option maxRecDepth 100000 in
set_option maxHeartbeats 1000000 in
theorem clock_form4 (w : World) (s : ByteArray) (i e : Nat) (hs : s.size ≤ 140737488351232) (hi : i ≤ e) (he : e ≤ s.size) (hE : isD s e = false) (hn : cnt s i 6 = 6) (h6 : i + 6 < e) (hb : (s.get! (i + 6)).toNat = 46) (n : Nat) (hfr : cnt s (i + 7) 6 = n) (hn0 : n = 0 ∨ i + 7 + n < e) :
    Calls Tryz.prog 47 #[.string s, .int .i64 (i : Int), .int .i64 (e : Int)] w (PostK w (t5 0 0 0 0 0) 100 ((i + 7 + n : Nat) : Int)) := by
  obtain ⟨r, hr⟩ : ∃ r, w.heap.size = r := ⟨_, rfl⟩
  obtain ⟨W1, hW1⟩ : ∃ W1, (w.alloc (.cells #[.int .i64 0, .int .i64 0, .int .i64 0, .int .i64 0, .int .i64 0] 63)).alloc (.cells #[.int .i64 0, .int .i64 0, .int .i64 0, .int .i64 0, .int .i64 0] 63) = W1 := ⟨_, rfl⟩
  obtain ⟨-, hR, hT, hB⟩ : Clk w W1 r := by rw [← hW1, ← hr]; exact Clk.start w
  have c31 := digits31_any W1 (s.extract 0 e) i 6 (by rw [ByteArray.size_extract]; omega) (by rw [ByteArray.size_extract]; omega) (by omega)
  rw [(cnt_ext he hE 6 i hi).1, hn] at c31
  have hle := (cnt_ext he hE 6 i hi).2
  rw [hn] at hle
  have heI : (e : Int) ≤ (s.size : Int) := by omega
  have z0 : W1.cell? ⟨r, 0, none⟩ = some (.int .i64 0) := hR.cell (i := 0) (by omega)
  have z1 : W1.cell? ⟨r, 1, none⟩ = some (.int .i64 0) := hR.cell (i := 1) (by omega)
  have z2 : W1.cell? ⟨r, 2, none⟩ = some (.int .i64 0) := hR.cell (i := 2) (by omega)
  have z3 : W1.cell? ⟨r, 3, none⟩ = some (.int .i64 0) := hR.cell (i := 3) (by omega)
  have z4 : W1.cell? ⟨r, 4, none⟩ = some (.int .i64 0) := hR.cell (i := 4) (by omega)
  have t0 : W1.cell? ⟨r + 1, 0, none⟩ = some (.int .i64 0) := hT.cell (i := 0) (by omega)
  have t1 : W1.cell? ⟨r + 1, 1, none⟩ = some (.int .i64 0) := hT.cell (i := 1) (by omega)
  have t2 : W1.cell? ⟨r + 1, 2, none⟩ = some (.int .i64 0) := hT.cell (i := 2) (by omega)
  have t3 : W1.cell? ⟨r + 1, 3, none⟩ = some (.int .i64 0) := hT.cell (i := 3) (by omega)
  have t4 : W1.cell? ⟨r + 1, 4, none⟩ = some (.int .i64 0) := hT.cell (i := 4) (by omega)
  have zf : ∀ j, W1.frozen? ⟨r, j, none⟩ = false := fun j => hR.frozen j
  have tf : ∀ j, W1.frozen? ⟨r + 1, j, none⟩ = false := fun j => hT.frozen j
  have HB : Hid (Below r w W1) := hB
  have HW1 : Hid _ := hW1
  have c31b := digits31_any W1 (s.extract 0 e) (i + 7) 6 (by rw [ByteArray.size_extract]; omega) (by rw [ByteArray.size_extract]; omega) (by omega)
  rw [(cnt_ext he hE 6 (i + 7) (by omega)).1, hfr, show ((i + 7 : Nat) : Int) = (i : Int) + 7 by omega] at c31b
  have hn6 : n ≤ 6 := hfr ▸ cnt_le s 6 (i + 7)
  clear hR hT hB hW1 hE hn hfr
  rw [show ((i + 7 + n : Nat) : Int) = (i : Int) + 7 + (n : Int) by omega]
  have h6I : decide ((i : Int) + 6 < (e : Int)) = true := by simp; omega
  have h6S : (i : Int) + 6 < (s.size : Int) := by omega
  have h6N : i + 6 < s.size := by omega
  have hc : s[i + 6].toNat = 46 := by rw [get_get! s (i + 6) h6N, hb]
  clear hb
  have hcs : ((n : Int) == 0) = true ∧ n = 0 ∨ ((n : Int) == 0) = false ∧ decide ((i : Int) + 7 + (n : Int) < (e : Int)) = true := by
    rcases Nat.eq_zero_or_pos n with h | h
    · exact .inl ⟨by simp; omega, h⟩
    · exact .inr ⟨by simp; omega, by simp; omega⟩
  clear hn0
  rcases hcs with ⟨-, rfl⟩ | ⟨hcs, hcs2⟩
  all_goals
    go_enter Tryz.func47, Tryz.ntmps47
    go_wp2_with (go_at_call 44; refine Stop.mk ?_)
    rw [HW1.out]
    refine Stop.out (c31.mono ?_)
    rintro e W3 ⟨rfl, rfl⟩
    clear c31
    go_wp2_with (go_at_call 44; refine Stop.mk ?_)
    refine Stop.out (c31b.mono ?_)
    rintro e W3 ⟨rfl, rfl⟩
    clear c31b
    go_wp2
    refine bodyPost_ret (by simp [results, Tryz.results47, go_sem, z0, z1, z2, z3, z4]; rfl) rfl ⟨?_, ?_⟩
    · first | rfl | simp [t5]
    · rw [hr]; exact below5 HB.out _ _ _ _ _
end Go.Proofs.YtgdemlebohlolaaGreatDoor.Tm

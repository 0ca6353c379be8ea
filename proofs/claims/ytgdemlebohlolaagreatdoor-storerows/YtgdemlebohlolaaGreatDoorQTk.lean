import Derived.Test.YtgdemlebohlolaaGreatDoorQTj
/-
  DERIVED. The document's clock: times.
-/
namespace Go.Proofs.YtgdemlebohlolaaGreatDoor.Tm
open Go Go.Proofs Go.RowKit

def clC (h m s : Nat) : Int := if 23 < h ∨ 59 < m ∨ 60 < s then 101 else 0
def clA (i h m s : Nat) : Int := if 23 < h then (i : Int) else if 59 < m then (i : Int) + 2 else if 60 < s then (i : Int) + 4 else 0

theorem cnt_sub {s : ByteArray} {i : Nat} : ∀ (m k j : Nat), k + j ≤ cnt s i m → cnt s (i + k) j = j
  | m, k, 0, _ => by simp [cnt]
  | m, k, j + 1, h => by
    have h1 := cnt_digit s m i k (by omega)
    rw [cnt, if_pos h1, show i + k + 1 = i + (k + 1) by omega, cnt_sub m (k + 1) j (by omega)]
    omega

def z5 : Nat → Value := fun k => #[Value.int .i64 0, .int .i64 0, .int .i64 0, .int .i64 0, .int .i64 0].getD k undef
/-- A time that is being put together. -/
def Lp8 (w W : World) (r : Nat) (H M S mc P : Nat) : Prop := W.rowIs r 63 5 z5 ∧ (∃ f, W.rowIs (r + 1) 63 5 f ∧ f 0 = .int .i64 (H : Int) ∧ f 1 = .int .i64 (M : Int) ∧ f 2 = .int .i64 (S : Int) ∧ f 3 = .int .i64 (mc : Int) ∧ f 4 = .int .i64 (P : Int)) ∧ Below r w W
theorem Lp8.next {w W : World} {r H M S mc P : Nat} (h : Lp8 w W r H M S mc P) (i : Nat) (v : Nat) (H' M' S' mc' P' : Nat) (hi : (i = 0 ∧ H' = v ∧ M' = M ∧ S' = S ∧ mc' = mc ∧ P' = P) ∨ (i = 1 ∧ H' = H ∧ M' = v ∧ S' = S ∧ mc' = mc ∧ P' = P) ∨ (i = 2 ∧ H' = H ∧ M' = M ∧ S' = v ∧ mc' = mc ∧ P' = P) ∨ (i = 3 ∧ H' = H ∧ M' = M ∧ S' = S ∧ mc' = v ∧ P' = P) ∨ (i = 4 ∧ H' = H ∧ M' = M ∧ S' = S ∧ mc' = mc ∧ P' = v)) :
    Lp8 w (W.setCell ⟨r + 1, i, none⟩ (.int .i64 (v : Int))) r H' M' S' mc' P' := by
  obtain ⟨hR, ⟨f, hT, f0, f1, f2, f3, f4⟩, hB⟩ := h
  refine ⟨row_kept hR (grown_set (grown_refl _ (some (r + 1))) i _) (by omega), ⟨up f i (.int .i64 (v : Int)), hT.set i _, ?_⟩, hB.setCell (p := ⟨r + 1, i, none⟩) (Nat.le_succ _) _⟩
  rcases hi with ⟨rfl, rfl, rfl, rfl, rfl, rfl⟩ | ⟨rfl, rfl, rfl, rfl, rfl, rfl⟩ | ⟨rfl, rfl, rfl, rfl, rfl, rfl⟩ | ⟨rfl, rfl, rfl, rfl, rfl, rfl⟩ | ⟨rfl, rfl, rfl, rfl, rfl, rfl⟩
  all_goals
    refine ⟨?_, ?_, ?_, ?_, ?_⟩ <;> first | exact up_eq | (rw [up_ne (by omega)]; assumption)
theorem Lp8.facts {w W : World} {r H M S mc P : Nat} (h : Lp8 w W r H M S mc P) : (W.cell? ⟨r, 0, none⟩ = some (.int .i64 0) ∧ W.cell? ⟨r, 1, none⟩ = some (.int .i64 0) ∧ W.cell? ⟨r, 2, none⟩ = some (.int .i64 0) ∧ W.cell? ⟨r, 3, none⟩ = some (.int .i64 0) ∧ W.cell? ⟨r, 4, none⟩ = some (.int .i64 0)) ∧ (W.cell? ⟨r + 1, 0, none⟩ = some (.int .i64 (H : Int)) ∧ W.cell? ⟨r + 1, 1, none⟩ = some (.int .i64 (M : Int)) ∧ W.cell? ⟨r + 1, 2, none⟩ = some (.int .i64 (S : Int)) ∧ W.cell? ⟨r + 1, 3, none⟩ = some (.int .i64 (mc : Int)) ∧ W.cell? ⟨r + 1, 4, none⟩ = some (.int .i64 (P : Int))) ∧ (∀ j, W.frozen? ⟨r, j, none⟩ = false) ∧ (∀ j, W.frozen? ⟨r + 1, j, none⟩ = false) ∧ Below r w W := by
  obtain ⟨hR, ⟨f, hT, f0, f1, f2, f3, f4⟩, hB⟩ := h
  exact ⟨⟨hR.cell (i := 0) (by omega), hR.cell (i := 1) (by omega), hR.cell (i := 2) (by omega), hR.cell (i := 3) (by omega), hR.cell (i := 4) (by omega)⟩, ⟨f0 ▸ hT.cell (i := 0) (by omega), f1 ▸ hT.cell (i := 1) (by omega), f2 ▸ hT.cell (i := 2) (by omega), f3 ▸ hT.cell (i := 3) (by omega), f4 ▸ hT.cell (i := 4) (by omega)⟩, fun j => hR.frozen j, fun j => hT.frozen j, hB⟩

set_option maxRecDepth 100000 in
set_option maxHeartbeats 2000000 in
theorem clock_ok2 (w : World) (s : ByteArray) (i e : Nat) (hs : s.size ≤ 140737488351232) (hi : i ≤ e) (he : e ≤ s.size) (hE : isD s e = false) (hn : cnt s i 6 = 2) (h6 : i + 2 = e) :
    Calls Tryz.prog 47 #[.string s, .int .i64 (i : Int), .int .i64 (e : Int)] w (PostK w (t5 (nv s i 2 : Nat) 0 0 0 1) (clC (nv s i 2) (0) (0)) (clA i (nv s i 2) (0) (0))) := by
  obtain ⟨r, hr⟩ : ∃ r, w.heap.size = r := ⟨_, rfl⟩
  obtain ⟨W1, hW1⟩ : ∃ W1, (w.alloc (.cells #[.int .i64 0, .int .i64 0, .int .i64 0, .int .i64 0, .int .i64 0] 63)).alloc (.cells #[.int .i64 0, .int .i64 0, .int .i64 0, .int .i64 0, .int .i64 0] 63) = W1 := ⟨_, rfl⟩
  obtain ⟨-, hR, hT, hB⟩ : Clk w W1 r := by rw [← hW1, ← hr]; exact Clk.start w
  have c31 := digits31_any W1 (s.extract 0 e) i 6 (by rw [ByteArray.size_extract]; omega) (by rw [ByteArray.size_extract]; omega) (by omega)
  rw [(cnt_ext he hE 6 i hi).1, hn] at c31
  have hle := (cnt_ext he hE 6 i hi).2
  rw [hn] at hle
  have heI : (e : Int) ≤ (s.size : Int) := by omega
  have z0 : W1.cell? ⟨r, 0, none⟩ = some (.int .i64 0) := hR.cell (i := 0) (by omega)
  have z1 : W1.cell? ⟨r, 1, none⟩ = some (.int .i64 0) := hR.cell (i := 1) (by omega)
  have z2 : W1.cell? ⟨r, 2, none⟩ = some (.int .i64 0) := hR.cell (i := 2) (by omega)
  have z3 : W1.cell? ⟨r, 3, none⟩ = some (.int .i64 0) := hR.cell (i := 3) (by omega)
  have z4 : W1.cell? ⟨r, 4, none⟩ = some (.int .i64 0) := hR.cell (i := 4) (by omega)
  have t0 : W1.cell? ⟨r + 1, 0, none⟩ = some (.int .i64 0) := hT.cell (i := 0) (by omega)
  have t1 : W1.cell? ⟨r + 1, 1, none⟩ = some (.int .i64 0) := hT.cell (i := 1) (by omega)
  have t2 : W1.cell? ⟨r + 1, 2, none⟩ = some (.int .i64 0) := hT.cell (i := 2) (by omega)
  have t3 : W1.cell? ⟨r + 1, 3, none⟩ = some (.int .i64 0) := hT.cell (i := 3) (by omega)
  have t4 : W1.cell? ⟨r + 1, 4, none⟩ = some (.int .i64 0) := hT.cell (i := 4) (by omega)
  have zf : ∀ j, W1.frozen? ⟨r, j, none⟩ = false := fun j => hR.frozen j
  have tf : ∀ j, W1.frozen? ⟨r + 1, j, none⟩ = false := fun j => hT.frozen j
  have HB : Hid (Below r w W1) := hB
  have HW1 : Hid _ := hW1
  have hvf0 : ∃ vf : ByteArray → Nat, vf = fun u => val u.data.toList := ⟨_, rfl⟩
  obtain ⟨vf, hvf⟩ := hvf0
  have nn : ∀ W u, (Digs u ∧ u.size ≤ 8) → Calls Tryz.prog 70 #[.string u] W fun e w' => e = .returned (.int .i64 (vf u : Nat)) ∧ W = w' := fun W u hu => by rw [hvf]; exact number47_any W u hu.1 hu.2
  have D0 : Digs (s.extract i (i + 2)) ∧ (s.extract i (i + 2)).size ≤ 8 := ⟨digs_ext s i 2 2 (by have := cnt_sub (s := s) (i := i) 6 0 2 (by omega); (try simp only [Nat.add_zero] at this); omega), by rw [ByteArray.size_extract]; omega⟩
  have e0 : nv s i 2 = vf (s.extract i (i + 2)) := by rw [hvf]; rfl
  rw [e0]
  clear e0
  obtain ⟨H, hH⟩ : ∃ H, vf (s.extract i (i + 2)) = H := ⟨_, rfl⟩
  rw [hH]
  clear hvf
  have hCA : (decide (23 < (H : Int)) = true ∧ clC H 0 0 = 101 ∧ clA i H 0 0 = (i : Int)) ∨ (decide (23 < (H : Int)) = false ∧ clC H 0 0 = 0 ∧ clA i H 0 0 = 0) := by
    unfold clC clA
    by_cases h0 : 23 < H
    · exact .inl <| ⟨by simp; omega, by rw [if_pos (by omega)], by rw [if_pos (by omega)]⟩
    · exact .inr ⟨by simp; omega, by rw [if_neg (by omega)], by rw [if_neg (by omega), if_neg (by omega), if_neg (by omega)]⟩
  have h2I : decide ((i : Int) + 2 < (e : Int)) = false := by simp; omega
  have h2S : (i : Int) + 2 ≤ (s.size : Int) := by omega
  clear hR hT hB hW1 hE hn h6 hle hi
  rcases hCA with ⟨hcs0, q1, q2⟩ | ⟨hcs0, q1, q2⟩
  all_goals
    rw [q1, q2]
    clear q1 q2
    go_enter Tryz.func47, Tryz.ntmps47
    go_wp2_with (go_at_call 44; refine Stop.mk ?_)
    rw [HW1.out]
    refine Stop.out (c31.mono ?_)
    rintro e W3 ⟨rfl, rfl⟩
    clear c31
    go_wp2_with (go_at_call 70; refine Stop.mk ?_)
    refine Stop.out ((nn _ _ D0).mono ?_)
    rintro e W3 ⟨rfl, rfl⟩
    rw [hH]
    go_wp2
    refine bodyPost_ret (by simp [results, Tryz.results47, go_sem, z0, z1, z2, z3, z4]; rfl) rfl ⟨?_, ?_⟩
    · first | rfl | simp [t5]
    · rw [hr]
      refine below5 ?_ _ _ _ _ _
      repeat first | exact HB.out | refine Below.setCell ?_ (Nat.le_succ _) _

set_option maxRecDepth 100000 in
set_option maxHeartbeats 2000000 in
theorem clock_ok4 (w : World) (s : ByteArray) (i e : Nat) (hs : s.size ≤ 140737488351232) (hi : i ≤ e) (he : e ≤ s.size) (hE : isD s e = false) (hn : cnt s i 6 = 4) (h6 : i + 4 = e) :
    Calls Tryz.prog 47 #[.string s, .int .i64 (i : Int), .int .i64 (e : Int)] w (PostK w (t5 (nv s i 2 : Nat) (nv s (i + 2) 2 : Nat) 0 0 2) (clC (nv s i 2) (nv s (i + 2) 2) (0)) (clA i (nv s i 2) (nv s (i + 2) 2) (0))) := by
  obtain ⟨r, hr⟩ : ∃ r, w.heap.size = r := ⟨_, rfl⟩
  obtain ⟨W1, hW1⟩ : ∃ W1, (w.alloc (.cells #[.int .i64 0, .int .i64 0, .int .i64 0, .int .i64 0, .int .i64 0] 63)).alloc (.cells #[.int .i64 0, .int .i64 0, .int .i64 0, .int .i64 0, .int .i64 0] 63) = W1 := ⟨_, rfl⟩
  obtain ⟨-, hR, hT, hB⟩ : Clk w W1 r := by rw [← hW1, ← hr]; exact Clk.start w
  have c31 := digits31_any W1 (s.extract 0 e) i 6 (by rw [ByteArray.size_extract]; omega) (by rw [ByteArray.size_extract]; omega) (by omega)
  rw [(cnt_ext he hE 6 i hi).1, hn] at c31
  have hle := (cnt_ext he hE 6 i hi).2
  rw [hn] at hle
  have heI : (e : Int) ≤ (s.size : Int) := by omega
  have z0 : W1.cell? ⟨r, 0, none⟩ = some (.int .i64 0) := hR.cell (i := 0) (by omega)
  have z1 : W1.cell? ⟨r, 1, none⟩ = some (.int .i64 0) := hR.cell (i := 1) (by omega)
  have z2 : W1.cell? ⟨r, 2, none⟩ = some (.int .i64 0) := hR.cell (i := 2) (by omega)
  have z3 : W1.cell? ⟨r, 3, none⟩ = some (.int .i64 0) := hR.cell (i := 3) (by omega)
  have z4 : W1.cell? ⟨r, 4, none⟩ = some (.int .i64 0) := hR.cell (i := 4) (by omega)
  have t0 : W1.cell? ⟨r + 1, 0, none⟩ = some (.int .i64 0) := hT.cell (i := 0) (by omega)
  have t1 : W1.cell? ⟨r + 1, 1, none⟩ = some (.int .i64 0) := hT.cell (i := 1) (by omega)
  have t2 : W1.cell? ⟨r + 1, 2, none⟩ = some (.int .i64 0) := hT.cell (i := 2) (by omega)
  have t3 : W1.cell? ⟨r + 1, 3, none⟩ = some (.int .i64 0) := hT.cell (i := 3) (by omega)
  have t4 : W1.cell? ⟨r + 1, 4, none⟩ = some (.int .i64 0) := hT.cell (i := 4) (by omega)
  have zf : ∀ j, W1.frozen? ⟨r, j, none⟩ = false := fun j => hR.frozen j
  have tf : ∀ j, W1.frozen? ⟨r + 1, j, none⟩ = false := fun j => hT.frozen j
  have HB : Hid (Below r w W1) := hB
  have HW1 : Hid _ := hW1
  have hvf0 : ∃ vf : ByteArray → Nat, vf = fun u => val u.data.toList := ⟨_, rfl⟩
  obtain ⟨vf, hvf⟩ := hvf0
  have nn : ∀ W u, (Digs u ∧ u.size ≤ 8) → Calls Tryz.prog 70 #[.string u] W fun e w' => e = .returned (.int .i64 (vf u : Nat)) ∧ W = w' := fun W u hu => by rw [hvf]; exact number47_any W u hu.1 hu.2
  have D0 : Digs (s.extract i (i + 2)) ∧ (s.extract i (i + 2)).size ≤ 8 := ⟨digs_ext s i 2 2 (by have := cnt_sub (s := s) (i := i) 6 0 2 (by omega); (try simp only [Nat.add_zero] at this); omega), by rw [ByteArray.size_extract]; omega⟩
  have e0 : nv s i 2 = vf (s.extract i (i + 2)) := by rw [hvf]; rfl
  rw [e0]
  clear e0
  obtain ⟨H, hH⟩ : ∃ H, vf (s.extract i (i + 2)) = H := ⟨_, rfl⟩
  rw [hH]
  have D2 : Digs (s.extract (i + 2) (i + 4)) ∧ (s.extract (i + 2) (i + 4)).size ≤ 8 := ⟨digs_ext s (i + 2) 2 2 (by have := cnt_sub (s := s) (i := i) 6 2 2 (by omega); (try simp only [Nat.add_zero] at this); omega), by rw [ByteArray.size_extract]; omega⟩
  have e2 : nv s (i + 2) 2 = vf (s.extract (i + 2) (i + 4)) := by rw [hvf]; rfl
  rw [e2]
  clear e2
  obtain ⟨M, hM⟩ : ∃ M, vf (s.extract (i + 2) (i + 4)) = M := ⟨_, rfl⟩
  rw [hM]
  clear hvf
  have hCA : (decide (23 < (H : Int)) = true ∧ clC H M 0 = 101 ∧ clA i H M 0 = (i : Int)) ∨ (decide (23 < (H : Int)) = false ∧ decide (59 < (M : Int)) = true ∧ clC H M 0 = 101 ∧ clA i H M 0 = (i : Int) + 2) ∨ (decide (23 < (H : Int)) = false ∧ decide (59 < (M : Int)) = false ∧ clC H M 0 = 0 ∧ clA i H M 0 = 0) := by
    unfold clC clA
    by_cases h0 : 23 < H
    · exact .inl <| ⟨by simp; omega, by rw [if_pos (by omega)], by rw [if_pos (by omega)]⟩
    · by_cases h1 : 59 < M
      · exact .inr <| .inl <| ⟨by simp; omega, by simp; omega, by rw [if_pos (by omega)], by rw [if_neg (by omega)]; rw [if_pos (by omega)]⟩
      · exact .inr <| .inr ⟨by simp; omega, by simp; omega, by rw [if_neg (by omega)], by rw [if_neg (by omega), if_neg (by omega), if_neg (by omega)]⟩
  have h2I : decide ((i : Int) + 4 < (e : Int)) = false := by simp; omega
  have h2S : (i : Int) + 2 ≤ (s.size : Int) := by omega
  have h4S : (i : Int) + 4 ≤ (s.size : Int) := by omega
  clear hR hT hB hW1 hE hn h6 hle hi
  rcases hCA with ⟨hcs0, q1, q2⟩ | ⟨hcs0, hcs1, q1, q2⟩ | ⟨hcs0, hcs1, q1, q2⟩
  all_goals
    rw [q1, q2]
    clear q1 q2
    go_enter Tryz.func47, Tryz.ntmps47
    go_wp2_with (go_at_call 44; refine Stop.mk ?_)
    rw [HW1.out]
    refine Stop.out (c31.mono ?_)
    rintro e W3 ⟨rfl, rfl⟩
    clear c31
    go_wp2_with (go_at_call 70; refine Stop.mk ?_)
    refine Stop.out ((nn _ _ D0).mono ?_)
    rintro e W3 ⟨rfl, rfl⟩
    rw [hH]
    go_wp2_with (go_at_call 70; refine Stop.mk ?_)
    refine Stop.out ((nn _ _ D2).mono ?_)
    rintro e W3 ⟨rfl, rfl⟩
    rw [hM]
    go_wp2
    refine bodyPost_ret (by simp [results, Tryz.results47, go_sem, z0, z1, z2, z3, z4]; rfl) rfl ⟨?_, ?_⟩
    · first | rfl | simp [t5]
    · rw [hr]
      refine below5 ?_ _ _ _ _ _
      repeat first | exact HB.out | refine Below.setCell ?_ (Nat.le_succ _) _

set_option maxRecDepth 100000 in
set_option maxHeartbeats 2000000 in
theorem clock_ok6 (w : World) (s : ByteArray) (i e : Nat) (hs : s.size ≤ 140737488351232) (hi : i ≤ e) (he : e ≤ s.size) (hE : isD s e = false) (hn : cnt s i 6 = 6) (h6 : i + 6 = e) :
    Calls Tryz.prog 47 #[.string s, .int .i64 (i : Int), .int .i64 (e : Int)] w (PostK w (t5 (nv s i 2 : Nat) (nv s (i + 2) 2 : Nat) (nv s (i + 4) 2 : Nat) 0 3) (clC (nv s i 2) (nv s (i + 2) 2) (nv s (i + 4) 2)) (clA i (nv s i 2) (nv s (i + 2) 2) (nv s (i + 4) 2))) := by
  obtain ⟨r, hr⟩ : ∃ r, w.heap.size = r := ⟨_, rfl⟩
  obtain ⟨W1, hW1⟩ : ∃ W1, (w.alloc (.cells #[.int .i64 0, .int .i64 0, .int .i64 0, .int .i64 0, .int .i64 0] 63)).alloc (.cells #[.int .i64 0, .int .i64 0, .int .i64 0, .int .i64 0, .int .i64 0] 63) = W1 := ⟨_, rfl⟩
  obtain ⟨-, hR, hT, hB⟩ : Clk w W1 r := by rw [← hW1, ← hr]; exact Clk.start w
  have c31 := digits31_any W1 (s.extract 0 e) i 6 (by rw [ByteArray.size_extract]; omega) (by rw [ByteArray.size_extract]; omega) (by omega)
  rw [(cnt_ext he hE 6 i hi).1, hn] at c31
  have hle := (cnt_ext he hE 6 i hi).2
  rw [hn] at hle
  have heI : (e : Int) ≤ (s.size : Int) := by omega
  have z0 : W1.cell? ⟨r, 0, none⟩ = some (.int .i64 0) := hR.cell (i := 0) (by omega)
  have z1 : W1.cell? ⟨r, 1, none⟩ = some (.int .i64 0) := hR.cell (i := 1) (by omega)
  have z2 : W1.cell? ⟨r, 2, none⟩ = some (.int .i64 0) := hR.cell (i := 2) (by omega)
  have z3 : W1.cell? ⟨r, 3, none⟩ = some (.int .i64 0) := hR.cell (i := 3) (by omega)
  have z4 : W1.cell? ⟨r, 4, none⟩ = some (.int .i64 0) := hR.cell (i := 4) (by omega)
  have t0 : W1.cell? ⟨r + 1, 0, none⟩ = some (.int .i64 0) := hT.cell (i := 0) (by omega)
  have t1 : W1.cell? ⟨r + 1, 1, none⟩ = some (.int .i64 0) := hT.cell (i := 1) (by omega)
  have t2 : W1.cell? ⟨r + 1, 2, none⟩ = some (.int .i64 0) := hT.cell (i := 2) (by omega)
  have t3 : W1.cell? ⟨r + 1, 3, none⟩ = some (.int .i64 0) := hT.cell (i := 3) (by omega)
  have t4 : W1.cell? ⟨r + 1, 4, none⟩ = some (.int .i64 0) := hT.cell (i := 4) (by omega)
  have zf : ∀ j, W1.frozen? ⟨r, j, none⟩ = false := fun j => hR.frozen j
  have tf : ∀ j, W1.frozen? ⟨r + 1, j, none⟩ = false := fun j => hT.frozen j
  have HB : Hid (Below r w W1) := hB
  have HW1 : Hid _ := hW1
  have hvf0 : ∃ vf : ByteArray → Nat, vf = fun u => val u.data.toList := ⟨_, rfl⟩
  obtain ⟨vf, hvf⟩ := hvf0
  have nn : ∀ W u, (Digs u ∧ u.size ≤ 8) → Calls Tryz.prog 70 #[.string u] W fun e w' => e = .returned (.int .i64 (vf u : Nat)) ∧ W = w' := fun W u hu => by rw [hvf]; exact number47_any W u hu.1 hu.2
  have D0 : Digs (s.extract i (i + 2)) ∧ (s.extract i (i + 2)).size ≤ 8 := ⟨digs_ext s i 2 2 (by have := cnt_sub (s := s) (i := i) 6 0 2 (by omega); (try simp only [Nat.add_zero] at this); omega), by rw [ByteArray.size_extract]; omega⟩
  have e0 : nv s i 2 = vf (s.extract i (i + 2)) := by rw [hvf]; rfl
  rw [e0]
  clear e0
  obtain ⟨H, hH⟩ : ∃ H, vf (s.extract i (i + 2)) = H := ⟨_, rfl⟩
  rw [hH]
  have D2 : Digs (s.extract (i + 2) (i + 4)) ∧ (s.extract (i + 2) (i + 4)).size ≤ 8 := ⟨digs_ext s (i + 2) 2 2 (by have := cnt_sub (s := s) (i := i) 6 2 2 (by omega); (try simp only [Nat.add_zero] at this); omega), by rw [ByteArray.size_extract]; omega⟩
  have e2 : nv s (i + 2) 2 = vf (s.extract (i + 2) (i + 4)) := by rw [hvf]; rfl
  rw [e2]
  clear e2
  obtain ⟨M, hM⟩ : ∃ M, vf (s.extract (i + 2) (i + 4)) = M := ⟨_, rfl⟩
  rw [hM]
  have D4 : Digs (s.extract (i + 4) (i + 6)) ∧ (s.extract (i + 4) (i + 6)).size ≤ 8 := ⟨digs_ext s (i + 4) 2 2 (by have := cnt_sub (s := s) (i := i) 6 4 2 (by omega); (try simp only [Nat.add_zero] at this); omega), by rw [ByteArray.size_extract]; omega⟩
  have e4 : nv s (i + 4) 2 = vf (s.extract (i + 4) (i + 6)) := by rw [hvf]; rfl
  rw [e4]
  clear e4
  obtain ⟨S, hS⟩ : ∃ S, vf (s.extract (i + 4) (i + 6)) = S := ⟨_, rfl⟩
  rw [hS]
  clear hvf
  have hCA : (decide (23 < (H : Int)) = true ∧ clC H M S = 101 ∧ clA i H M S = (i : Int)) ∨ (decide (23 < (H : Int)) = false ∧ decide (59 < (M : Int)) = true ∧ clC H M S = 101 ∧ clA i H M S = (i : Int) + 2) ∨ (decide (23 < (H : Int)) = false ∧ decide (59 < (M : Int)) = false ∧ decide (60 < (S : Int)) = true ∧ clC H M S = 101 ∧ clA i H M S = (i : Int) + 4) ∨ (decide (23 < (H : Int)) = false ∧ decide (59 < (M : Int)) = false ∧ decide (60 < (S : Int)) = false ∧ clC H M S = 0 ∧ clA i H M S = 0) := by
    unfold clC clA
    by_cases h0 : 23 < H
    · exact .inl <| ⟨by simp; omega, by rw [if_pos (by omega)], by rw [if_pos (by omega)]⟩
    · by_cases h1 : 59 < M
      · exact .inr <| .inl <| ⟨by simp; omega, by simp; omega, by rw [if_pos (by omega)], by rw [if_neg (by omega)]; rw [if_pos (by omega)]⟩
      · by_cases h2 : 60 < S
        · exact .inr <| .inr <| .inl <| ⟨by simp; omega, by simp; omega, by simp; omega, by rw [if_pos (by omega)], by rw [if_neg (by omega)]; rw [if_neg (by omega)]; rw [if_pos (by omega)]⟩
        · exact .inr <| .inr <| .inr ⟨by simp; omega, by simp; omega, by simp; omega, by rw [if_neg (by omega)], by rw [if_neg (by omega), if_neg (by omega), if_neg (by omega)]⟩
  have h2I : decide ((i : Int) + 6 < (e : Int)) = false := by simp; omega
  have h2S : (i : Int) + 2 ≤ (s.size : Int) := by omega
  have h4S : (i : Int) + 4 ≤ (s.size : Int) := by omega
  have h6S : (i : Int) + 6 ≤ (s.size : Int) := by omega
  clear hR hT hB hW1 hE hn h6 hle hi
  rcases hCA with ⟨hcs0, q1, q2⟩ | ⟨hcs0, hcs1, q1, q2⟩ | ⟨hcs0, hcs1, hcs2, q1, q2⟩ | ⟨hcs0, hcs1, hcs2, q1, q2⟩
  all_goals
    rw [q1, q2]
    clear q1 q2
    go_enter Tryz.func47, Tryz.ntmps47
    go_wp2_with (go_at_call 44; refine Stop.mk ?_)
    rw [HW1.out]
    refine Stop.out (c31.mono ?_)
    rintro e W3 ⟨rfl, rfl⟩
    clear c31
    go_wp2_with (go_at_call 70; refine Stop.mk ?_)
    refine Stop.out ((nn _ _ D0).mono ?_)
    rintro e W3 ⟨rfl, rfl⟩
    rw [hH]
    go_wp2_with (go_at_call 70; refine Stop.mk ?_)
    refine Stop.out ((nn _ _ D2).mono ?_)
    rintro e W3 ⟨rfl, rfl⟩
    rw [hM]
    go_wp2_with (go_at_call 70; refine Stop.mk ?_)
    refine Stop.out ((nn _ _ D4).mono ?_)
    rintro e W3 ⟨rfl, rfl⟩
    rw [hS]
    go_wp2
    refine bodyPost_ret (by simp [results, Tryz.results47, go_sem, z0, z1, z2, z3, z4]; rfl) rfl ⟨?_, ?_⟩
    · first | rfl | simp [t5]
    · rw [hr]
      refine below5 ?_ _ _ _ _ _
      repeat first | exact HB.out | refine Below.setCell ?_ (Nat.le_succ _) _
end Go.Proofs.YtgdemlebohlolaaGreatDoor.Tm

import Derived.Test.YtaingbnfalibjaaDoorTd
/-
  DERIVED. Digits with perhaps a point among them.
-/
namespace Go.Proofs.YtaingbnfalibjaaDoor
open Go Go.Proofs Go.RowKit

/-- Behind a point, if there is one. -/
def dP (s : ByteArray) (a : Nat) : Nat := if nx s a false = 46 then a + 1 else a
theorem dP_le {s : ByteArray} {a : Nat} (h : a ≤ s.size) : dP s a ≤ s.size := by
  unfold dP
  split
  · rename_i h2
    have := (nx_pos (s := s) (a := a) (b := false) (by omega)).2
    omega
  · exact h
theorem take_dot (w : World) (q : Nat) (f : Nat → Value) (s : ByteArray) (a : Nat) (h : Cur w q f s a false) (ha : a ≤ s.size) (hs : s.size ≤ 140737488351232) :
    Calls Tryd.prog 18 #[.pointer (some ⟨q, 0, none⟩), .string ⟨#[46]⟩] w fun e w' => ∃ x f', e = .returned (.int .u8 x) ∧ Cur w' q f' s (dP s a) false ∧ w.grownBy w' (some q) := by
  unfold dP
  rcases idx_dot (nx s a false) (nx_lt _ _ _) with ⟨h1, h2⟩ | ⟨h1, h2⟩
  · rw [if_pos h1]
    refine (take_yes w q f s a false h ha hs _ h2).mono ?_
    rintro e w' ⟨f', rfl, hc, _, hg⟩
    exact ⟨_, f', rfl, hc, hg⟩
  · rw [if_neg h1]
    refine (take_no w q f s a false h ha _ h2).mono ?_
    rintro e w' ⟨f', rfl, hc, _, hg⟩
    exact ⟨_, f', rfl, hc, hg⟩

theorem grown_trans {w w1 w2 : World} {q : Nat} (h : w.grownBy w1 (some q)) (k : w1.grownBy w2 (some q)) : w.grownBy w2 (some q) :=
  ⟨k.os.trans h.os, k.tape.trans h.tape, k.output.trans h.output, Nat.le_trans h.size k.size, fun i hi hne => (k.block i (Nat.lt_of_lt_of_le hi h.size) hne).trans (h.block i hi hne)⟩
theorem Cur.lt {w : World} {q : Nat} {f : Nat → Value} {s : ByteArray} {a : Nat} {b : Bool} (h : Cur w q f s a b) : q < w.heap.size := h.row.lt

set_option maxRecDepth 100000 in
set_option maxHeartbeats 1000000 in
theorem decimal_any (w : World) (q : Nat) (f : Nat → Value) (s : ByteArray) (a c1 a2 c2 : Nat) (h : Cur w q f s a false) (ha : a ≤ s.size) (hs : s.size ≤ 16)
    (h1 : cnt s a s.size = c1) (h2 : dP s (a + c1) = a2) (h3 : cnt s a2 s.size = c2) :
    Calls Tryd.prog 19 #[.pointer (some ⟨q, 0, none⟩)] w fun e w' => ∃ f', e = .returned (.tuple #[.string (s.extract a (a + c1) ++ s.extract a2 (a2 + c2)), .int .i64 (-(c2 : Int))]) ∧ Cur w' q f' s (a2 + c2) (decide (c1 + c2 < 1)) ∧ w.grownBy w' (some q) := by
  have l1 : a + c1 ≤ s.size := h1 ▸ cnt_size s s.size a ha
  have l2 : a2 ≤ s.size := h2 ▸ dP_le l1
  have l3 : a2 + c2 ≤ s.size := h3 ▸ cnt_size s s.size a2 l2
  have hq := h.lt
  have d1 := digits_any w q f s a false h ha (by omega) 0 s.size (by omega) (by omega) c1 (by simp [h1])
  rw [show ((0 : Nat) : Int) = 0 from rfl] at d1
  obtain ⟨q0, q1, q2⟩ := h.cells
  obtain ⟨u1, hu1⟩ : ∃ u, s.extract a (a + c1) = u := ⟨_, rfl⟩
  have z1 : u1.size = c1 := by rw [← hu1, ByteArray.size_extract]; omega
  obtain ⟨u2, hu2⟩ : ∃ u, s.extract a2 (a2 + c2) = u := ⟨_, rfl⟩
  have z2 : u2.size = c2 := by rw [← hu2, ByteArray.size_extract]; omega
  rw [hu1] at d1 ⊢
  rw [hu2]
  by_cases hc0 : c1 = 0
  · have hz : u1.size = 0 := by omega
    clear h
    go_enter Tryd.func19, Tryd.ntmps19
    go_wp2_with (go_at_call 42; refine Stop.mk ?_)
    refine Stop.out (d1.mono ?_)
    rintro e W1 ⟨f1, rfl, hc1, _, hg1⟩
    have hc1' : Cur W1 q f1 s (a + c1) false := ⟨hc1.row, hc1.c0, hc1.c1, by rw [hc1.c2]; simp⟩
    have d2 := take_dot W1 q f1 s (a + c1) hc1' l1 (by omega)
    rw [h2] at d2
    have HG1 : Hid (w.grownBy W1 (some q)) := hg1
    clear hc1 hc1' hg1 d1 q0 q1 q2 hu1
    go_wp2_with (go_at_call 18; refine Stop.mk ?_)
    refine Stop.out (d2.mono ?_)
    rintro e W2 ⟨x, f2, rfl, hc2, hg2⟩
    have HG2 : Hid (w.grownBy W2 (some q)) := grown_trans HG1.out hg2
    have d3 := digits_any W2 q f2 s a2 false hc2 l2 (by omega) 1 s.size (by omega) (by omega) c2 (by simp [h3])
    rw [hu2, show ((1 : Nat) : Int) = 1 from rfl] at d3
    obtain ⟨q0, q1, q2⟩ := hc2.cells
    clear hc2 hg2 d2 HG1
    go_wp2_with (go_at_call 42; refine Stop.mk ?_)
    refine Stop.out (d3.mono ?_)
    rintro e W3 ⟨f3, rfl, hc3, _, hg3⟩
    have HC3 : Hid (Cur W3 q f3 s (a2 + c2) (decide (c1 + c2 < 1))) := ⟨hc3.row, hc3.c0, hc3.c1, by rw [hc3.c2, Bool.false_or, decide_eq_decide.2 (show c2 < 1 ↔ c1 + c2 < 1 by omega)]⟩
    have HG3 : Hid (w.grownBy W3 (some q)) := grown_trans HG2.out hg3
    clear hc3 hg3 HG2 d3 q0 q1 q2 hu2
    go_wp2
    refine bodyPost_ret (v := .tuple #[.string (u1 ++ u2), .int .i64 (-(c2 : Int))]) (by simp [results, Tryd.results19, go_sem]) rfl ⟨f3, rfl, HC3.out, HG3.out⟩
  · have hz : ¬ ((0 : Int) < 1 - (u1.size : Int)) := by omega
    have hz2 : ¬ ((0 : Int) < 1 - (c1 : Int)) := by omega
    have hz3 : (1 : Int) - (c1 : Int) ≤ 0 := by omega
    clear h
    go_enter Tryd.func19, Tryd.ntmps19
    go_wp2_with (go_at_call 42; refine Stop.mk ?_)
    refine Stop.out (d1.mono ?_)
    rintro e W1 ⟨f1, rfl, hc1, _, hg1⟩
    have hc1' : Cur W1 q f1 s (a + c1) false := ⟨hc1.row, hc1.c0, hc1.c1, by rw [hc1.c2]; simp⟩
    have d2 := take_dot W1 q f1 s (a + c1) hc1' l1 (by omega)
    rw [h2] at d2
    have HG1 : Hid (w.grownBy W1 (some q)) := hg1
    clear hc1 hc1' hg1 d1 q0 q1 q2 hu1
    go_wp2_with (go_at_call 18; refine Stop.mk ?_)
    refine Stop.out (d2.mono ?_)
    rintro e W2 ⟨x, f2, rfl, hc2, hg2⟩
    have HG2 : Hid (w.grownBy W2 (some q)) := grown_trans HG1.out hg2
    have d3 := digits_any W2 q f2 s a2 false hc2 l2 (by omega) 0 s.size (by omega) (by omega) c2 (by simp [h3])
    rw [hu2, show ((0 : Nat) : Int) = 0 from rfl] at d3
    obtain ⟨q0, q1, q2⟩ := hc2.cells
    clear hc2 hg2 d2 HG1
    go_wp2_with (go_at_call 42; refine Stop.mk ?_)
    refine Stop.out (d3.mono ?_)
    rintro e W3 ⟨f3, rfl, hc3, _, hg3⟩
    have HC3 : Hid (Cur W3 q f3 s (a2 + c2) (decide (c1 + c2 < 1))) := ⟨hc3.row, hc3.c0, hc3.c1, by rw [hc3.c2, Bool.false_or, decide_eq_decide.2 (show c2 < 0 ↔ c1 + c2 < 1 by omega)]⟩
    have HG3 : Hid (w.grownBy W3 (some q)) := grown_trans HG2.out hg3
    clear hc3 hg3 HG2 d3 q0 q1 q2 hu2
    go_wp2
    refine bodyPost_ret (v := .tuple #[.string (u1 ++ u2), .int .i64 (-(c2 : Int))]) (by simp [results, Tryd.results19, go_sem]) rfl ⟨f3, rfl, HC3.out, HG3.out⟩
end Go.Proofs.YtaingbnfalibjaaDoor

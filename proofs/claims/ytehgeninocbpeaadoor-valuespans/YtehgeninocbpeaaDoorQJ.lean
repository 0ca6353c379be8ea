import Derived.Test.YtehgeninocbpeaaDoorQI
/-
  DERIVED. A day, piece by piece.
-/
namespace Go.Proofs.YtehgeninocbpeaaDoor.Tm
open Go Go.Proofs Go.RowKit

def nextD (o : Option (Int × Int)) (bad : Bool) (pl : Nat) : Option (Int × Int) := if bad = true then (if o = none then some ((pl : Int), 101) else o) else o

def PostP (w : World) (q : Nat) (f : Nat → Value) (s : ByteArray) (a : Nat) (b : Bool) (o : Option (Int × Int)) (N : Int) (e : Ending) (w' : World) : Prop :=
  ∃ f', e = .returned (.int .i64 N) ∧ Cur w' q f' s a b ∧ (∀ j, 4 ≤ j → f' j = f j) ∧ Dbt w' q (f' 3) o ∧ w.grownBy w' (some q)

set_option maxRecDepth 100000 in
set_option maxHeartbeats 1000000 in
theorem piece_any (w : World) (q : Nat) (f : Nat → Value) (s : ByteArray) (a : Nat) (b : Bool) (o : Option (Int × Int)) (h : Cur w q f s a b) (hd : Dbt w q (f 3) o) (ha : a ≤ s.size) (hs : s.size ≤ 140737488351232) (k : Nat) (hk : k ≤ 8) (c : Nat) (hc : c = if b = true then 0 else cnt s a k) (lo hi : Int) :
    Calls Tryd.prog 61 #[.pointer (some ⟨q, 0, none⟩), .int .i64 (k : Int), .int .i64 lo, .int .i64 hi] w (PostP w q f s (a + c) (b || decide (c < k)) (nextD o (decide ((nv s a c : Int) < lo) || decide (hi < (nv s a c : Int))) a) (nv s a c : Nat)) := by
  obtain ⟨q0, q1, q2⟩ := h.cells
  have c76 := number74_any w q f s a b h ha hs k hk c hc
  have HD : Hid (Dbt w q (f 3) o) := hd
  generalize nv s a c = N at *
  clear h hd hc
  by_cases hbad : (N : Int) < lo ∨ hi < (N : Int)
  · have e : (decide ((N : Int) < lo) || decide (hi < (N : Int))) = true := by simpa using hbad
    rw [e]
    clear e
    unfold nextD
    rw [if_pos rfl]
    obtain ⟨O, hO⟩ : ∃ O, (if o = none then some ((a : Int), 101) else o) = O := ⟨_, rfl⟩
    have HO : Hid ((if o = none then some ((a : Int), 101) else o) = O) := hO
    rw [hO]
    clear hO
    have hI : decide ((N : Int) < lo) = true ∨ (decide ((N : Int) < lo) = false ∧ decide (hi < (N : Int)) = true) := by
      by_cases h : (N : Int) < lo
      · exact .inl (by simpa using h)
      · exact .inr ⟨by simpa using h, by simpa using hbad.resolve_left h⟩
    clear hbad
    rcases hI with hI | ⟨hI, hI2⟩
    all_goals
      go_enter Tryd.func61, Tryd.ntmps61
      go_wp2_with (go_at_call 67; refine Stop.mk ?_)
      refine Stop.out (c76.mono ?_)
      rintro e W1 ⟨f1, rfl, hc1, hf1, hg1⟩
      have hd1 : Dbt W1 q (f1 3) o := by rw [hf1 3 (by omega)]; exact HD.out.grown hg1
      have c77 := doubt_any W1 q f1 s (a + c) _ o hc1 hd1 a
      rw [HO.out] at c77
      have HF : Hid (∀ j, 3 ≤ j → f1 j = f j) := hf1
      have HG : Hid (w.grownBy W1 (some q)) := hg1
      clear c76 hc1 hf1 hg1 hd1
      go_wp2_with (go_at_call 69; refine Stop.mk ?_)
      refine Stop.out (c77.mono ?_)
      rintro e W2 ⟨f2, v, rfl, hc2, hf2, hd2, hg2⟩
      have HR : Hid (Cur W2 q f2 s (a + c) (b || decide (c < k)) ∧ (∀ j, 4 ≤ j → f2 j = f j) ∧ Dbt W2 q (f2 3) O ∧ w.grownBy W2 (some q)) :=
        ⟨hc2, fun j hj => (hf2 j hj).trans (HF.out j (by omega)), hd2, HG.out.trans hg2⟩
      clear hc2 hf2 hd2 hg2 c77
      go_wp2
      go_ret
      exact ⟨f2, rfl, HR.out.1, HR.out.2.1, HR.out.2.2.1, HR.out.2.2.2⟩
  · have e : (decide ((N : Int) < lo) || decide (hi < (N : Int))) = false := by simpa using hbad
    rw [e]
    clear e
    unfold nextD
    rw [if_neg (by decide)]
    have i1 : decide ((N : Int) < lo) = false := by simpa using fun h => hbad (.inl h)
    have i2 : decide (hi < (N : Int)) = false := by simpa using fun h => hbad (.inr h)
    clear hbad
    go_enter Tryd.func61, Tryd.ntmps61
    go_wp2_with (go_at_call 67; refine Stop.mk ?_)
    refine Stop.out (c76.mono ?_)
    rintro e W1 ⟨f1, rfl, hc1, hf1, hg1⟩
    have HR : Hid (Cur W1 q f1 s (a + c) (b || decide (c < k)) ∧ (∀ j, 4 ≤ j → f1 j = f j) ∧ Dbt W1 q (f1 3) o ∧ w.grownBy W1 (some q)) :=
      ⟨hc1, fun j hj => hf1 j (by omega), by rw [hf1 3 (by omega)]; exact HD.out.grown hg1, hg1⟩
    clear c76 hc1 hf1 hg1
    go_wp2
    go_ret
    exact ⟨f1, rfl, HR.out.1, HR.out.2.1, HR.out.2.2.1, HR.out.2.2.2⟩

/-- The reader stays what it is while another cell is written. -/
theorem Cur.set {w : World} {q : Nat} {f : Nat → Value} {s : ByteArray} {a : Nat} {b : Bool} (h : Cur w q f s a b) (i : Nat) (hi : 3 ≤ i) (v : Value) : Cur (w.setCell ⟨q, i, none⟩ v) q (up f i v) s a b := by
  refine ⟨h.row.set i v, ?_, ?_, ?_⟩
  · show (if (0 : Nat) = i then _ else _) = _; rw [if_neg (by omega)]; exact h.c0
  · show (if (1 : Nat) = i then _ else _) = _; rw [if_neg (by omega)]; exact h.c1
  · show (if (2 : Nat) = i then _ else _) = _; rw [if_neg (by omega)]; exact h.c2
theorem up_ne {f : Nat → Value} {i j : Nat} {v : Value} (h : j ≠ i) : up f i v j = f j := by unfold up; rw [if_neg h]
theorem up_eq {f : Nat → Value} {i : Nat} {v : Value} : up f i v i = v := by unfold up; rw [if_pos rfl]

def PostY (w : World) (q : Nat) (f : Nat → Value) (s : ByteArray) (a : Nat) (b : Bool) (o : Option (Int × Int)) (i : Nat) (N p : Int) (e : Ending) (w' : World) : Prop :=
  ∃ f' v, e = .returned v ∧ Cur w' q f' s a b ∧ (∀ j, 4 ≤ j → j ≠ 7 → j ≠ i → f' j = f j) ∧ f' i = .int .i64 N ∧ f' 7 = .int .i64 p ∧ Dbt w' q (f' 3) o ∧ w.grownBy w' (some q)

set_option maxRecDepth 100000 in
set_option maxHeartbeats 1000000 in
theorem year_any (w : World) (q : Nat) (f : Nat → Value) (s : ByteArray) (a : Nat) (b : Bool) (o : Option (Int × Int)) (h : Cur w q f s a b) (hd : Dbt w q (f 3) o) (ha : a ≤ s.size) (hs : s.size ≤ 140737488351232) (c : Nat) (hc : c = if b = true then 0 else cnt s a 4) :
    Calls Tryd.prog 45 #[.pointer (some ⟨q, 0, none⟩)] w (PostY w q f s (a + c) (b || decide (c < 4)) (nextD o (decide ((nv s a c : Int) < 1) || decide (9999 < (nv s a c : Int))) a) 4 (nv s a c : Nat) 1) := by
  have q7 : w.cell? ⟨q, 7, none⟩ = some (f 7) := h.row.cell (i := 7) (by omega)
  have qf : ∀ i, w.frozen? ⟨q, i, none⟩ = false := fun i => h.row.frozen i
  have hc1 := h.set 7 (by omega) (.int .i64 1)
  have hg1 : w.grownBy (w.setCell ⟨q, 7, none⟩ (.int .i64 1)) (some q) := grown_set (grown_refl _ _) 7 _
  have hd1 : Dbt (w.setCell ⟨q, 7, none⟩ (.int .i64 1)) q (up f 7 (.int .i64 1) 3) o := by rw [up_ne (by omega)]; exact hd.grown hg1
  obtain ⟨W1, hW1⟩ : ∃ W1, w.setCell ⟨q, 7, none⟩ (.int .i64 1) = W1 := ⟨_, rfl⟩
  rw [hW1] at hc1 hd1 hg1
  have c71 := piece_any W1 q _ s a b o hc1 hd1 ha hs 4 (by omega) c hc 1 9999
  have HG1 : Hid (w.grownBy W1 (some q)) := hg1
  generalize nv s a c = N at *
  clear h hd hc hc1 hd1 hg1
  go_enter Tryd.func45, Tryd.ntmps45
  go_wp2_with (go_at_call 61; refine Stop.mk ?_)
  refine Stop.out (c71.mono ?_)
  rintro e W2 ⟨f2, rfl, hc2, hf2, hd2, hg2⟩
  have r4 : W2.cell? ⟨q, 4, none⟩ = some (f2 4) := hc2.row.cell (i := 4) (by omega)
  have rf : ∀ i, W2.frozen? ⟨q, i, none⟩ = false := fun i => hc2.row.frozen i
  have hc3 := hc2.set 4 (by omega) (.int .i64 (N : Int))
  have hg3 : W2.grownBy (W2.setCell ⟨q, 4, none⟩ (.int .i64 (N : Int))) (some q) := grown_set (grown_refl _ _) 4 _
  have hd3 := hd2.grown hg3
  have HR : Hid (PostY w q f s (a + c) (b || decide (c < 4)) (nextD o (decide ((N : Int) < 1) || decide (9999 < (N : Int))) a) 4 (N : Int) 1 (.returned (.tuple #[])) (W2.setCell ⟨q, 4, none⟩ (.int .i64 (N : Int)))) := by
    refine ⟨_, _, rfl, hc3, fun j hj hj7 hj4 => ?_, up_eq, ?_, ?_, (HG1.out.trans hg2).trans hg3⟩
    · rw [up_ne hj4, hf2 j (by omega), up_ne hj7]
    · rw [up_ne (by omega), hf2 7 (by omega), up_eq]
    · rw [up_ne (by omega)]; exact hd3
  clear hc2 hf2 hd2 hg2 hc3 hg3 hd3 c71
  go_wp2
  exact bodyPost_end (results_none rfl _ _ _) rfl HR.out

set_option maxRecDepth 100000 in
set_option maxHeartbeats 1000000 in
theorem month55_any (w : World) (q : Nat) (f : Nat → Value) (s : ByteArray) (a : Nat) (b : Bool) (o : Option (Int × Int)) (h : Cur w q f s a b) (hd : Dbt w q (f 3) o) (ha : a ≤ s.size) (hs : s.size ≤ 140737488351232) (c : Nat) (hc : c = if b = true then 0 else cnt s a 2) :
    Calls Tryd.prog 46 #[.pointer (some ⟨q, 0, none⟩)] w (PostY w q f s (a + c) (b || decide (c < 2)) (nextD o (decide ((nv s a c : Int) < 1) || decide (12 < (nv s a c : Int))) a) 5 (nv s a c : Nat) 2) := by
  have q7 : w.cell? ⟨q, 7, none⟩ = some (f 7) := h.row.cell (i := 7) (by omega)
  have qf : ∀ i, w.frozen? ⟨q, i, none⟩ = false := fun i => h.row.frozen i
  have hc1 := h.set 7 (by omega) (.int .i64 2)
  have hg1 : w.grownBy (w.setCell ⟨q, 7, none⟩ (.int .i64 2)) (some q) := grown_set (grown_refl _ _) 7 _
  have hd1 : Dbt (w.setCell ⟨q, 7, none⟩ (.int .i64 2)) q (up f 7 (.int .i64 2) 3) o := by rw [up_ne (by omega)]; exact hd.grown hg1
  obtain ⟨W1, hW1⟩ : ∃ W1, w.setCell ⟨q, 7, none⟩ (.int .i64 2) = W1 := ⟨_, rfl⟩
  rw [hW1] at hc1 hd1 hg1
  have c71 := piece_any W1 q _ s a b o hc1 hd1 ha hs 2 (by omega) c hc 1 12
  have HG1 : Hid (w.grownBy W1 (some q)) := hg1
  generalize nv s a c = N at *
  clear h hd hc hc1 hd1 hg1
  go_enter Tryd.func46, Tryd.ntmps46
  go_wp2_with (go_at_call 61; refine Stop.mk ?_)
  refine Stop.out (c71.mono ?_)
  rintro e W2 ⟨f2, rfl, hc2, hf2, hd2, hg2⟩
  have r5 : W2.cell? ⟨q, 5, none⟩ = some (f2 5) := hc2.row.cell (i := 5) (by omega)
  have rf : ∀ i, W2.frozen? ⟨q, i, none⟩ = false := fun i => hc2.row.frozen i
  have hc3 := hc2.set 5 (by omega) (.int .i64 (N : Int))
  have hg3 : W2.grownBy (W2.setCell ⟨q, 5, none⟩ (.int .i64 (N : Int))) (some q) := grown_set (grown_refl _ _) 5 _
  have hd3 := hd2.grown hg3
  have HR : Hid (PostY w q f s (a + c) (b || decide (c < 2)) (nextD o (decide ((N : Int) < 1) || decide (12 < (N : Int))) a) 5 (N : Int) 2 (.returned (.tuple #[])) (W2.setCell ⟨q, 5, none⟩ (.int .i64 (N : Int)))) := by
    refine ⟨_, _, rfl, hc3, fun j hj hj7 hj4 => ?_, up_eq, ?_, ?_, (HG1.out.trans hg2).trans hg3⟩
    · rw [up_ne hj4, hf2 j (by omega), up_ne hj7]
    · rw [up_ne (by omega), hf2 7 (by omega), up_eq]
    · rw [up_ne (by omega)]; exact hd3
  clear hc2 hf2 hd2 hg2 hc3 hg3 hd3 c71
  go_wp2
  exact bodyPost_end (results_none rfl _ _ _) rfl HR.out
end Go.Proofs.YtehgeninocbpeaaDoor.Tm

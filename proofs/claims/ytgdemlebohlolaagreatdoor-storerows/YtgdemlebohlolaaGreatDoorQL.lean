import Derived.Test.YtgdemlebohlolaaGreatDoorQI
import Derived.Deep.Cut
/-
  DERIVED. A day, piece by piece.
-/
namespace Go.Proofs.YtgdemlebohlolaaGreatDoor.Tm
open Go Go.Proofs Go.RowKit

def nextD (o : Option (Int × Int)) (bad : Bool) (pl : Nat) : Option (Int × Int) := if bad = true then (if o = none then some ((pl : Int), 101) else o) else o

def PostP (w : World) (q : Nat) (f : Nat → Value) (s : ByteArray) (a : Nat) (b : Bool) (o : Option (Int × Int)) (N : Int) (e : Ending) (w' : World) : Prop :=
  ∃ f', e = .returned (.int .i64 N) ∧ Cur w' q f' s a b ∧ (∀ j, 4 ≤ j → f' j = f j) ∧ Dbt w' q (f' 3) o ∧ w.grownBy w' (some q)

set_option maxRecDepth 100000 in
set_option maxHeartbeats 1000000 in
theorem piece_any (w : World) (q : Nat) (f : Nat → Value) (s : ByteArray) (a : Nat) (b : Bool) (o : Option (Int × Int)) (h : Cur w q f s a b) (hd : Dbt w q (f 3) o) (ha : a ≤ s.size) (hs : s.size ≤ 140737488351232) (k : Nat) (hk : k ≤ 8) (c : Nat) (hc : c = if b = true then 0 else cnt s a k) (lo hi : Int) :
    Calls Tryz.prog 148 #[.pointer (some ⟨q, 0, none⟩), .int .i64 (k : Int), .int .i64 lo, .int .i64 hi] w (PostP w q f s (a + c) (b || decide (c < k)) (nextD o (decide ((nv s a c : Int) < lo) || decide (hi < (nv s a c : Int))) a) (nv s a c : Nat)) := by
  obtain ⟨q0, q1, q2⟩ := h.cells
  have c76 := number74_any w q f s a b h ha hs k hk c hc
  have HD : Hid (Dbt w q (f 3) o) := hd
  generalize nv s a c = N at *
  clear h hd hc
  by_cases hbad : (N : Int) < lo ∨ hi < (N : Int)
  · have e : (decide ((N : Int) < lo) || decide (hi < (N : Int))) = true := by simpa using hbad
    rw [e]
    clear e
    unfold nextD
    rw [if_pos rfl]
    obtain ⟨O, hO⟩ : ∃ O, (if o = none then some ((a : Int), 101) else o) = O := ⟨_, rfl⟩
    have HO : Hid ((if o = none then some ((a : Int), 101) else o) = O) := hO
    rw [hO]
    clear hO
    have hI : decide ((N : Int) < lo) = true ∨ (decide ((N : Int) < lo) = false ∧ decide (hi < (N : Int)) = true) := by
      by_cases h : (N : Int) < lo
      · exact .inl (by simpa using h)
      · exact .inr ⟨by simpa using h, by simpa using hbad.resolve_left h⟩
    clear hbad
    rcases hI with hI | ⟨hI, hI2⟩
    all_goals
      go_enter Tryz.func148, Tryz.ntmps148
      go_wp2_with (go_at_call 155; refine Stop.mk ?_)
      refine Stop.out (c76.mono ?_)
      rintro e W1 ⟨f1, rfl, hc1, hf1, hg1⟩
      have hd1 : Dbt W1 q (f1 3) o := by rw [hf1 3 (by omega)]; exact HD.out.grown hg1
      have c77 := doubt_any W1 q f1 s (a + c) _ o hc1 hd1 a
      rw [HO.out] at c77
      have HF : Hid (∀ j, 3 ≤ j → f1 j = f j) := hf1
      have HG : Hid (w.grownBy W1 (some q)) := hg1
      clear c76 hc1 hf1 hg1 hd1
      go_wp2_with (go_at_call 157; refine Stop.mk ?_)
      refine Stop.out (c77.mono ?_)
      rintro e W2 ⟨f2, v, rfl, hc2, hf2, hd2, hg2⟩
      have HR : Hid (Cur W2 q f2 s (a + c) (b || decide (c < k)) ∧ (∀ j, 4 ≤ j → f2 j = f j) ∧ Dbt W2 q (f2 3) O ∧ w.grownBy W2 (some q)) :=
        ⟨hc2, fun j hj => (hf2 j hj).trans (HF.out j (by omega)), hd2, HG.out.trans hg2⟩
      clear hc2 hf2 hd2 hg2 c77
      go_wp2
      go_ret
      exact ⟨f2, rfl, HR.out.1, HR.out.2.1, HR.out.2.2.1, HR.out.2.2.2⟩
  · have e : (decide ((N : Int) < lo) || decide (hi < (N : Int))) = false := by simpa using hbad
    rw [e]
    clear e
    unfold nextD
    rw [if_neg (by decide)]
    have i1 : decide ((N : Int) < lo) = false := by simpa using fun h => hbad (.inl h)
    have i2 : decide (hi < (N : Int)) = false := by simpa using fun h => hbad (.inr h)
    clear hbad
    go_enter Tryz.func148, Tryz.ntmps148
    go_wp2_with (go_at_call 155; refine Stop.mk ?_)
    refine Stop.out (c76.mono ?_)
    rintro e W1 ⟨f1, rfl, hc1, hf1, hg1⟩
    have HR : Hid (Cur W1 q f1 s (a + c) (b || decide (c < k)) ∧ (∀ j, 4 ≤ j → f1 j = f j) ∧ Dbt W1 q (f1 3) o ∧ w.grownBy W1 (some q)) :=
      ⟨hc1, fun j hj => hf1 j (by omega), by rw [hf1 3 (by omega)]; exact HD.out.grown hg1, hg1⟩
    clear c76 hc1 hf1 hg1
    go_wp2
    go_ret
    exact ⟨f1, rfl, HR.out.1, HR.out.2.1, HR.out.2.2.1, HR.out.2.2.2⟩

/-- The reader stays what it is while another cell is written. -/
theorem Cur.set {w : World} {q : Nat} {f : Nat → Value} {s : ByteArray} {a : Nat} {b : Bool} (h : Cur w q f s a b) (i : Nat) (hi : 3 ≤ i) (v : Value) : Cur (w.setCell ⟨q, i, none⟩ v) q (up f i v) s a b := by
  refine ⟨h.row.set i v, ?_, ?_, ?_⟩
  · show (if (0 : Nat) = i then _ else _) = _; rw [if_neg (by omega)]; exact h.c0
  · show (if (1 : Nat) = i then _ else _) = _; rw [if_neg (by omega)]; exact h.c1
  · show (if (2 : Nat) = i then _ else _) = _; rw [if_neg (by omega)]; exact h.c2
theorem up_ne {f : Nat → Value} {i j : Nat} {v : Value} (h : j ≠ i) : up f i v j = f j := by unfold up; rw [if_neg h]
theorem up_eq {f : Nat → Value} {i : Nat} {v : Value} : up f i v i = v := by unfold up; rw [if_pos rfl]

def PostY (w : World) (q : Nat) (f : Nat → Value) (s : ByteArray) (a : Nat) (b : Bool) (o : Option (Int × Int)) (i : Nat) (N p : Int) (e : Ending) (w' : World) : Prop :=
  ∃ f' v, e = .returned v ∧ Cur w' q f' s a b ∧ (∀ j, 4 ≤ j → j ≠ 7 → j ≠ i → f' j = f j) ∧ f' i = .int .i64 N ∧ f' 7 = .int .i64 p ∧ Dbt w' q (f' 3) o ∧ w.grownBy w' (some q)

set_option maxRecDepth 100000 in
set_option maxHeartbeats 1000000 in
theorem year_any (w : World) (q : Nat) (f : Nat → Value) (s : ByteArray) (a : Nat) (b : Bool) (o : Option (Int × Int)) (h : Cur w q f s a b) (hd : Dbt w q (f 3) o) (ha : a ≤ s.size) (hs : s.size ≤ 140737488351232) (c : Nat) (hc : c = if b = true then 0 else cnt s a 4) :
    Calls Tryz.prog 117 #[.pointer (some ⟨q, 0, none⟩)] w (PostY w q f s (a + c) (b || decide (c < 4)) (nextD o (decide ((nv s a c : Int) < 1) || decide (9999 < (nv s a c : Int))) a) 4 (nv s a c : Nat) 1) := by
  have q7 : w.cell? ⟨q, 7, none⟩ = some (f 7) := h.row.cell (i := 7) (by omega)
  have qf : ∀ i, w.frozen? ⟨q, i, none⟩ = false := fun i => h.row.frozen i
  have hc1 := h.set 7 (by omega) (.int .i64 1)
  have hg1 : w.grownBy (w.setCell ⟨q, 7, none⟩ (.int .i64 1)) (some q) := grown_set (grown_refl _ _) 7 _
  have hd1 : Dbt (w.setCell ⟨q, 7, none⟩ (.int .i64 1)) q (up f 7 (.int .i64 1) 3) o := by rw [up_ne (by omega)]; exact hd.grown hg1
  obtain ⟨W1, hW1⟩ : ∃ W1, w.setCell ⟨q, 7, none⟩ (.int .i64 1) = W1 := ⟨_, rfl⟩
  rw [hW1] at hc1 hd1 hg1
  have c71 := piece_any W1 q _ s a b o hc1 hd1 ha hs 4 (by omega) c hc 1 9999
  have HG1 : Hid (w.grownBy W1 (some q)) := hg1
  generalize nv s a c = N at *
  clear h hd hc hc1 hd1 hg1
  go_enter Tryz.func117, Tryz.ntmps117
  go_wp2_with (go_at_call 148; refine Stop.mk ?_)
  refine Stop.out (c71.mono ?_)
  rintro e W2 ⟨f2, rfl, hc2, hf2, hd2, hg2⟩
  have r4 : W2.cell? ⟨q, 4, none⟩ = some (f2 4) := hc2.row.cell (i := 4) (by omega)
  have rf : ∀ i, W2.frozen? ⟨q, i, none⟩ = false := fun i => hc2.row.frozen i
  have hc3 := hc2.set 4 (by omega) (.int .i64 (N : Int))
  have hg3 : W2.grownBy (W2.setCell ⟨q, 4, none⟩ (.int .i64 (N : Int))) (some q) := grown_set (grown_refl _ _) 4 _
  have hd3 := hd2.grown hg3
  have HR : Hid (PostY w q f s (a + c) (b || decide (c < 4)) (nextD o (decide ((N : Int) < 1) || decide (9999 < (N : Int))) a) 4 (N : Int) 1 (.returned (.tuple #[])) (W2.setCell ⟨q, 4, none⟩ (.int .i64 (N : Int)))) := by
    refine ⟨_, _, rfl, hc3, fun j hj hj7 hj4 => ?_, up_eq, ?_, ?_, (HG1.out.trans hg2).trans hg3⟩
    · rw [up_ne hj4, hf2 j (by omega), up_ne hj7]
    · rw [up_ne (by omega), hf2 7 (by omega), up_eq]
    · rw [up_ne (by omega)]; exact hd3
  clear hc2 hf2 hd2 hg2 hc3 hg3 hd3 c71
  go_wp2
  exact bodyPost_end (results_none rfl _ _ _) rfl HR.out

set_option maxRecDepth 100000 in
set_option maxHeartbeats 1000000 in
theorem month55_any (w : World) (q : Nat) (f : Nat → Value) (s : ByteArray) (a : Nat) (b : Bool) (o : Option (Int × Int)) (h : Cur w q f s a b) (hd : Dbt w q (f 3) o) (ha : a ≤ s.size) (hs : s.size ≤ 140737488351232) (c : Nat) (hc : c = if b = true then 0 else cnt s a 2) :
    Calls Tryz.prog 118 #[.pointer (some ⟨q, 0, none⟩)] w (PostY w q f s (a + c) (b || decide (c < 2)) (nextD o (decide ((nv s a c : Int) < 1) || decide (12 < (nv s a c : Int))) a) 5 (nv s a c : Nat) 2) := by
  have q7 : w.cell? ⟨q, 7, none⟩ = some (f 7) := h.row.cell (i := 7) (by omega)
  have qf : ∀ i, w.frozen? ⟨q, i, none⟩ = false := fun i => h.row.frozen i
  have hc1 := h.set 7 (by omega) (.int .i64 2)
  have hg1 : w.grownBy (w.setCell ⟨q, 7, none⟩ (.int .i64 2)) (some q) := grown_set (grown_refl _ _) 7 _
  have hd1 : Dbt (w.setCell ⟨q, 7, none⟩ (.int .i64 2)) q (up f 7 (.int .i64 2) 3) o := by rw [up_ne (by omega)]; exact hd.grown hg1
  obtain ⟨W1, hW1⟩ : ∃ W1, w.setCell ⟨q, 7, none⟩ (.int .i64 2) = W1 := ⟨_, rfl⟩
  rw [hW1] at hc1 hd1 hg1
  have c71 := piece_any W1 q _ s a b o hc1 hd1 ha hs 2 (by omega) c hc 1 12
  have HG1 : Hid (w.grownBy W1 (some q)) := hg1
  generalize nv s a c = N at *
  clear h hd hc hc1 hd1 hg1
  go_enter Tryz.func118, Tryz.ntmps118
  go_wp2_with (go_at_call 148; refine Stop.mk ?_)
  refine Stop.out (c71.mono ?_)
  rintro e W2 ⟨f2, rfl, hc2, hf2, hd2, hg2⟩
  have r5 : W2.cell? ⟨q, 5, none⟩ = some (f2 5) := hc2.row.cell (i := 5) (by omega)
  have rf : ∀ i, W2.frozen? ⟨q, i, none⟩ = false := fun i => hc2.row.frozen i
  have hc3 := hc2.set 5 (by omega) (.int .i64 (N : Int))
  have hg3 : W2.grownBy (W2.setCell ⟨q, 5, none⟩ (.int .i64 (N : Int))) (some q) := grown_set (grown_refl _ _) 5 _
  have hd3 := hd2.grown hg3
  have HR : Hid (PostY w q f s (a + c) (b || decide (c < 2)) (nextD o (decide ((N : Int) < 1) || decide (12 < (N : Int))) a) 5 (N : Int) 2 (.returned (.tuple #[])) (W2.setCell ⟨q, 5, none⟩ (.int .i64 (N : Int)))) := by
    refine ⟨_, _, rfl, hc3, fun j hj hj7 hj4 => ?_, up_eq, ?_, ?_, (HG1.out.trans hg2).trans hg3⟩
    · rw [up_ne hj4, hf2 j (by omega), up_ne hj7]
    · rw [up_ne (by omega), hf2 7 (by omega), up_eq]
    · rw [up_ne (by omega)]; exact hd3
  clear hc2 hf2 hd2 hg2 hc3 hg3 hd3 c71
  go_wp2
  exact bodyPost_end (results_none rfl _ _ _) rfl HR.out
end Go.Proofs.YtgdemlebohlolaaGreatDoor.Tm

/-
  DERIVED. A day's text, read.
-/
namespace Go.Proofs.YtgdemlebohlolaaGreatDoor.Tm
open Go Go.Proofs Go.RowKit

set_option maxRecDepth 100000 in
set_option maxHeartbeats 2000000 in
theorem day_any (w : World) (q : Nat) (f : Nat → Value) (s : ByteArray) (a : Nat) (b : Bool) (o : Option (Int × Int)) (h : Cur w q f s a b) (hd : Dbt w q (f 3) o) (ha : a ≤ s.size) (hs : s.size ≤ 140737488351232) (c : Nat) (hc : c = if b = true then 0 else cnt s a 2) (y m : Nat) (hy : f 4 = .int .i64 (y : Int)) (hm : f 5 = .int .i64 (m : Int)) (hT : Mt w) (hq0 : q ≠ 5) :
    Calls Tryz.prog 119 #[.pointer (some ⟨q, 0, none⟩)] w (PostY w q f s (a + c) (b || decide (c < 2)) (nextD o (decide ((nv s a c : Int) < 1) || decide ((md y m : Int) < (nv s a c : Int))) a) 6 (nv s a c : Nat) 3) := by
  have q7 : w.cell? ⟨q, 7, none⟩ = some (f 7) := h.row.cell (i := 7) (by omega)
  have qf : ∀ i, w.frozen? ⟨q, i, none⟩ = false := fun i => h.row.frozen i
  have hc1 := h.set 7 (by omega) (.int .i64 3)
  have hg1 : w.grownBy (w.setCell ⟨q, 7, none⟩ (.int .i64 3)) (some q) := grown_set (grown_refl _ _) 7 _
  have hd1 : Dbt (w.setCell ⟨q, 7, none⟩ (.int .i64 3)) q (up f 7 (.int .i64 3) 3) o := by rw [up_ne (by omega)]; exact hd.grown hg1
  have hT1 : Mt (w.setCell ⟨q, 7, none⟩ (.int .i64 3)) := ⟨fun i hi => by
    rw [cell_set_off hq0]
    exact hT.p i hi⟩
  obtain ⟨W1, hW1⟩ : ∃ W1, w.setCell ⟨q, 7, none⟩ (.int .i64 3) = W1 := ⟨_, rfl⟩
  rw [hW1] at hc1 hd1 hg1 hT1
  have r4 : W1.cell? ⟨q, 4, none⟩ = some (.int .i64 (y : Int)) := by have := hc1.row.cell (i := 4) (by omega); rw [up_ne (by omega), hy] at this; exact this
  have r5 : W1.cell? ⟨q, 5, none⟩ = some (.int .i64 (m : Int)) := by have := hc1.row.cell (i := 5) (by omega); rw [up_ne (by omega), hm] at this; exact this
  have c26 := fun k => month_any (W1.drewN k) y m ⟨hT1.p⟩
  have hcD : Cur (W1.drewN 1) q (up f 7 (.int .i64 3)) s a b := ⟨hc1.row, hc1.c0, hc1.c1, hc1.c2⟩
  have hdD : Dbt (W1.drewN 1) q (up f 7 (.int .i64 3) 3) o := hd1.grown (grown_drewN (grown_refl _ _) 1)
  have c71 := piece_any (W1.drewN 1) q _ s a b o hcD hdD ha hs 2 (by omega) c hc 1 (md y m : Nat)
  have HG1 : Hid (w.grownBy W1 (some q)) := hg1
  obtain ⟨O, hO⟩ : ∃ O, nextD o (decide ((nv s a c : Int) < 1) || decide ((md y m : Int) < (nv s a c : Int))) a = O := ⟨_, rfl⟩
  rw [hO] at c71 ⊢
  generalize nv s a c = N at *
  generalize md y m = L at *
  clear h hd hc hc1 hd1 hg1 hO hcD hdD hT hT1
  go_enter Tryz.func119, Tryz.ntmps119
  go_wp2
  go_region_with (first | (go_at_call 149; refine (c26 1).mono ?_; rintro e w' ⟨rfl, rfl⟩) | (go_at_call 148; refine c71.mono ?_; rintro e W2 ⟨f2, rfl, hc2, hf2, hd2, hg2⟩; have r6 : W2.cell? ⟨q, 6, none⟩ = some (f2 6) := hc2.row.cell (i := 6) (by omega); have rf : ∀ i, W2.frozen? ⟨q, i, none⟩ = false := fun i => hc2.row.frozen i) | fail)
  all_goals
    have hc3 := hc2.set 6 (by omega) (.int .i64 (N : Int))
    have hg3 : W2.grownBy (W2.setCell ⟨q, 6, none⟩ (.int .i64 (N : Int))) (some q) := grown_set (grown_refl _ _) 6 _
    refine bodyPost_end (results_none rfl _ _ _) rfl ⟨_, _, rfl, hc3, fun j hj hj7 hj6 => ?_, up_eq, ?_, ?_, (HG1.out.trans ((grown_drewN (grown_refl _ _) 1).trans hg2)).trans hg3⟩
    · rw [up_ne hj6, hf2 j (by omega), up_ne hj7]
    · rw [up_ne (by omega), hf2 7 (by omega), up_eq]
    · rw [up_ne (by omega)]; exact hd2.grown hg3

def PostE (w : World) (o : Option (Int × Int)) (e : Ending) (w' : World) : Prop := ∃ v, e = .returned v ∧ PErr w' v o ∧ Below w.heap.size w w'

set_option maxRecDepth 100000 in
set_option maxHeartbeats 1000000 in
theorem end78_any (w : World) (q : Nat) (f : Nat → Value) (s : ByteArray) (a : Nat) (b : Bool) (h : Cur w q f s a b) (o : Option (Int × Int)) (ho : (b = true ∨ a < s.size) ∧ o = some ((a : Int), 100) ∨ (b = false ∧ ¬ a < s.size) ∧ o = none) :
    Calls Tryz.prog 158 #[.pointer (some ⟨q, 0, none⟩)] w (PostE w o) := by
  obtain ⟨q0, q1, q2⟩ := h.cells
  clear h
  rcases ho with ⟨hb, rfl⟩ | ⟨⟨rfl, hb⟩, rfl⟩
  · have c24 := fun k => refusal_any (a : Int) 100 (w.drewN k)
    have hcase : b = true ∨ (b = false ∧ a < s.size) := by
      cases b with
      | true => exact .inl rfl
      | false => exact .inr ⟨rfl, by simpa using hb⟩
    clear hb
    rcases hcase with rfl | ⟨rfl, hl⟩
    · go_enter Tryz.func158, Tryz.ntmps158
      go_wp2
      go_quiet (fail)
      go_wp2_with (go_at_call 126; refine Stop.mk ?_)
      refine Stop.out ((c24 _).mono ?_)
      rintro e W1 ⟨v, rfl, hv, hb1⟩
      have HV : Hid (PErr W1 v (some ((a : Int), 100))) := hv
      have HB : Hid (Below w.heap.size w W1) := (below_drewN (Below.refl _ _) _).trans hb1
      clear hv hb1 c24
      go_wp2
      go_ret
      exact ⟨v, rfl, HV.out, HB.out⟩
    · have hlI : decide ((a : Int) < (s.size : Int)) = true := by simp; omega
      go_enter Tryz.func158, Tryz.ntmps158
      go_wp2
      go_quiet (fail)
      go_wp2_with (go_at_call 126; refine Stop.mk ?_)
      refine Stop.out ((c24 _).mono ?_)
      rintro e W1 ⟨v, rfl, hv, hb1⟩
      have HV : Hid (PErr W1 v (some ((a : Int), 100))) := hv
      have HB : Hid (Below w.heap.size w W1) := (below_drewN (Below.refl _ _) _).trans hb1
      clear hv hb1 c24
      go_wp2
      go_ret
      exact ⟨v, rfl, HV.out, HB.out⟩
  · have hlI : decide ((a : Int) < (s.size : Int)) = false := by simp; omega
    have hlN : decide (a < s.size) = false := by simp; omega
    go_enter Tryz.func158, Tryz.ntmps158
    go_wp2
    go_quiet (fail)
    go_wp2
    go_ret
    exact ⟨_, rfl, rfl, below_drewN (Below.refl _ _) _⟩

set_option maxRecDepth 100000 in
set_option maxHeartbeats 1000000 in
theorem end63_any (w : World) (q : Nat) (f : Nat → Value) (s : ByteArray) (a : Nat) (b : Bool) (h : Cur w q f s a b) (od : Option (Int × Int)) (hd : Dbt w q (f 3) od) (o : Option (Int × Int)) (ho : (b = true ∨ a < s.size) ∧ o = some ((a : Int), 100) ∨ (b = false ∧ ¬ a < s.size) ∧ o = none) :
    Calls Tryz.prog 127 #[.pointer (some ⟨q, 0, none⟩)] w (PostE w (o.or od)) := by
  have c78 := end78_any w q f s a b h o ho
  have hql := h.row.lt
  have q3 : w.cell? ⟨q, 3, none⟩ = some (f 3) := h.row.cell (i := 3) (by omega)
  have HD : Hid (PErr w (f 3) od) := hd.1
  obtain ⟨v3, hv3⟩ : ∃ v3, f 3 = v3 := ⟨_, rfl⟩
  rw [hv3] at q3 HD
  clear h hd ho hv3
  cases o with
  | some x =>
    show Calls Tryz.prog 127 #[.pointer (some ⟨q, 0, none⟩)] w (PostE w (some x))
    go_enter Tryz.func127, Tryz.ntmps127
    go_wp2_with (go_at_call 158; refine Stop.mk ?_)
    refine Stop.out (c78.mono ?_)
    rintro e W1 ⟨v, rfl, hv, hb1⟩
    have HV : Hid (PErr W1 v (some x)) := hv
    have HB : Hid (Below w.heap.size w W1) := hb1
    obtain ⟨p, rfl, _⟩ := hv
    clear hb1 c78
    go_wp2
    go_ret
    exact ⟨_, rfl, HV.out, HB.out⟩
  | none =>
    show Calls Tryz.prog 127 #[.pointer (some ⟨q, 0, none⟩)] w (PostE w od)
    go_enter Tryz.func127, Tryz.ntmps127
    go_wp2_with (go_at_call 158; refine Stop.mk ?_)
    refine Stop.out (c78.mono ?_)
    rintro e W1 ⟨v, rfl, hv, hb1⟩
    obtain rfl : v = .nilIface := hv
    have HB : Hid (Below w.heap.size w W1) := hb1
    have g3 := (hb1.cell (p := ⟨q, 3, none⟩) hql).trans q3
    have HV : Hid (PErr W1 v3 od) := HD.out.next hb1
    clear hb1 c78 q3
    have hcase : v3 = .nilIface ∨ ∃ p, v3 = .iface 44 (.pointer (some ⟨p, 0, none⟩)) := by
      cases od with
      | none => exact .inl HV.out
      | some x => obtain ⟨p, hp, _⟩ := HV.out; exact .inr ⟨p, hp⟩
    rcases hcase with rfl | ⟨p, rfl⟩
    · go_wp2
      go_ret
      exact ⟨_, rfl, HV.out, HB.out⟩
    · go_wp2
      go_ret
      exact ⟨_, rfl, HV.out, HB.out⟩
end Go.Proofs.YtgdemlebohlolaaGreatDoor.Tm

/-
  DERIVED. A day's text, read from end to end.
-/
namespace Go.Proofs.YtgdemlebohlolaaGreatDoor.Tm
open Go Go.Proofs Go.RowKit

def mo (y m d p : Int) : Value := .agg #[.int .i64 y, .int .i64 m, .int .i64 d, .int .i64 p, .int .i64 0, .int .i64 0, .int .i64 0, .int .i64 0, .int .i64 0, .bool false, .int .i64 0]
def PostR (w : World) (M : Value) (o : Option (Int × Int)) (e : Ending) (w' : World) : Prop := ∃ v, e = .returned (.tuple #[M, v]) ∧ PErr w' v o ∧ Below w.heap.size w w'

def ck0 (s : ByteArray) : Nat → Value := fun k => #[Value.string s, .int .i64 0, .bool false, .nilIface, .int .i64 1, .int .i64 1, .int .i64 1, .int .i64 3, .int .i64 0, .int .i64 0, .int .i64 0, .int .i64 0, .int .i64 0, .bool false, .int .i64 0].getD k undef
def zm0 : Nat → Value := fun k => #[Value.int .i64 0, .int .i64 0, .int .i64 0, .int .i64 0, .int .i64 0, .int .i64 0, .int .i64 0, .int .i64 0, .int .i64 0, .bool false, .int .i64 0].getD k undef

/-- How far each piece goes. -/
def k1 (s : ByteArray) : Nat := cnt s 0 4
def k2 (s : ByteArray) : Nat := if decide (k1 s < 4) = true then 0 else cnt s (k1 s) 2
def b2 (s : ByteArray) : Bool := decide (k1 s < 4) || decide (k2 s < 2)
def k3 (s : ByteArray) : Nat := if b2 s = true then 0 else cnt s (k1 s + k2 s) 2
def b3 (s : ByteArray) : Bool := b2 s || decide (k3 s < 2)
def yy (s : ByteArray) : Nat := nv s 0 (k1 s)
def mm (s : ByteArray) : Nat := nv s (k1 s) (k2 s)
def dd (s : ByteArray) : Nat := nv s (k1 s + k2 s) (k3 s)
def o1 (s : ByteArray) : Option (Int × Int) := nextD none (decide ((yy s : Int) < 1) || decide (9999 < (yy s : Int))) 0
def o2 (s : ByteArray) : Option (Int × Int) := nextD (o1 s) (decide ((mm s : Int) < 1) || decide (12 < (mm s : Int))) (k1 s)
def o3 (s : ByteArray) : Option (Int × Int) := nextD (o2 s) (decide ((dd s : Int) < 1) || decide ((md (yy s) (mm s) : Int) < (dd s : Int))) (k1 s + k2 s)
def oe (s : ByteArray) : Option (Int × Int) := if b3 s = true ∨ k1 s + k2 s + k3 s < s.size then some (((k1 s + k2 s + k3 s : Nat) : Int), 100) else none

theorem k2_size (s : ByteArray) : k1 s + k2 s ≤ s.size ∧ k1 s ≤ s.size ∧ k1 s + k2 s + k3 s ≤ s.size := by
  have h1 : k1 s ≤ s.size := by have := cnt_size s 4 0 (by omega); unfold k1; omega
  have h2 : k1 s + k2 s ≤ s.size := by
    unfold k2
    split
    · omega
    · exact cnt_size s 2 (k1 s) h1
  refine ⟨h2, h1, ?_⟩
  unfold k3
  split
  · omega
  · exact cnt_size s 2 _ h2

theorem row_lit (c : Array Value) : ∀ i, i < c.size → c[i]? = some (c.getD i undef) := fun i hi => by simp [Array.getD, hi]
theorem row_kept {w w' : World} {q r : Nat} {t : TypeId} {n : Nat} {f : Nat → Value} (h : w.rowIs r t n f) (hg : w.grownBy w' (some q)) (hne : r ≠ q) : w'.rowIs r t n f :=
  h.of_block (hg.block r h.lt (by simpa using hne))

/-- What a day's text is read as, or why it is none. -/
def oP (s : ByteArray) : Option (Int × Int) := (oe s).or (o3 s)

end Go.Proofs.YtgdemlebohlolaaGreatDoor.Tm

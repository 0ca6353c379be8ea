import Derived.Test.YtohojghndnfgdaaGreatDoorQVb
import Derived.Test.YtohojghndnfgdaaGreatDoorQTf
import Derived.Deep.RegionHeld3
/-
  DERIVED. Which moments may be, by the program.
-/
namespace Go.Proofs.YtohojghndnfgdaaGreatDoor.Tm
open Go Go.Proofs Go.RowKit

theorem row_on {w w' : World} {q : Nat} {t : TypeId} {n : Nat} {f : Nat → Value} (h : w.rowIs q t n f) (hb : Below w.heap.size w w') : w'.rowIs q t n f := h.of_block (hb.block _ h.lt)
def mv (y m d dp h mi sc mc p : Int) (zd : Bool) (z : Int) : Value := .agg #[.int .i64 y, .int .i64 m, .int .i64 d, .int .i64 dp, .int .i64 h, .int .i64 mi, .int .i64 sc, .int .i64 mc, .int .i64 p, .bool zd, .int .i64 z]
def mf (y m d dp h mi sc mc p : Int) (zd : Bool) (z : Int) : Nat → Value := fun k => #[Value.int .i64 y, .int .i64 m, .int .i64 d, .int .i64 dp, .int .i64 h, .int .i64 mi, .int .i64 sc, .int .i64 mc, .int .i64 p, .bool zd, .int .i64 z].getD k undef
def z5P (h mi sc mc p : Int) : Prop := h = 0 ∧ mi = 0 ∧ sc = 0 ∧ mc = 0 ∧ p = 0
/-- The first field that may not be. -/
def mN (y m d dp h mi sc mc p : Int) (zd : Bool) (z : Int) : Int :=
  if uf y m d ≠ -1 ∨ (dp = 1 ∧ m ≠ 1) ∨ ((dp = 1 ∨ dp = 2) ∧ d ≠ 1) then 0
  else if dp < 1 ∨ 3 < dp then 1
  else if ¬ (h = 0 ∧ mi = 0 ∧ sc = 0 ∧ mc = 0 ∧ p = 0) ∧ (dp < 3 ∨ tN h mi sc mc p ≠ -1) then 2
  else if (zd = true ∧ ¬ (-720 ≤ z ∧ z ≤ 840)) ∨ (zd = false ∧ z ≠ 0) then 4 else -1

set_option maxRecDepth 100000 in
set_option maxHeartbeats 4000000 in
theorem unfitM_bad (w : World) (y m d dp h mi sc mc p : Int) (zd : Bool) (z : Int) (hT : Mt w) (hu : uf y m d ≠ -1) : Calls Tryz.prog 17 #[mv y m d dp h mi sc mc p zd z] w fun e w' => e = .returned (.int .i64 0) ∧ Below w.heap.size w w' := by
  obtain ⟨W, hW⟩ : ∃ W, w.alloc (.cells #[.int .i64 y, .int .i64 m, .int .i64 d, .int .i64 dp, .int .i64 h, .int .i64 mi, .int .i64 sc, .int .i64 mc, .int .i64 p, .bool zd, .int .i64 z] 35) = W := ⟨_, rfl⟩
  have HB : Hid (Below w.heap.size w W) := hW ▸ (Below.refl _ _).alloc (Nat.le_refl _) _
  have HRW : Hid (W.rowIs w.heap.size 35 11 (mf y m d dp h mi sc mc p zd z)) := by
    show W.rowIs _ _ _ _
    rw [← hW]; exact World.rowIs_alloc w _ 35 _ (row_lit _)
  have q0 : W.cell? ⟨w.heap.size, 0, none⟩ = some (.int .i64 y) := HRW.out.cell (i := 0) (by omega)
  have q1 : W.cell? ⟨w.heap.size, 1, none⟩ = some (.int .i64 m) := HRW.out.cell (i := 1) (by omega)
  have q2 : W.cell? ⟨w.heap.size, 2, none⟩ = some (.int .i64 d) := HRW.out.cell (i := 2) (by omega)
  have q3 : W.cell? ⟨w.heap.size, 3, none⟩ = some (.int .i64 dp) := HRW.out.cell (i := 3) (by omega)
  have q4 : W.cell? ⟨w.heap.size, 4, none⟩ = some (.int .i64 h) := HRW.out.cell (i := 4) (by omega)
  have q5 : W.cell? ⟨w.heap.size, 5, none⟩ = some (.int .i64 mi) := HRW.out.cell (i := 5) (by omega)
  have q6 : W.cell? ⟨w.heap.size, 6, none⟩ = some (.int .i64 sc) := HRW.out.cell (i := 6) (by omega)
  have q7 : W.cell? ⟨w.heap.size, 7, none⟩ = some (.int .i64 mc) := HRW.out.cell (i := 7) (by omega)
  have q8 : W.cell? ⟨w.heap.size, 8, none⟩ = some (.int .i64 p) := HRW.out.cell (i := 8) (by omega)
  have q9 : W.cell? ⟨w.heap.size, 9, none⟩ = some (.bool zd) := HRW.out.cell (i := 9) (by omega)
  have q10 : W.cell? ⟨w.heap.size, 10, none⟩ = some (.int .i64 z) := HRW.out.cell (i := 10) (by omega)
  have c27 := unfit_any W y m d (hT.on HB.out)
  generalize uf y m d = U at *
  have hUI : (U != -1) = true := by simpa using hu
  unfold mv
  unfold dv at c27
  clear hu
  go_enter Tryz.func17, Tryz.ntmps17
  go_wp2_with (go_at_call 40; refine Stop.mk ?_)
  refine Stop.out (c27.mono ?_)
  rintro e W2 ⟨rfl, hb2⟩
  have HB2 : Hid (Below w.heap.size w W2) := HB.out.trans (hb2.mono HB.out.size)
  clear hb2 c27
  go_wp2
  go_ret
  exact ⟨rfl, HB2.out⟩

set_option maxRecDepth 100000 in
set_option maxHeartbeats 4000000 in
theorem unfitM1_true (w : World) (y m d h mi sc mc p : Int) (z : Int) (hT : Mt w) (hO : Ot w) (hu : uf y m d = -1) (hm : m = 1) (hd : d = 1) (R : Int) (hR : (if ¬ (h = 0 ∧ mi = 0 ∧ sc = 0 ∧ mc = 0 ∧ p = 0) then 2 else if ¬ (-720 ≤ z ∧ z ≤ 840) then 4 else -1) = R) : Calls Tryz.prog 17 #[mv y m d 1 h mi sc mc p true z] w fun e w' => e = .returned (.int .i64 R) ∧ Below w.heap.size w w' := by
  obtain ⟨W, hW⟩ : ∃ W, w.alloc (.cells #[.int .i64 y, .int .i64 m, .int .i64 d, .int .i64 1, .int .i64 h, .int .i64 mi, .int .i64 sc, .int .i64 mc, .int .i64 p, .bool true, .int .i64 z] 35) = W := ⟨_, rfl⟩
  have HB : Hid (Below w.heap.size w W) := hW ▸ (Below.refl _ _).alloc (Nat.le_refl _) _
  have HRW : Hid (W.rowIs w.heap.size 35 11 (mf y m d 1 h mi sc mc p true z)) := by
    show W.rowIs _ _ _ _
    rw [← hW]; exact World.rowIs_alloc w _ 35 _ (row_lit _)
  have q0 : W.cell? ⟨w.heap.size, 0, none⟩ = some (.int .i64 y) := HRW.out.cell (i := 0) (by omega)
  have q1 : W.cell? ⟨w.heap.size, 1, none⟩ = some (.int .i64 m) := HRW.out.cell (i := 1) (by omega)
  have q2 : W.cell? ⟨w.heap.size, 2, none⟩ = some (.int .i64 d) := HRW.out.cell (i := 2) (by omega)
  have q3 : W.cell? ⟨w.heap.size, 3, none⟩ = some (.int .i64 1) := HRW.out.cell (i := 3) (by omega)
  have q4 : W.cell? ⟨w.heap.size, 4, none⟩ = some (.int .i64 h) := HRW.out.cell (i := 4) (by omega)
  have q5 : W.cell? ⟨w.heap.size, 5, none⟩ = some (.int .i64 mi) := HRW.out.cell (i := 5) (by omega)
  have q6 : W.cell? ⟨w.heap.size, 6, none⟩ = some (.int .i64 sc) := HRW.out.cell (i := 6) (by omega)
  have q7 : W.cell? ⟨w.heap.size, 7, none⟩ = some (.int .i64 mc) := HRW.out.cell (i := 7) (by omega)
  have q8 : W.cell? ⟨w.heap.size, 8, none⟩ = some (.int .i64 p) := HRW.out.cell (i := 8) (by omega)
  have q9 : W.cell? ⟨w.heap.size, 9, none⟩ = some (.bool true) := HRW.out.cell (i := 9) (by omega)
  have q10 : W.cell? ⟨w.heap.size, 10, none⟩ = some (.int .i64 z) := HRW.out.cell (i := 10) (by omega)
  have c27 := unfit_any W y m d (hT.on HB.out)
  rw [hu] at c27
  have c43 := fun W' hO' => unfitT_any W' h mi sc mc p hO'
  have c68 := fun W' => isZone_any W' z
  unfold mv
  unfold dv at c27
  unfold t5 at c43
  have HR : Hid _ := hR
  clear hR hu
  have hm0 : (m != 1) = false := by simpa using hm
  have hd0 : (d != 1) = false := by simpa using hd
  have hzz : ((decide (-720 ≤ z) && decide (z ≤ 840)) = true ∧ (-720 ≤ z ∧ z ≤ 840)) ∨ ((decide (-720 ≤ z) && decide (z ≤ 840)) = false ∧ ¬ (-720 ≤ z ∧ z ≤ 840)) := by
    by_cases h0 : -720 ≤ z ∧ z ≤ 840
    · exact .inl ⟨by simpa using h0, h0⟩
    · exact .inr ⟨by simpa using h0, h0⟩
  generalize (decide (-720 ≤ z) && decide (z ≤ 840)) = ZB at *
  rcases hzz with ⟨rfl, hz⟩ | ⟨rfl, hz⟩
  all_goals
    have HP : Hid _ := And.intro hz (trivial)
    clear hz hm hd
    go_enter Tryz.func17, Tryz.ntmps17
    go_wp2_with (go_at_call 40; refine Stop.mk ?_)
    refine Stop.out (c27.mono ?_)
    rintro e W2 ⟨rfl, hb2⟩
    have hR2 := row_on HRW.out hb2
    have HR2 : Hid _ := hR2
    have HB2 : Hid (Below w.heap.size w W2) := HB.out.trans (hb2.mono HB.out.size)
    have c43' := c43 W2 (hO.on (HB.out.trans (hb2.mono HB.out.size)))
    have u0 : W2.cell? ⟨w.heap.size, 0, none⟩ = some (.int .i64 y) := hR2.cell (i := 0) (by omega)
    have u1 : W2.cell? ⟨w.heap.size, 1, none⟩ = some (.int .i64 m) := hR2.cell (i := 1) (by omega)
    have u2 : W2.cell? ⟨w.heap.size, 2, none⟩ = some (.int .i64 d) := hR2.cell (i := 2) (by omega)
    have u3 : W2.cell? ⟨w.heap.size, 3, none⟩ = some (.int .i64 1) := hR2.cell (i := 3) (by omega)
    have u4 : W2.cell? ⟨w.heap.size, 4, none⟩ = some (.int .i64 h) := hR2.cell (i := 4) (by omega)
    have u5 : W2.cell? ⟨w.heap.size, 5, none⟩ = some (.int .i64 mi) := hR2.cell (i := 5) (by omega)
    have u6 : W2.cell? ⟨w.heap.size, 6, none⟩ = some (.int .i64 sc) := hR2.cell (i := 6) (by omega)
    have u7 : W2.cell? ⟨w.heap.size, 7, none⟩ = some (.int .i64 mc) := hR2.cell (i := 7) (by omega)
    have u8 : W2.cell? ⟨w.heap.size, 8, none⟩ = some (.int .i64 p) := hR2.cell (i := 8) (by omega)
    have u9 : W2.cell? ⟨w.heap.size, 9, none⟩ = some (.bool true) := hR2.cell (i := 9) (by omega)
    have u10 : W2.cell? ⟨w.heap.size, 10, none⟩ = some (.int .i64 z) := hR2.cell (i := 10) (by omega)
    clear hb2 hR2 c27 c43
    go_wp2_with (first | (go_at_call 41; refine (c68 _).mono ?_; rintro e w' ⟨rfl, rfl⟩) | (go_at_call 14; refine c43'.mono ?_; rintro e W5 ⟨rfl, hb5⟩; have R5 := row_on HR2.out hb5; have hB5 : Below w.heap.size w W5 := HB2.out.trans (hb5.mono HB2.out.size); have v9 : W5.cell? ⟨w.heap.size, 9, none⟩ = some (.bool true) := R5.cell (i := 9) (by omega); have v10 : W5.cell? ⟨w.heap.size, 10, none⟩ = some (.int .i64 z) := R5.cell (i := 10) (by omega)))
    all_goals (go_ret; refine ⟨?_, by first | exact hB5 | exact HB2.out | exact below_drewN hB5 _ | exact below_drewN HB2.out _⟩; rw [← HR.out]; have hP := HP.out; (repeat first | rw [if_pos (by omega)] | rw [if_neg (by omega)]); rfl)

set_option maxRecDepth 100000 in
set_option maxHeartbeats 4000000 in
theorem unfitM1_false (w : World) (y m d h mi sc mc p : Int) (z : Int) (hT : Mt w) (hO : Ot w) (hu : uf y m d = -1) (hm : m = 1) (hd : d = 1) (R : Int) (hR : (if ¬ (h = 0 ∧ mi = 0 ∧ sc = 0 ∧ mc = 0 ∧ p = 0) then 2 else if z ≠ 0 then 4 else -1) = R) : Calls Tryz.prog 17 #[mv y m d 1 h mi sc mc p false z] w fun e w' => e = .returned (.int .i64 R) ∧ Below w.heap.size w w' := by
  obtain ⟨W, hW⟩ : ∃ W, w.alloc (.cells #[.int .i64 y, .int .i64 m, .int .i64 d, .int .i64 1, .int .i64 h, .int .i64 mi, .int .i64 sc, .int .i64 mc, .int .i64 p, .bool false, .int .i64 z] 35) = W := ⟨_, rfl⟩
  have HB : Hid (Below w.heap.size w W) := hW ▸ (Below.refl _ _).alloc (Nat.le_refl _) _
  have HRW : Hid (W.rowIs w.heap.size 35 11 (mf y m d 1 h mi sc mc p false z)) := by
    show W.rowIs _ _ _ _
    rw [← hW]; exact World.rowIs_alloc w _ 35 _ (row_lit _)
  have q0 : W.cell? ⟨w.heap.size, 0, none⟩ = some (.int .i64 y) := HRW.out.cell (i := 0) (by omega)
  have q1 : W.cell? ⟨w.heap.size, 1, none⟩ = some (.int .i64 m) := HRW.out.cell (i := 1) (by omega)
  have q2 : W.cell? ⟨w.heap.size, 2, none⟩ = some (.int .i64 d) := HRW.out.cell (i := 2) (by omega)
  have q3 : W.cell? ⟨w.heap.size, 3, none⟩ = some (.int .i64 1) := HRW.out.cell (i := 3) (by omega)
  have q4 : W.cell? ⟨w.heap.size, 4, none⟩ = some (.int .i64 h) := HRW.out.cell (i := 4) (by omega)
  have q5 : W.cell? ⟨w.heap.size, 5, none⟩ = some (.int .i64 mi) := HRW.out.cell (i := 5) (by omega)
  have q6 : W.cell? ⟨w.heap.size, 6, none⟩ = some (.int .i64 sc) := HRW.out.cell (i := 6) (by omega)
  have q7 : W.cell? ⟨w.heap.size, 7, none⟩ = some (.int .i64 mc) := HRW.out.cell (i := 7) (by omega)
  have q8 : W.cell? ⟨w.heap.size, 8, none⟩ = some (.int .i64 p) := HRW.out.cell (i := 8) (by omega)
  have q9 : W.cell? ⟨w.heap.size, 9, none⟩ = some (.bool false) := HRW.out.cell (i := 9) (by omega)
  have q10 : W.cell? ⟨w.heap.size, 10, none⟩ = some (.int .i64 z) := HRW.out.cell (i := 10) (by omega)
  have c27 := unfit_any W y m d (hT.on HB.out)
  rw [hu] at c27
  have c43 := fun W' hO' => unfitT_any W' h mi sc mc p hO'
  have c68 := fun W' => isZone_any W' z
  unfold mv
  unfold dv at c27
  unfold t5 at c43
  have HR : Hid _ := hR
  clear hR hu
  have hm0 : (m != 1) = false := by simpa using hm
  have hd0 : (d != 1) = false := by simpa using hd
  have hzz : ((z != 0) = false ∧ z = 0) ∨ ((z != 0) = true ∧ z ≠ 0) := by
    by_cases h0 : z = 0
    · exact .inl ⟨by simpa using h0, h0⟩
    · exact .inr ⟨by simpa using h0, h0⟩
  rcases hzz with ⟨hz0, hz⟩ | ⟨hz0, hz⟩
  all_goals
    have HP : Hid _ := And.intro hz (trivial)
    clear hz hm hd
    go_enter Tryz.func17, Tryz.ntmps17
    go_wp2_with (go_at_call 40; refine Stop.mk ?_)
    refine Stop.out (c27.mono ?_)
    rintro e W2 ⟨rfl, hb2⟩
    have hR2 := row_on HRW.out hb2
    have HR2 : Hid _ := hR2
    have HB2 : Hid (Below w.heap.size w W2) := HB.out.trans (hb2.mono HB.out.size)
    have c43' := c43 W2 (hO.on (HB.out.trans (hb2.mono HB.out.size)))
    have u0 : W2.cell? ⟨w.heap.size, 0, none⟩ = some (.int .i64 y) := hR2.cell (i := 0) (by omega)
    have u1 : W2.cell? ⟨w.heap.size, 1, none⟩ = some (.int .i64 m) := hR2.cell (i := 1) (by omega)
    have u2 : W2.cell? ⟨w.heap.size, 2, none⟩ = some (.int .i64 d) := hR2.cell (i := 2) (by omega)
    have u3 : W2.cell? ⟨w.heap.size, 3, none⟩ = some (.int .i64 1) := hR2.cell (i := 3) (by omega)
    have u4 : W2.cell? ⟨w.heap.size, 4, none⟩ = some (.int .i64 h) := hR2.cell (i := 4) (by omega)
    have u5 : W2.cell? ⟨w.heap.size, 5, none⟩ = some (.int .i64 mi) := hR2.cell (i := 5) (by omega)
    have u6 : W2.cell? ⟨w.heap.size, 6, none⟩ = some (.int .i64 sc) := hR2.cell (i := 6) (by omega)
    have u7 : W2.cell? ⟨w.heap.size, 7, none⟩ = some (.int .i64 mc) := hR2.cell (i := 7) (by omega)
    have u8 : W2.cell? ⟨w.heap.size, 8, none⟩ = some (.int .i64 p) := hR2.cell (i := 8) (by omega)
    have u9 : W2.cell? ⟨w.heap.size, 9, none⟩ = some (.bool false) := hR2.cell (i := 9) (by omega)
    have u10 : W2.cell? ⟨w.heap.size, 10, none⟩ = some (.int .i64 z) := hR2.cell (i := 10) (by omega)
    clear hb2 hR2 c27 c43
    go_wp2_with (first | (go_at_call 41; refine (c68 _).mono ?_; rintro e w' ⟨rfl, rfl⟩) | (go_at_call 14; refine c43'.mono ?_; rintro e W5 ⟨rfl, hb5⟩; have R5 := row_on HR2.out hb5; have hB5 : Below w.heap.size w W5 := HB2.out.trans (hb5.mono HB2.out.size); have v9 : W5.cell? ⟨w.heap.size, 9, none⟩ = some (.bool false) := R5.cell (i := 9) (by omega); have v10 : W5.cell? ⟨w.heap.size, 10, none⟩ = some (.int .i64 z) := R5.cell (i := 10) (by omega)))
    all_goals (go_ret; refine ⟨?_, by first | exact hB5 | exact HB2.out | exact below_drewN hB5 _ | exact below_drewN HB2.out _⟩; rw [← HR.out]; have hP := HP.out; (repeat first | rw [if_pos (by omega)] | rw [if_neg (by omega)]); rfl)

set_option maxRecDepth 100000 in
set_option maxHeartbeats 4000000 in
theorem unfitM2_true (w : World) (y m d h mi sc mc p : Int) (z : Int) (hT : Mt w) (hO : Ot w) (hu : uf y m d = -1) (hd : d = 1) (R : Int) (hR : (if ¬ (h = 0 ∧ mi = 0 ∧ sc = 0 ∧ mc = 0 ∧ p = 0) then 2 else if ¬ (-720 ≤ z ∧ z ≤ 840) then 4 else -1) = R) : Calls Tryz.prog 17 #[mv y m d 2 h mi sc mc p true z] w fun e w' => e = .returned (.int .i64 R) ∧ Below w.heap.size w w' := by
  obtain ⟨W, hW⟩ : ∃ W, w.alloc (.cells #[.int .i64 y, .int .i64 m, .int .i64 d, .int .i64 2, .int .i64 h, .int .i64 mi, .int .i64 sc, .int .i64 mc, .int .i64 p, .bool true, .int .i64 z] 35) = W := ⟨_, rfl⟩
  have HB : Hid (Below w.heap.size w W) := hW ▸ (Below.refl _ _).alloc (Nat.le_refl _) _
  have HRW : Hid (W.rowIs w.heap.size 35 11 (mf y m d 2 h mi sc mc p true z)) := by
    show W.rowIs _ _ _ _
    rw [← hW]; exact World.rowIs_alloc w _ 35 _ (row_lit _)
  have q0 : W.cell? ⟨w.heap.size, 0, none⟩ = some (.int .i64 y) := HRW.out.cell (i := 0) (by omega)
  have q1 : W.cell? ⟨w.heap.size, 1, none⟩ = some (.int .i64 m) := HRW.out.cell (i := 1) (by omega)
  have q2 : W.cell? ⟨w.heap.size, 2, none⟩ = some (.int .i64 d) := HRW.out.cell (i := 2) (by omega)
  have q3 : W.cell? ⟨w.heap.size, 3, none⟩ = some (.int .i64 2) := HRW.out.cell (i := 3) (by omega)
  have q4 : W.cell? ⟨w.heap.size, 4, none⟩ = some (.int .i64 h) := HRW.out.cell (i := 4) (by omega)
  have q5 : W.cell? ⟨w.heap.size, 5, none⟩ = some (.int .i64 mi) := HRW.out.cell (i := 5) (by omega)
  have q6 : W.cell? ⟨w.heap.size, 6, none⟩ = some (.int .i64 sc) := HRW.out.cell (i := 6) (by omega)
  have q7 : W.cell? ⟨w.heap.size, 7, none⟩ = some (.int .i64 mc) := HRW.out.cell (i := 7) (by omega)
  have q8 : W.cell? ⟨w.heap.size, 8, none⟩ = some (.int .i64 p) := HRW.out.cell (i := 8) (by omega)
  have q9 : W.cell? ⟨w.heap.size, 9, none⟩ = some (.bool true) := HRW.out.cell (i := 9) (by omega)
  have q10 : W.cell? ⟨w.heap.size, 10, none⟩ = some (.int .i64 z) := HRW.out.cell (i := 10) (by omega)
  have c27 := unfit_any W y m d (hT.on HB.out)
  rw [hu] at c27
  have c43 := fun W' hO' => unfitT_any W' h mi sc mc p hO'
  have c68 := fun W' => isZone_any W' z
  unfold mv
  unfold dv at c27
  unfold t5 at c43
  have HR : Hid _ := hR
  clear hR hu
  have hd0 : (d != 1) = false := by simpa using hd
  have hzz : ((decide (-720 ≤ z) && decide (z ≤ 840)) = true ∧ (-720 ≤ z ∧ z ≤ 840)) ∨ ((decide (-720 ≤ z) && decide (z ≤ 840)) = false ∧ ¬ (-720 ≤ z ∧ z ≤ 840)) := by
    by_cases h0 : -720 ≤ z ∧ z ≤ 840
    · exact .inl ⟨by simpa using h0, h0⟩
    · exact .inr ⟨by simpa using h0, h0⟩
  generalize (decide (-720 ≤ z) && decide (z ≤ 840)) = ZB at *
  rcases hzz with ⟨rfl, hz⟩ | ⟨rfl, hz⟩
  all_goals
    have HP : Hid _ := And.intro hz (trivial)
    clear hz hd
    go_enter Tryz.func17, Tryz.ntmps17
    go_wp2_with (go_at_call 40; refine Stop.mk ?_)
    refine Stop.out (c27.mono ?_)
    rintro e W2 ⟨rfl, hb2⟩
    have hR2 := row_on HRW.out hb2
    have HR2 : Hid _ := hR2
    have HB2 : Hid (Below w.heap.size w W2) := HB.out.trans (hb2.mono HB.out.size)
    have c43' := c43 W2 (hO.on (HB.out.trans (hb2.mono HB.out.size)))
    have u0 : W2.cell? ⟨w.heap.size, 0, none⟩ = some (.int .i64 y) := hR2.cell (i := 0) (by omega)
    have u1 : W2.cell? ⟨w.heap.size, 1, none⟩ = some (.int .i64 m) := hR2.cell (i := 1) (by omega)
    have u2 : W2.cell? ⟨w.heap.size, 2, none⟩ = some (.int .i64 d) := hR2.cell (i := 2) (by omega)
    have u3 : W2.cell? ⟨w.heap.size, 3, none⟩ = some (.int .i64 2) := hR2.cell (i := 3) (by omega)
    have u4 : W2.cell? ⟨w.heap.size, 4, none⟩ = some (.int .i64 h) := hR2.cell (i := 4) (by omega)
    have u5 : W2.cell? ⟨w.heap.size, 5, none⟩ = some (.int .i64 mi) := hR2.cell (i := 5) (by omega)
    have u6 : W2.cell? ⟨w.heap.size, 6, none⟩ = some (.int .i64 sc) := hR2.cell (i := 6) (by omega)
    have u7 : W2.cell? ⟨w.heap.size, 7, none⟩ = some (.int .i64 mc) := hR2.cell (i := 7) (by omega)
    have u8 : W2.cell? ⟨w.heap.size, 8, none⟩ = some (.int .i64 p) := hR2.cell (i := 8) (by omega)
    have u9 : W2.cell? ⟨w.heap.size, 9, none⟩ = some (.bool true) := hR2.cell (i := 9) (by omega)
    have u10 : W2.cell? ⟨w.heap.size, 10, none⟩ = some (.int .i64 z) := hR2.cell (i := 10) (by omega)
    clear hb2 hR2 c27 c43
    go_wp2_with (first | (go_at_call 41; refine (c68 _).mono ?_; rintro e w' ⟨rfl, rfl⟩) | (go_at_call 14; refine c43'.mono ?_; rintro e W5 ⟨rfl, hb5⟩; have R5 := row_on HR2.out hb5; have hB5 : Below w.heap.size w W5 := HB2.out.trans (hb5.mono HB2.out.size); have v9 : W5.cell? ⟨w.heap.size, 9, none⟩ = some (.bool true) := R5.cell (i := 9) (by omega); have v10 : W5.cell? ⟨w.heap.size, 10, none⟩ = some (.int .i64 z) := R5.cell (i := 10) (by omega)))
    all_goals (go_ret; refine ⟨?_, by first | exact hB5 | exact HB2.out | exact below_drewN hB5 _ | exact below_drewN HB2.out _⟩; rw [← HR.out]; have hP := HP.out; (repeat first | rw [if_pos (by omega)] | rw [if_neg (by omega)]); rfl)

set_option maxRecDepth 100000 in
set_option maxHeartbeats 4000000 in
theorem unfitM2_false (w : World) (y m d h mi sc mc p : Int) (z : Int) (hT : Mt w) (hO : Ot w) (hu : uf y m d = -1) (hd : d = 1) (R : Int) (hR : (if ¬ (h = 0 ∧ mi = 0 ∧ sc = 0 ∧ mc = 0 ∧ p = 0) then 2 else if z ≠ 0 then 4 else -1) = R) : Calls Tryz.prog 17 #[mv y m d 2 h mi sc mc p false z] w fun e w' => e = .returned (.int .i64 R) ∧ Below w.heap.size w w' := by
  obtain ⟨W, hW⟩ : ∃ W, w.alloc (.cells #[.int .i64 y, .int .i64 m, .int .i64 d, .int .i64 2, .int .i64 h, .int .i64 mi, .int .i64 sc, .int .i64 mc, .int .i64 p, .bool false, .int .i64 z] 35) = W := ⟨_, rfl⟩
  have HB : Hid (Below w.heap.size w W) := hW ▸ (Below.refl _ _).alloc (Nat.le_refl _) _
  have HRW : Hid (W.rowIs w.heap.size 35 11 (mf y m d 2 h mi sc mc p false z)) := by
    show W.rowIs _ _ _ _
    rw [← hW]; exact World.rowIs_alloc w _ 35 _ (row_lit _)
  have q0 : W.cell? ⟨w.heap.size, 0, none⟩ = some (.int .i64 y) := HRW.out.cell (i := 0) (by omega)
  have q1 : W.cell? ⟨w.heap.size, 1, none⟩ = some (.int .i64 m) := HRW.out.cell (i := 1) (by omega)
  have q2 : W.cell? ⟨w.heap.size, 2, none⟩ = some (.int .i64 d) := HRW.out.cell (i := 2) (by omega)
  have q3 : W.cell? ⟨w.heap.size, 3, none⟩ = some (.int .i64 2) := HRW.out.cell (i := 3) (by omega)
  have q4 : W.cell? ⟨w.heap.size, 4, none⟩ = some (.int .i64 h) := HRW.out.cell (i := 4) (by omega)
  have q5 : W.cell? ⟨w.heap.size, 5, none⟩ = some (.int .i64 mi) := HRW.out.cell (i := 5) (by omega)
  have q6 : W.cell? ⟨w.heap.size, 6, none⟩ = some (.int .i64 sc) := HRW.out.cell (i := 6) (by omega)
  have q7 : W.cell? ⟨w.heap.size, 7, none⟩ = some (.int .i64 mc) := HRW.out.cell (i := 7) (by omega)
  have q8 : W.cell? ⟨w.heap.size, 8, none⟩ = some (.int .i64 p) := HRW.out.cell (i := 8) (by omega)
  have q9 : W.cell? ⟨w.heap.size, 9, none⟩ = some (.bool false) := HRW.out.cell (i := 9) (by omega)
  have q10 : W.cell? ⟨w.heap.size, 10, none⟩ = some (.int .i64 z) := HRW.out.cell (i := 10) (by omega)
  have c27 := unfit_any W y m d (hT.on HB.out)
  rw [hu] at c27
  have c43 := fun W' hO' => unfitT_any W' h mi sc mc p hO'
  have c68 := fun W' => isZone_any W' z
  unfold mv
  unfold dv at c27
  unfold t5 at c43
  have HR : Hid _ := hR
  clear hR hu
  have hd0 : (d != 1) = false := by simpa using hd
  have hzz : ((z != 0) = false ∧ z = 0) ∨ ((z != 0) = true ∧ z ≠ 0) := by
    by_cases h0 : z = 0
    · exact .inl ⟨by simpa using h0, h0⟩
    · exact .inr ⟨by simpa using h0, h0⟩
  rcases hzz with ⟨hz0, hz⟩ | ⟨hz0, hz⟩
  all_goals
    have HP : Hid _ := And.intro hz (trivial)
    clear hz hd
    go_enter Tryz.func17, Tryz.ntmps17
    go_wp2_with (go_at_call 40; refine Stop.mk ?_)
    refine Stop.out (c27.mono ?_)
    rintro e W2 ⟨rfl, hb2⟩
    have hR2 := row_on HRW.out hb2
    have HR2 : Hid _ := hR2
    have HB2 : Hid (Below w.heap.size w W2) := HB.out.trans (hb2.mono HB.out.size)
    have c43' := c43 W2 (hO.on (HB.out.trans (hb2.mono HB.out.size)))
    have u0 : W2.cell? ⟨w.heap.size, 0, none⟩ = some (.int .i64 y) := hR2.cell (i := 0) (by omega)
    have u1 : W2.cell? ⟨w.heap.size, 1, none⟩ = some (.int .i64 m) := hR2.cell (i := 1) (by omega)
    have u2 : W2.cell? ⟨w.heap.size, 2, none⟩ = some (.int .i64 d) := hR2.cell (i := 2) (by omega)
    have u3 : W2.cell? ⟨w.heap.size, 3, none⟩ = some (.int .i64 2) := hR2.cell (i := 3) (by omega)
    have u4 : W2.cell? ⟨w.heap.size, 4, none⟩ = some (.int .i64 h) := hR2.cell (i := 4) (by omega)
    have u5 : W2.cell? ⟨w.heap.size, 5, none⟩ = some (.int .i64 mi) := hR2.cell (i := 5) (by omega)
    have u6 : W2.cell? ⟨w.heap.size, 6, none⟩ = some (.int .i64 sc) := hR2.cell (i := 6) (by omega)
    have u7 : W2.cell? ⟨w.heap.size, 7, none⟩ = some (.int .i64 mc) := hR2.cell (i := 7) (by omega)
    have u8 : W2.cell? ⟨w.heap.size, 8, none⟩ = some (.int .i64 p) := hR2.cell (i := 8) (by omega)
    have u9 : W2.cell? ⟨w.heap.size, 9, none⟩ = some (.bool false) := hR2.cell (i := 9) (by omega)
    have u10 : W2.cell? ⟨w.heap.size, 10, none⟩ = some (.int .i64 z) := hR2.cell (i := 10) (by omega)
    clear hb2 hR2 c27 c43
    go_wp2_with (first | (go_at_call 41; refine (c68 _).mono ?_; rintro e w' ⟨rfl, rfl⟩) | (go_at_call 14; refine c43'.mono ?_; rintro e W5 ⟨rfl, hb5⟩; have R5 := row_on HR2.out hb5; have hB5 : Below w.heap.size w W5 := HB2.out.trans (hb5.mono HB2.out.size); have v9 : W5.cell? ⟨w.heap.size, 9, none⟩ = some (.bool false) := R5.cell (i := 9) (by omega); have v10 : W5.cell? ⟨w.heap.size, 10, none⟩ = some (.int .i64 z) := R5.cell (i := 10) (by omega)))
    all_goals (go_ret; refine ⟨?_, by first | exact hB5 | exact HB2.out | exact below_drewN hB5 _ | exact below_drewN HB2.out _⟩; rw [← HR.out]; have hP := HP.out; (repeat first | rw [if_pos (by omega)] | rw [if_neg (by omega)]); rfl)


set_option maxRecDepth 100000 in
set_option maxHeartbeats 1000000 in
theorem unfitM3_n0_true (w : World) (y m d : Int) (h mi sc mc p : Int) (z : Int) (hT : Mt w) (hO : Ot w) (hu : uf y m d = -1) (TN : Int) (hTN : tN h mi sc mc p = TN) (hne : h ≠ 0) (R : Int) (hR : (if TN ≠ -1 then 2 else if ¬ (-720 ≤ z ∧ z ≤ 840) then 4 else -1) = R) : Calls Tryz.prog 17 #[mv y m d 3 h mi sc mc p true z] w fun e w' => e = .returned (.int .i64 R) ∧ Below w.heap.size w w' := by
  obtain ⟨W, hW⟩ : ∃ W, w.alloc (.cells #[.int .i64 y, .int .i64 m, .int .i64 d, .int .i64 3, .int .i64 h, .int .i64 mi, .int .i64 sc, .int .i64 mc, .int .i64 p, .bool true, .int .i64 z] 35) = W := ⟨_, rfl⟩
  have HB : Hid (Below w.heap.size w W) := hW ▸ (Below.refl _ _).alloc (Nat.le_refl _) _
  have HRW : Hid (W.rowIs w.heap.size 35 11 (mf y m d 3 h mi sc mc p true z)) := by
    show W.rowIs _ _ _ _
    rw [← hW]; exact World.rowIs_alloc w _ 35 _ (row_lit _)
  have q0 : W.cell? ⟨w.heap.size, 0, none⟩ = some (.int .i64 y) := HRW.out.cell (i := 0) (by omega)
  have q1 : W.cell? ⟨w.heap.size, 1, none⟩ = some (.int .i64 m) := HRW.out.cell (i := 1) (by omega)
  have q2 : W.cell? ⟨w.heap.size, 2, none⟩ = some (.int .i64 d) := HRW.out.cell (i := 2) (by omega)
  have q3 : W.cell? ⟨w.heap.size, 3, none⟩ = some (.int .i64 3) := HRW.out.cell (i := 3) (by omega)
  have q4 : W.cell? ⟨w.heap.size, 4, none⟩ = some (.int .i64 h) := HRW.out.cell (i := 4) (by omega)
  have q5 : W.cell? ⟨w.heap.size, 5, none⟩ = some (.int .i64 mi) := HRW.out.cell (i := 5) (by omega)
  have q6 : W.cell? ⟨w.heap.size, 6, none⟩ = some (.int .i64 sc) := HRW.out.cell (i := 6) (by omega)
  have q7 : W.cell? ⟨w.heap.size, 7, none⟩ = some (.int .i64 mc) := HRW.out.cell (i := 7) (by omega)
  have q8 : W.cell? ⟨w.heap.size, 8, none⟩ = some (.int .i64 p) := HRW.out.cell (i := 8) (by omega)
  have q9 : W.cell? ⟨w.heap.size, 9, none⟩ = some (.bool true) := HRW.out.cell (i := 9) (by omega)
  have q10 : W.cell? ⟨w.heap.size, 10, none⟩ = some (.int .i64 z) := HRW.out.cell (i := 10) (by omega)
  have c27 := unfit_any W y m d (hT.on HB.out)
  rw [hu] at c27
  have c68 := fun W' => isZone_any W' z
  unfold mv
  unfold dv at c27
  have HR : Hid _ := hR
  clear hR hu
  have c43 := fun W' hO' => unfitT_any W' h mi sc mc p hO'
  rw [hTN] at c43
  unfold t5 at c43
  clear hTN
  have hn0 : (h == 0) = false := by simpa using hne
  have hn1 : ¬ (h = 0) := hne
  have hTT : ((TN != -1) = true ∧ TN ≠ -1) ∨ ((TN != -1) = false ∧ TN = -1) := by
    by_cases h0 : TN = -1
    · exact .inr ⟨by simpa using h0, h0⟩
    · exact .inl ⟨by simpa using h0, h0⟩
  have hzz : ((decide (-720 ≤ z) && decide (z ≤ 840)) = true ∧ (-720 ≤ z ∧ z ≤ 840)) ∨ ((decide (-720 ≤ z) && decide (z ≤ 840)) = false ∧ ¬ (-720 ≤ z ∧ z ≤ 840)) := by
    by_cases h0 : -720 ≤ z ∧ z ≤ 840
    · exact .inl ⟨by simpa using h0, h0⟩
    · exact .inr ⟨by simpa using h0, h0⟩
  generalize (decide (-720 ≤ z) && decide (z ≤ 840)) = ZB at *
  rcases hzz with ⟨rfl, hz⟩ | ⟨rfl, hz⟩
  all_goals
    rcases hTT with ⟨hTI, hTT⟩ | ⟨hTI, hTT⟩
    all_goals
      have HP : Hid _ := And.intro hz hTT
      clear hz hTT
      go_enter Tryz.func17, Tryz.ntmps17
      go_wp2_with (go_at_call 40; refine Stop.mk ?_)
      refine Stop.out (c27.mono ?_)
      rintro e W2 ⟨rfl, hb2⟩
      have hR2 := row_on HRW.out hb2
      have HR2 : Hid _ := hR2
      have HB2 : Hid (Below w.heap.size w W2) := HB.out.trans (hb2.mono HB.out.size)
      have u0 : W2.cell? ⟨w.heap.size, 0, none⟩ = some (.int .i64 y) := hR2.cell (i := 0) (by omega)
      have u1 : W2.cell? ⟨w.heap.size, 1, none⟩ = some (.int .i64 m) := hR2.cell (i := 1) (by omega)
      have u2 : W2.cell? ⟨w.heap.size, 2, none⟩ = some (.int .i64 d) := hR2.cell (i := 2) (by omega)
      have u3 : W2.cell? ⟨w.heap.size, 3, none⟩ = some (.int .i64 3) := hR2.cell (i := 3) (by omega)
      have u4 : W2.cell? ⟨w.heap.size, 4, none⟩ = some (.int .i64 h) := hR2.cell (i := 4) (by omega)
      have u5 : W2.cell? ⟨w.heap.size, 5, none⟩ = some (.int .i64 mi) := hR2.cell (i := 5) (by omega)
      have u6 : W2.cell? ⟨w.heap.size, 6, none⟩ = some (.int .i64 sc) := hR2.cell (i := 6) (by omega)
      have u7 : W2.cell? ⟨w.heap.size, 7, none⟩ = some (.int .i64 mc) := hR2.cell (i := 7) (by omega)
      have u8 : W2.cell? ⟨w.heap.size, 8, none⟩ = some (.int .i64 p) := hR2.cell (i := 8) (by omega)
      have u9 : W2.cell? ⟨w.heap.size, 9, none⟩ = some (.bool true) := hR2.cell (i := 9) (by omega)
      have u10 : W2.cell? ⟨w.heap.size, 10, none⟩ = some (.int .i64 z) := hR2.cell (i := 10) (by omega)
      have c43' := c43 W2 (hO.on (HB.out.trans (hb2.mono HB.out.size)))
      clear hb2 hR2 c27 c43
      go_wp2_with (go_at_call 14; refine Stop.mk ?_)
      refine Stop.out (c43'.mono ?_)
      rintro e W5 ⟨rfl, hb5⟩
      have R5 := row_on HR2.out hb5
      have HB5 : Hid (Below w.heap.size w W5) := HB2.out.trans (hb5.mono HB2.out.size)
      have v9 : W5.cell? ⟨w.heap.size, 9, none⟩ = some (.bool true) := R5.cell (i := 9) (by omega)
      have v10 : W5.cell? ⟨w.heap.size, 10, none⟩ = some (.int .i64 z) := R5.cell (i := 10) (by omega)
      clear hb5 R5
      go_wp2_with (first | (go_at_call 41; refine (c68 _).mono ?_; rintro e w' ⟨rfl, rfl⟩))
      go_ret
      refine ⟨?_, HB5.out⟩
      rw [← HR.out]
      have hP := HP.out
      (repeat first | rw [if_pos (by omega)] | rw [if_neg (by omega)])
      rfl

set_option maxRecDepth 100000 in
set_option maxHeartbeats 1000000 in
theorem unfitM3_n1_true (w : World) (y m d : Int) (mi sc mc p : Int) (z : Int) (hT : Mt w) (hO : Ot w) (hu : uf y m d = -1) (TN : Int) (hTN : tN 0 mi sc mc p = TN) (hne : mi ≠ 0) (R : Int) (hR : (if TN ≠ -1 then 2 else if ¬ (-720 ≤ z ∧ z ≤ 840) then 4 else -1) = R) : Calls Tryz.prog 17 #[mv y m d 3 0 mi sc mc p true z] w fun e w' => e = .returned (.int .i64 R) ∧ Below w.heap.size w w' := by
  obtain ⟨W, hW⟩ : ∃ W, w.alloc (.cells #[.int .i64 y, .int .i64 m, .int .i64 d, .int .i64 3, .int .i64 0, .int .i64 mi, .int .i64 sc, .int .i64 mc, .int .i64 p, .bool true, .int .i64 z] 35) = W := ⟨_, rfl⟩
  have HB : Hid (Below w.heap.size w W) := hW ▸ (Below.refl _ _).alloc (Nat.le_refl _) _
  have HRW : Hid (W.rowIs w.heap.size 35 11 (mf y m d 3 0 mi sc mc p true z)) := by
    show W.rowIs _ _ _ _
    rw [← hW]; exact World.rowIs_alloc w _ 35 _ (row_lit _)
  have q0 : W.cell? ⟨w.heap.size, 0, none⟩ = some (.int .i64 y) := HRW.out.cell (i := 0) (by omega)
  have q1 : W.cell? ⟨w.heap.size, 1, none⟩ = some (.int .i64 m) := HRW.out.cell (i := 1) (by omega)
  have q2 : W.cell? ⟨w.heap.size, 2, none⟩ = some (.int .i64 d) := HRW.out.cell (i := 2) (by omega)
  have q3 : W.cell? ⟨w.heap.size, 3, none⟩ = some (.int .i64 3) := HRW.out.cell (i := 3) (by omega)
  have q4 : W.cell? ⟨w.heap.size, 4, none⟩ = some (.int .i64 0) := HRW.out.cell (i := 4) (by omega)
  have q5 : W.cell? ⟨w.heap.size, 5, none⟩ = some (.int .i64 mi) := HRW.out.cell (i := 5) (by omega)
  have q6 : W.cell? ⟨w.heap.size, 6, none⟩ = some (.int .i64 sc) := HRW.out.cell (i := 6) (by omega)
  have q7 : W.cell? ⟨w.heap.size, 7, none⟩ = some (.int .i64 mc) := HRW.out.cell (i := 7) (by omega)
  have q8 : W.cell? ⟨w.heap.size, 8, none⟩ = some (.int .i64 p) := HRW.out.cell (i := 8) (by omega)
  have q9 : W.cell? ⟨w.heap.size, 9, none⟩ = some (.bool true) := HRW.out.cell (i := 9) (by omega)
  have q10 : W.cell? ⟨w.heap.size, 10, none⟩ = some (.int .i64 z) := HRW.out.cell (i := 10) (by omega)
  have c27 := unfit_any W y m d (hT.on HB.out)
  rw [hu] at c27
  have c68 := fun W' => isZone_any W' z
  unfold mv
  unfold dv at c27
  have HR : Hid _ := hR
  clear hR hu
  have c43 := fun W' hO' => unfitT_any W' 0 mi sc mc p hO'
  rw [hTN] at c43
  unfold t5 at c43
  clear hTN
  have hn0 : (mi == 0) = false := by simpa using hne
  have hn1 : ¬ (mi = 0) := hne
  have hTT : ((TN != -1) = true ∧ TN ≠ -1) ∨ ((TN != -1) = false ∧ TN = -1) := by
    by_cases h0 : TN = -1
    · exact .inr ⟨by simpa using h0, h0⟩
    · exact .inl ⟨by simpa using h0, h0⟩
  have hzz : ((decide (-720 ≤ z) && decide (z ≤ 840)) = true ∧ (-720 ≤ z ∧ z ≤ 840)) ∨ ((decide (-720 ≤ z) && decide (z ≤ 840)) = false ∧ ¬ (-720 ≤ z ∧ z ≤ 840)) := by
    by_cases h0 : -720 ≤ z ∧ z ≤ 840
    · exact .inl ⟨by simpa using h0, h0⟩
    · exact .inr ⟨by simpa using h0, h0⟩
  generalize (decide (-720 ≤ z) && decide (z ≤ 840)) = ZB at *
  rcases hzz with ⟨rfl, hz⟩ | ⟨rfl, hz⟩
  all_goals
    rcases hTT with ⟨hTI, hTT⟩ | ⟨hTI, hTT⟩
    all_goals
      have HP : Hid _ := And.intro hz hTT
      clear hz hTT
      go_enter Tryz.func17, Tryz.ntmps17
      go_wp2_with (go_at_call 40; refine Stop.mk ?_)
      refine Stop.out (c27.mono ?_)
      rintro e W2 ⟨rfl, hb2⟩
      have hR2 := row_on HRW.out hb2
      have HR2 : Hid _ := hR2
      have HB2 : Hid (Below w.heap.size w W2) := HB.out.trans (hb2.mono HB.out.size)
      have u0 : W2.cell? ⟨w.heap.size, 0, none⟩ = some (.int .i64 y) := hR2.cell (i := 0) (by omega)
      have u1 : W2.cell? ⟨w.heap.size, 1, none⟩ = some (.int .i64 m) := hR2.cell (i := 1) (by omega)
      have u2 : W2.cell? ⟨w.heap.size, 2, none⟩ = some (.int .i64 d) := hR2.cell (i := 2) (by omega)
      have u3 : W2.cell? ⟨w.heap.size, 3, none⟩ = some (.int .i64 3) := hR2.cell (i := 3) (by omega)
      have u4 : W2.cell? ⟨w.heap.size, 4, none⟩ = some (.int .i64 0) := hR2.cell (i := 4) (by omega)
      have u5 : W2.cell? ⟨w.heap.size, 5, none⟩ = some (.int .i64 mi) := hR2.cell (i := 5) (by omega)
      have u6 : W2.cell? ⟨w.heap.size, 6, none⟩ = some (.int .i64 sc) := hR2.cell (i := 6) (by omega)
      have u7 : W2.cell? ⟨w.heap.size, 7, none⟩ = some (.int .i64 mc) := hR2.cell (i := 7) (by omega)
      have u8 : W2.cell? ⟨w.heap.size, 8, none⟩ = some (.int .i64 p) := hR2.cell (i := 8) (by omega)
      have u9 : W2.cell? ⟨w.heap.size, 9, none⟩ = some (.bool true) := hR2.cell (i := 9) (by omega)
      have u10 : W2.cell? ⟨w.heap.size, 10, none⟩ = some (.int .i64 z) := hR2.cell (i := 10) (by omega)
      have c43' := c43 W2 (hO.on (HB.out.trans (hb2.mono HB.out.size)))
      clear hb2 hR2 c27 c43
      go_wp2_with (go_at_call 14; refine Stop.mk ?_)
      refine Stop.out (c43'.mono ?_)
      rintro e W5 ⟨rfl, hb5⟩
      have R5 := row_on HR2.out hb5
      have HB5 : Hid (Below w.heap.size w W5) := HB2.out.trans (hb5.mono HB2.out.size)
      have v9 : W5.cell? ⟨w.heap.size, 9, none⟩ = some (.bool true) := R5.cell (i := 9) (by omega)
      have v10 : W5.cell? ⟨w.heap.size, 10, none⟩ = some (.int .i64 z) := R5.cell (i := 10) (by omega)
      clear hb5 R5
      go_wp2_with (first | (go_at_call 41; refine (c68 _).mono ?_; rintro e w' ⟨rfl, rfl⟩))
      go_ret
      refine ⟨?_, HB5.out⟩
      rw [← HR.out]
      have hP := HP.out
      (repeat first | rw [if_pos (by omega)] | rw [if_neg (by omega)])
      rfl

set_option maxRecDepth 100000 in
set_option maxHeartbeats 1000000 in
theorem unfitM3_n2_true (w : World) (y m d : Int) (sc mc p : Int) (z : Int) (hT : Mt w) (hO : Ot w) (hu : uf y m d = -1) (TN : Int) (hTN : tN 0 0 sc mc p = TN) (hne : sc ≠ 0) (R : Int) (hR : (if TN ≠ -1 then 2 else if ¬ (-720 ≤ z ∧ z ≤ 840) then 4 else -1) = R) : Calls Tryz.prog 17 #[mv y m d 3 0 0 sc mc p true z] w fun e w' => e = .returned (.int .i64 R) ∧ Below w.heap.size w w' := by
  obtain ⟨W, hW⟩ : ∃ W, w.alloc (.cells #[.int .i64 y, .int .i64 m, .int .i64 d, .int .i64 3, .int .i64 0, .int .i64 0, .int .i64 sc, .int .i64 mc, .int .i64 p, .bool true, .int .i64 z] 35) = W := ⟨_, rfl⟩
  have HB : Hid (Below w.heap.size w W) := hW ▸ (Below.refl _ _).alloc (Nat.le_refl _) _
  have HRW : Hid (W.rowIs w.heap.size 35 11 (mf y m d 3 0 0 sc mc p true z)) := by
    show W.rowIs _ _ _ _
    rw [← hW]; exact World.rowIs_alloc w _ 35 _ (row_lit _)
  have q0 : W.cell? ⟨w.heap.size, 0, none⟩ = some (.int .i64 y) := HRW.out.cell (i := 0) (by omega)
  have q1 : W.cell? ⟨w.heap.size, 1, none⟩ = some (.int .i64 m) := HRW.out.cell (i := 1) (by omega)
  have q2 : W.cell? ⟨w.heap.size, 2, none⟩ = some (.int .i64 d) := HRW.out.cell (i := 2) (by omega)
  have q3 : W.cell? ⟨w.heap.size, 3, none⟩ = some (.int .i64 3) := HRW.out.cell (i := 3) (by omega)
  have q4 : W.cell? ⟨w.heap.size, 4, none⟩ = some (.int .i64 0) := HRW.out.cell (i := 4) (by omega)
  have q5 : W.cell? ⟨w.heap.size, 5, none⟩ = some (.int .i64 0) := HRW.out.cell (i := 5) (by omega)
  have q6 : W.cell? ⟨w.heap.size, 6, none⟩ = some (.int .i64 sc) := HRW.out.cell (i := 6) (by omega)
  have q7 : W.cell? ⟨w.heap.size, 7, none⟩ = some (.int .i64 mc) := HRW.out.cell (i := 7) (by omega)
  have q8 : W.cell? ⟨w.heap.size, 8, none⟩ = some (.int .i64 p) := HRW.out.cell (i := 8) (by omega)
  have q9 : W.cell? ⟨w.heap.size, 9, none⟩ = some (.bool true) := HRW.out.cell (i := 9) (by omega)
  have q10 : W.cell? ⟨w.heap.size, 10, none⟩ = some (.int .i64 z) := HRW.out.cell (i := 10) (by omega)
  have c27 := unfit_any W y m d (hT.on HB.out)
  rw [hu] at c27
  have c68 := fun W' => isZone_any W' z
  unfold mv
  unfold dv at c27
  have HR : Hid _ := hR
  clear hR hu
  have c43 := fun W' hO' => unfitT_any W' 0 0 sc mc p hO'
  rw [hTN] at c43
  unfold t5 at c43
  clear hTN
  have hn0 : (sc == 0) = false := by simpa using hne
  have hn1 : ¬ (sc = 0) := hne
  have hTT : ((TN != -1) = true ∧ TN ≠ -1) ∨ ((TN != -1) = false ∧ TN = -1) := by
    by_cases h0 : TN = -1
    · exact .inr ⟨by simpa using h0, h0⟩
    · exact .inl ⟨by simpa using h0, h0⟩
  have hzz : ((decide (-720 ≤ z) && decide (z ≤ 840)) = true ∧ (-720 ≤ z ∧ z ≤ 840)) ∨ ((decide (-720 ≤ z) && decide (z ≤ 840)) = false ∧ ¬ (-720 ≤ z ∧ z ≤ 840)) := by
    by_cases h0 : -720 ≤ z ∧ z ≤ 840
    · exact .inl ⟨by simpa using h0, h0⟩
    · exact .inr ⟨by simpa using h0, h0⟩
  generalize (decide (-720 ≤ z) && decide (z ≤ 840)) = ZB at *
  rcases hzz with ⟨rfl, hz⟩ | ⟨rfl, hz⟩
  all_goals
    rcases hTT with ⟨hTI, hTT⟩ | ⟨hTI, hTT⟩
    all_goals
      have HP : Hid _ := And.intro hz hTT
      clear hz hTT
      go_enter Tryz.func17, Tryz.ntmps17
      go_wp2_with (go_at_call 40; refine Stop.mk ?_)
      refine Stop.out (c27.mono ?_)
      rintro e W2 ⟨rfl, hb2⟩
      have hR2 := row_on HRW.out hb2
      have HR2 : Hid _ := hR2
      have HB2 : Hid (Below w.heap.size w W2) := HB.out.trans (hb2.mono HB.out.size)
      have u0 : W2.cell? ⟨w.heap.size, 0, none⟩ = some (.int .i64 y) := hR2.cell (i := 0) (by omega)
      have u1 : W2.cell? ⟨w.heap.size, 1, none⟩ = some (.int .i64 m) := hR2.cell (i := 1) (by omega)
      have u2 : W2.cell? ⟨w.heap.size, 2, none⟩ = some (.int .i64 d) := hR2.cell (i := 2) (by omega)
      have u3 : W2.cell? ⟨w.heap.size, 3, none⟩ = some (.int .i64 3) := hR2.cell (i := 3) (by omega)
      have u4 : W2.cell? ⟨w.heap.size, 4, none⟩ = some (.int .i64 0) := hR2.cell (i := 4) (by omega)
      have u5 : W2.cell? ⟨w.heap.size, 5, none⟩ = some (.int .i64 0) := hR2.cell (i := 5) (by omega)
      have u6 : W2.cell? ⟨w.heap.size, 6, none⟩ = some (.int .i64 sc) := hR2.cell (i := 6) (by omega)
      have u7 : W2.cell? ⟨w.heap.size, 7, none⟩ = some (.int .i64 mc) := hR2.cell (i := 7) (by omega)
      have u8 : W2.cell? ⟨w.heap.size, 8, none⟩ = some (.int .i64 p) := hR2.cell (i := 8) (by omega)
      have u9 : W2.cell? ⟨w.heap.size, 9, none⟩ = some (.bool true) := hR2.cell (i := 9) (by omega)
      have u10 : W2.cell? ⟨w.heap.size, 10, none⟩ = some (.int .i64 z) := hR2.cell (i := 10) (by omega)
      have c43' := c43 W2 (hO.on (HB.out.trans (hb2.mono HB.out.size)))
      clear hb2 hR2 c27 c43
      go_wp2_with (go_at_call 14; refine Stop.mk ?_)
      refine Stop.out (c43'.mono ?_)
      rintro e W5 ⟨rfl, hb5⟩
      have R5 := row_on HR2.out hb5
      have HB5 : Hid (Below w.heap.size w W5) := HB2.out.trans (hb5.mono HB2.out.size)
      have v9 : W5.cell? ⟨w.heap.size, 9, none⟩ = some (.bool true) := R5.cell (i := 9) (by omega)
      have v10 : W5.cell? ⟨w.heap.size, 10, none⟩ = some (.int .i64 z) := R5.cell (i := 10) (by omega)
      clear hb5 R5
      go_wp2_with (first | (go_at_call 41; refine (c68 _).mono ?_; rintro e w' ⟨rfl, rfl⟩))
      go_ret
      refine ⟨?_, HB5.out⟩
      rw [← HR.out]
      have hP := HP.out
      (repeat first | rw [if_pos (by omega)] | rw [if_neg (by omega)])
      rfl

set_option maxRecDepth 100000 in
set_option maxHeartbeats 1000000 in
theorem unfitM3_n3_true (w : World) (y m d : Int) (mc p : Int) (z : Int) (hT : Mt w) (hO : Ot w) (hu : uf y m d = -1) (TN : Int) (hTN : tN 0 0 0 mc p = TN) (hne : mc ≠ 0) (R : Int) (hR : (if TN ≠ -1 then 2 else if ¬ (-720 ≤ z ∧ z ≤ 840) then 4 else -1) = R) : Calls Tryz.prog 17 #[mv y m d 3 0 0 0 mc p true z] w fun e w' => e = .returned (.int .i64 R) ∧ Below w.heap.size w w' := by
  obtain ⟨W, hW⟩ : ∃ W, w.alloc (.cells #[.int .i64 y, .int .i64 m, .int .i64 d, .int .i64 3, .int .i64 0, .int .i64 0, .int .i64 0, .int .i64 mc, .int .i64 p, .bool true, .int .i64 z] 35) = W := ⟨_, rfl⟩
  have HB : Hid (Below w.heap.size w W) := hW ▸ (Below.refl _ _).alloc (Nat.le_refl _) _
  have HRW : Hid (W.rowIs w.heap.size 35 11 (mf y m d 3 0 0 0 mc p true z)) := by
    show W.rowIs _ _ _ _
    rw [← hW]; exact World.rowIs_alloc w _ 35 _ (row_lit _)
  have q0 : W.cell? ⟨w.heap.size, 0, none⟩ = some (.int .i64 y) := HRW.out.cell (i := 0) (by omega)
  have q1 : W.cell? ⟨w.heap.size, 1, none⟩ = some (.int .i64 m) := HRW.out.cell (i := 1) (by omega)
  have q2 : W.cell? ⟨w.heap.size, 2, none⟩ = some (.int .i64 d) := HRW.out.cell (i := 2) (by omega)
  have q3 : W.cell? ⟨w.heap.size, 3, none⟩ = some (.int .i64 3) := HRW.out.cell (i := 3) (by omega)
  have q4 : W.cell? ⟨w.heap.size, 4, none⟩ = some (.int .i64 0) := HRW.out.cell (i := 4) (by omega)
  have q5 : W.cell? ⟨w.heap.size, 5, none⟩ = some (.int .i64 0) := HRW.out.cell (i := 5) (by omega)
  have q6 : W.cell? ⟨w.heap.size, 6, none⟩ = some (.int .i64 0) := HRW.out.cell (i := 6) (by omega)
  have q7 : W.cell? ⟨w.heap.size, 7, none⟩ = some (.int .i64 mc) := HRW.out.cell (i := 7) (by omega)
  have q8 : W.cell? ⟨w.heap.size, 8, none⟩ = some (.int .i64 p) := HRW.out.cell (i := 8) (by omega)
  have q9 : W.cell? ⟨w.heap.size, 9, none⟩ = some (.bool true) := HRW.out.cell (i := 9) (by omega)
  have q10 : W.cell? ⟨w.heap.size, 10, none⟩ = some (.int .i64 z) := HRW.out.cell (i := 10) (by omega)
  have c27 := unfit_any W y m d (hT.on HB.out)
  rw [hu] at c27
  have c68 := fun W' => isZone_any W' z
  unfold mv
  unfold dv at c27
  have HR : Hid _ := hR
  clear hR hu
  have c43 := fun W' hO' => unfitT_any W' 0 0 0 mc p hO'
  rw [hTN] at c43
  unfold t5 at c43
  clear hTN
  have hn0 : (mc == 0) = false := by simpa using hne
  have hn1 : ¬ (mc = 0) := hne
  have hTT : ((TN != -1) = true ∧ TN ≠ -1) ∨ ((TN != -1) = false ∧ TN = -1) := by
    by_cases h0 : TN = -1
    · exact .inr ⟨by simpa using h0, h0⟩
    · exact .inl ⟨by simpa using h0, h0⟩
  have hzz : ((decide (-720 ≤ z) && decide (z ≤ 840)) = true ∧ (-720 ≤ z ∧ z ≤ 840)) ∨ ((decide (-720 ≤ z) && decide (z ≤ 840)) = false ∧ ¬ (-720 ≤ z ∧ z ≤ 840)) := by
    by_cases h0 : -720 ≤ z ∧ z ≤ 840
    · exact .inl ⟨by simpa using h0, h0⟩
    · exact .inr ⟨by simpa using h0, h0⟩
  generalize (decide (-720 ≤ z) && decide (z ≤ 840)) = ZB at *
  rcases hzz with ⟨rfl, hz⟩ | ⟨rfl, hz⟩
  all_goals
    rcases hTT with ⟨hTI, hTT⟩ | ⟨hTI, hTT⟩
    all_goals
      have HP : Hid _ := And.intro hz hTT
      clear hz hTT
      go_enter Tryz.func17, Tryz.ntmps17
      go_wp2_with (go_at_call 40; refine Stop.mk ?_)
      refine Stop.out (c27.mono ?_)
      rintro e W2 ⟨rfl, hb2⟩
      have hR2 := row_on HRW.out hb2
      have HR2 : Hid _ := hR2
      have HB2 : Hid (Below w.heap.size w W2) := HB.out.trans (hb2.mono HB.out.size)
      have u0 : W2.cell? ⟨w.heap.size, 0, none⟩ = some (.int .i64 y) := hR2.cell (i := 0) (by omega)
      have u1 : W2.cell? ⟨w.heap.size, 1, none⟩ = some (.int .i64 m) := hR2.cell (i := 1) (by omega)
      have u2 : W2.cell? ⟨w.heap.size, 2, none⟩ = some (.int .i64 d) := hR2.cell (i := 2) (by omega)
      have u3 : W2.cell? ⟨w.heap.size, 3, none⟩ = some (.int .i64 3) := hR2.cell (i := 3) (by omega)
      have u4 : W2.cell? ⟨w.heap.size, 4, none⟩ = some (.int .i64 0) := hR2.cell (i := 4) (by omega)
      have u5 : W2.cell? ⟨w.heap.size, 5, none⟩ = some (.int .i64 0) := hR2.cell (i := 5) (by omega)
      have u6 : W2.cell? ⟨w.heap.size, 6, none⟩ = some (.int .i64 0) := hR2.cell (i := 6) (by omega)
      have u7 : W2.cell? ⟨w.heap.size, 7, none⟩ = some (.int .i64 mc) := hR2.cell (i := 7) (by omega)
      have u8 : W2.cell? ⟨w.heap.size, 8, none⟩ = some (.int .i64 p) := hR2.cell (i := 8) (by omega)
      have u9 : W2.cell? ⟨w.heap.size, 9, none⟩ = some (.bool true) := hR2.cell (i := 9) (by omega)
      have u10 : W2.cell? ⟨w.heap.size, 10, none⟩ = some (.int .i64 z) := hR2.cell (i := 10) (by omega)
      have c43' := c43 W2 (hO.on (HB.out.trans (hb2.mono HB.out.size)))
      clear hb2 hR2 c27 c43
      go_wp2_with (go_at_call 14; refine Stop.mk ?_)
      refine Stop.out (c43'.mono ?_)
      rintro e W5 ⟨rfl, hb5⟩
      have R5 := row_on HR2.out hb5
      have HB5 : Hid (Below w.heap.size w W5) := HB2.out.trans (hb5.mono HB2.out.size)
      have v9 : W5.cell? ⟨w.heap.size, 9, none⟩ = some (.bool true) := R5.cell (i := 9) (by omega)
      have v10 : W5.cell? ⟨w.heap.size, 10, none⟩ = some (.int .i64 z) := R5.cell (i := 10) (by omega)
      clear hb5 R5
      go_wp2_with (first | (go_at_call 41; refine (c68 _).mono ?_; rintro e w' ⟨rfl, rfl⟩))
      go_ret
      refine ⟨?_, HB5.out⟩
      rw [← HR.out]
      have hP := HP.out
      (repeat first | rw [if_pos (by omega)] | rw [if_neg (by omega)])
      rfl

set_option maxRecDepth 100000 in
set_option maxHeartbeats 1000000 in
theorem unfitM3_n4_true (w : World) (y m d : Int) (p : Int) (z : Int) (hT : Mt w) (hO : Ot w) (hu : uf y m d = -1) (TN : Int) (hTN : tN 0 0 0 0 p = TN) (hne : p ≠ 0) (R : Int) (hR : (if TN ≠ -1 then 2 else if ¬ (-720 ≤ z ∧ z ≤ 840) then 4 else -1) = R) : Calls Tryz.prog 17 #[mv y m d 3 0 0 0 0 p true z] w fun e w' => e = .returned (.int .i64 R) ∧ Below w.heap.size w w' := by
  obtain ⟨W, hW⟩ : ∃ W, w.alloc (.cells #[.int .i64 y, .int .i64 m, .int .i64 d, .int .i64 3, .int .i64 0, .int .i64 0, .int .i64 0, .int .i64 0, .int .i64 p, .bool true, .int .i64 z] 35) = W := ⟨_, rfl⟩
  have HB : Hid (Below w.heap.size w W) := hW ▸ (Below.refl _ _).alloc (Nat.le_refl _) _
  have HRW : Hid (W.rowIs w.heap.size 35 11 (mf y m d 3 0 0 0 0 p true z)) := by
    show W.rowIs _ _ _ _
    rw [← hW]; exact World.rowIs_alloc w _ 35 _ (row_lit _)
  have q0 : W.cell? ⟨w.heap.size, 0, none⟩ = some (.int .i64 y) := HRW.out.cell (i := 0) (by omega)
  have q1 : W.cell? ⟨w.heap.size, 1, none⟩ = some (.int .i64 m) := HRW.out.cell (i := 1) (by omega)
  have q2 : W.cell? ⟨w.heap.size, 2, none⟩ = some (.int .i64 d) := HRW.out.cell (i := 2) (by omega)
  have q3 : W.cell? ⟨w.heap.size, 3, none⟩ = some (.int .i64 3) := HRW.out.cell (i := 3) (by omega)
  have q4 : W.cell? ⟨w.heap.size, 4, none⟩ = some (.int .i64 0) := HRW.out.cell (i := 4) (by omega)
  have q5 : W.cell? ⟨w.heap.size, 5, none⟩ = some (.int .i64 0) := HRW.out.cell (i := 5) (by omega)
  have q6 : W.cell? ⟨w.heap.size, 6, none⟩ = some (.int .i64 0) := HRW.out.cell (i := 6) (by omega)
  have q7 : W.cell? ⟨w.heap.size, 7, none⟩ = some (.int .i64 0) := HRW.out.cell (i := 7) (by omega)
  have q8 : W.cell? ⟨w.heap.size, 8, none⟩ = some (.int .i64 p) := HRW.out.cell (i := 8) (by omega)
  have q9 : W.cell? ⟨w.heap.size, 9, none⟩ = some (.bool true) := HRW.out.cell (i := 9) (by omega)
  have q10 : W.cell? ⟨w.heap.size, 10, none⟩ = some (.int .i64 z) := HRW.out.cell (i := 10) (by omega)
  have c27 := unfit_any W y m d (hT.on HB.out)
  rw [hu] at c27
  have c68 := fun W' => isZone_any W' z
  unfold mv
  unfold dv at c27
  have HR : Hid _ := hR
  clear hR hu
  have c43 := fun W' hO' => unfitT_any W' 0 0 0 0 p hO'
  rw [hTN] at c43
  unfold t5 at c43
  clear hTN
  have hn0 : (p == 0) = false := by simpa using hne
  have hn1 : ¬ (p = 0) := hne
  have hTT : ((TN != -1) = true ∧ TN ≠ -1) ∨ ((TN != -1) = false ∧ TN = -1) := by
    by_cases h0 : TN = -1
    · exact .inr ⟨by simpa using h0, h0⟩
    · exact .inl ⟨by simpa using h0, h0⟩
  have hzz : ((decide (-720 ≤ z) && decide (z ≤ 840)) = true ∧ (-720 ≤ z ∧ z ≤ 840)) ∨ ((decide (-720 ≤ z) && decide (z ≤ 840)) = false ∧ ¬ (-720 ≤ z ∧ z ≤ 840)) := by
    by_cases h0 : -720 ≤ z ∧ z ≤ 840
    · exact .inl ⟨by simpa using h0, h0⟩
    · exact .inr ⟨by simpa using h0, h0⟩
  generalize (decide (-720 ≤ z) && decide (z ≤ 840)) = ZB at *
  rcases hzz with ⟨rfl, hz⟩ | ⟨rfl, hz⟩
  all_goals
    rcases hTT with ⟨hTI, hTT⟩ | ⟨hTI, hTT⟩
    all_goals
      have HP : Hid _ := And.intro hz hTT
      clear hz hTT
      go_enter Tryz.func17, Tryz.ntmps17
      go_wp2_with (go_at_call 40; refine Stop.mk ?_)
      refine Stop.out (c27.mono ?_)
      rintro e W2 ⟨rfl, hb2⟩
      have hR2 := row_on HRW.out hb2
      have HR2 : Hid _ := hR2
      have HB2 : Hid (Below w.heap.size w W2) := HB.out.trans (hb2.mono HB.out.size)
      have u0 : W2.cell? ⟨w.heap.size, 0, none⟩ = some (.int .i64 y) := hR2.cell (i := 0) (by omega)
      have u1 : W2.cell? ⟨w.heap.size, 1, none⟩ = some (.int .i64 m) := hR2.cell (i := 1) (by omega)
      have u2 : W2.cell? ⟨w.heap.size, 2, none⟩ = some (.int .i64 d) := hR2.cell (i := 2) (by omega)
      have u3 : W2.cell? ⟨w.heap.size, 3, none⟩ = some (.int .i64 3) := hR2.cell (i := 3) (by omega)
      have u4 : W2.cell? ⟨w.heap.size, 4, none⟩ = some (.int .i64 0) := hR2.cell (i := 4) (by omega)
      have u5 : W2.cell? ⟨w.heap.size, 5, none⟩ = some (.int .i64 0) := hR2.cell (i := 5) (by omega)
      have u6 : W2.cell? ⟨w.heap.size, 6, none⟩ = some (.int .i64 0) := hR2.cell (i := 6) (by omega)
      have u7 : W2.cell? ⟨w.heap.size, 7, none⟩ = some (.int .i64 0) := hR2.cell (i := 7) (by omega)
      have u8 : W2.cell? ⟨w.heap.size, 8, none⟩ = some (.int .i64 p) := hR2.cell (i := 8) (by omega)
      have u9 : W2.cell? ⟨w.heap.size, 9, none⟩ = some (.bool true) := hR2.cell (i := 9) (by omega)
      have u10 : W2.cell? ⟨w.heap.size, 10, none⟩ = some (.int .i64 z) := hR2.cell (i := 10) (by omega)
      have c43' := c43 W2 (hO.on (HB.out.trans (hb2.mono HB.out.size)))
      clear hb2 hR2 c27 c43
      go_wp2_with (go_at_call 14; refine Stop.mk ?_)
      refine Stop.out (c43'.mono ?_)
      rintro e W5 ⟨rfl, hb5⟩
      have R5 := row_on HR2.out hb5
      have HB5 : Hid (Below w.heap.size w W5) := HB2.out.trans (hb5.mono HB2.out.size)
      have v9 : W5.cell? ⟨w.heap.size, 9, none⟩ = some (.bool true) := R5.cell (i := 9) (by omega)
      have v10 : W5.cell? ⟨w.heap.size, 10, none⟩ = some (.int .i64 z) := R5.cell (i := 10) (by omega)
      clear hb5 R5
      go_wp2_with (first | (go_at_call 41; refine (c68 _).mono ?_; rintro e w' ⟨rfl, rfl⟩))
      go_ret
      refine ⟨?_, HB5.out⟩
      rw [← HR.out]
      have hP := HP.out
      (repeat first | rw [if_pos (by omega)] | rw [if_neg (by omega)])
      rfl

set_option maxRecDepth 100000 in
set_option maxHeartbeats 1000000 in
theorem unfitM3_z_true (w : World) (y m d : Int) (z : Int) (hT : Mt w) (hu : uf y m d = -1) (R : Int) (hR : (if ¬ (-720 ≤ z ∧ z ≤ 840) then 4 else -1) = R) : Calls Tryz.prog 17 #[mv y m d 3 0 0 0 0 0 true z] w fun e w' => e = .returned (.int .i64 R) ∧ Below w.heap.size w w' := by
  obtain ⟨W, hW⟩ : ∃ W, w.alloc (.cells #[.int .i64 y, .int .i64 m, .int .i64 d, .int .i64 3, .int .i64 0, .int .i64 0, .int .i64 0, .int .i64 0, .int .i64 0, .bool true, .int .i64 z] 35) = W := ⟨_, rfl⟩
  have HB : Hid (Below w.heap.size w W) := hW ▸ (Below.refl _ _).alloc (Nat.le_refl _) _
  have HRW : Hid (W.rowIs w.heap.size 35 11 (mf y m d 3 0 0 0 0 0 true z)) := by
    show W.rowIs _ _ _ _
    rw [← hW]; exact World.rowIs_alloc w _ 35 _ (row_lit _)
  have q0 : W.cell? ⟨w.heap.size, 0, none⟩ = some (.int .i64 y) := HRW.out.cell (i := 0) (by omega)
  have q1 : W.cell? ⟨w.heap.size, 1, none⟩ = some (.int .i64 m) := HRW.out.cell (i := 1) (by omega)
  have q2 : W.cell? ⟨w.heap.size, 2, none⟩ = some (.int .i64 d) := HRW.out.cell (i := 2) (by omega)
  have q3 : W.cell? ⟨w.heap.size, 3, none⟩ = some (.int .i64 3) := HRW.out.cell (i := 3) (by omega)
  have q4 : W.cell? ⟨w.heap.size, 4, none⟩ = some (.int .i64 0) := HRW.out.cell (i := 4) (by omega)
  have q5 : W.cell? ⟨w.heap.size, 5, none⟩ = some (.int .i64 0) := HRW.out.cell (i := 5) (by omega)
  have q6 : W.cell? ⟨w.heap.size, 6, none⟩ = some (.int .i64 0) := HRW.out.cell (i := 6) (by omega)
  have q7 : W.cell? ⟨w.heap.size, 7, none⟩ = some (.int .i64 0) := HRW.out.cell (i := 7) (by omega)
  have q8 : W.cell? ⟨w.heap.size, 8, none⟩ = some (.int .i64 0) := HRW.out.cell (i := 8) (by omega)
  have q9 : W.cell? ⟨w.heap.size, 9, none⟩ = some (.bool true) := HRW.out.cell (i := 9) (by omega)
  have q10 : W.cell? ⟨w.heap.size, 10, none⟩ = some (.int .i64 z) := HRW.out.cell (i := 10) (by omega)
  have c27 := unfit_any W y m d (hT.on HB.out)
  rw [hu] at c27
  have c68 := fun W' => isZone_any W' z
  unfold mv
  unfold dv at c27
  have HR : Hid _ := hR
  clear hR hu
  have hzz : ((decide (-720 ≤ z) && decide (z ≤ 840)) = true ∧ (-720 ≤ z ∧ z ≤ 840)) ∨ ((decide (-720 ≤ z) && decide (z ≤ 840)) = false ∧ ¬ (-720 ≤ z ∧ z ≤ 840)) := by
    by_cases h0 : -720 ≤ z ∧ z ≤ 840
    · exact .inl ⟨by simpa using h0, h0⟩
    · exact .inr ⟨by simpa using h0, h0⟩
  generalize (decide (-720 ≤ z) && decide (z ≤ 840)) = ZB at *
  rcases hzz with ⟨rfl, hz⟩ | ⟨rfl, hz⟩
  all_goals
    have HP : Hid _ := And.intro hz trivial
    clear hz
    go_enter Tryz.func17, Tryz.ntmps17
    go_wp2_with (go_at_call 40; refine Stop.mk ?_)
    refine Stop.out (c27.mono ?_)
    rintro e W2 ⟨rfl, hb2⟩
    have hR2 := row_on HRW.out hb2
    have HR2 : Hid _ := hR2
    have HB2 : Hid (Below w.heap.size w W2) := HB.out.trans (hb2.mono HB.out.size)
    have u0 : W2.cell? ⟨w.heap.size, 0, none⟩ = some (.int .i64 y) := hR2.cell (i := 0) (by omega)
    have u1 : W2.cell? ⟨w.heap.size, 1, none⟩ = some (.int .i64 m) := hR2.cell (i := 1) (by omega)
    have u2 : W2.cell? ⟨w.heap.size, 2, none⟩ = some (.int .i64 d) := hR2.cell (i := 2) (by omega)
    have u3 : W2.cell? ⟨w.heap.size, 3, none⟩ = some (.int .i64 3) := hR2.cell (i := 3) (by omega)
    have u4 : W2.cell? ⟨w.heap.size, 4, none⟩ = some (.int .i64 0) := hR2.cell (i := 4) (by omega)
    have u5 : W2.cell? ⟨w.heap.size, 5, none⟩ = some (.int .i64 0) := hR2.cell (i := 5) (by omega)
    have u6 : W2.cell? ⟨w.heap.size, 6, none⟩ = some (.int .i64 0) := hR2.cell (i := 6) (by omega)
    have u7 : W2.cell? ⟨w.heap.size, 7, none⟩ = some (.int .i64 0) := hR2.cell (i := 7) (by omega)
    have u8 : W2.cell? ⟨w.heap.size, 8, none⟩ = some (.int .i64 0) := hR2.cell (i := 8) (by omega)
    have u9 : W2.cell? ⟨w.heap.size, 9, none⟩ = some (.bool true) := hR2.cell (i := 9) (by omega)
    have u10 : W2.cell? ⟨w.heap.size, 10, none⟩ = some (.int .i64 z) := hR2.cell (i := 10) (by omega)
    clear hb2 hR2 c27
    go_wp2_with (first | (go_at_call 41; refine (c68 _).mono ?_; rintro e w' ⟨rfl, rfl⟩))
    go_ret
    refine ⟨?_, HB2.out⟩
    rw [← HR.out]
    have hP := HP.out
    (repeat first | rw [if_pos (by omega)] | rw [if_neg (by omega)])
    rfl

theorem unfitM3_true (w : World) (y m d h mi sc mc p : Int) (z : Int) (hT : Mt w) (hO : Ot w) (hu : uf y m d = -1) (TN : Int) (hTN : tN h mi sc mc p = TN) (R : Int) (hR : (if ¬ (h = 0 ∧ mi = 0 ∧ sc = 0 ∧ mc = 0 ∧ p = 0) ∧ TN ≠ -1 then 2 else if ¬ (-720 ≤ z ∧ z ≤ 840) then 4 else -1) = R) : Calls Tryz.prog 17 #[mv y m d 3 h mi sc mc p true z] w fun e w' => e = .returned (.int .i64 R) ∧ Below w.heap.size w w' := by
  have key : ¬ (h = 0 ∧ mi = 0 ∧ sc = 0 ∧ mc = 0 ∧ p = 0) → (if TN ≠ -1 then 2 else if ¬ (-720 ≤ z ∧ z ≤ 840) then 4 else -1) = R := fun hn => by
    rw [← hR]
    by_cases h0 : TN ≠ -1
    · rw [if_pos h0, if_pos ⟨hn, h0⟩]
    · rw [if_neg h0, if_neg (show ¬ (¬ (h = 0 ∧ mi = 0 ∧ sc = 0 ∧ mc = 0 ∧ p = 0) ∧ TN ≠ -1) from fun h => h0 h.2)]
  by_cases h0 : h = 0
  · by_cases h1 : mi = 0
    · by_cases h2 : sc = 0
      · by_cases h3 : mc = 0
        · by_cases h4 : p = 0
          · subst h0 h1 h2 h3 h4
            refine unfitM3_z_true w y m d z hT hu R ?_
            rw [← hR, if_neg (show ¬ (¬ ((0 : Int) = 0 ∧ (0 : Int) = 0 ∧ (0 : Int) = 0 ∧ (0 : Int) = 0 ∧ (0 : Int) = 0) ∧ TN ≠ -1) from fun h => h.1 ⟨rfl, rfl, rfl, rfl, rfl⟩)]
          · have hk := key (by omega)
            subst h0 h1 h2 h3
            exact unfitM3_n4_true w y m d p z hT hO hu TN hTN h4 R hk
        · have hk := key (by omega)
          subst h0 h1 h2
          exact unfitM3_n3_true w y m d mc p z hT hO hu TN hTN h3 R hk
      · have hk := key (by omega)
        subst h0 h1
        exact unfitM3_n2_true w y m d sc mc p z hT hO hu TN hTN h2 R hk
    · have hk := key (by omega)
      subst h0
      exact unfitM3_n1_true w y m d mi sc mc p z hT hO hu TN hTN h1 R hk
  · have hk := key (by omega)
    exact unfitM3_n0_true w y m d h mi sc mc p z hT hO hu TN hTN h0 R hk

set_option maxRecDepth 100000 in
set_option maxHeartbeats 1000000 in
theorem unfitM3_n0_false (w : World) (y m d : Int) (h mi sc mc p : Int) (z : Int) (hT : Mt w) (hO : Ot w) (hu : uf y m d = -1) (TN : Int) (hTN : tN h mi sc mc p = TN) (hne : h ≠ 0) (R : Int) (hR : (if TN ≠ -1 then 2 else if z ≠ 0 then 4 else -1) = R) : Calls Tryz.prog 17 #[mv y m d 3 h mi sc mc p false z] w fun e w' => e = .returned (.int .i64 R) ∧ Below w.heap.size w w' := by
  obtain ⟨W, hW⟩ : ∃ W, w.alloc (.cells #[.int .i64 y, .int .i64 m, .int .i64 d, .int .i64 3, .int .i64 h, .int .i64 mi, .int .i64 sc, .int .i64 mc, .int .i64 p, .bool false, .int .i64 z] 35) = W := ⟨_, rfl⟩
  have HB : Hid (Below w.heap.size w W) := hW ▸ (Below.refl _ _).alloc (Nat.le_refl _) _
  have HRW : Hid (W.rowIs w.heap.size 35 11 (mf y m d 3 h mi sc mc p false z)) := by
    show W.rowIs _ _ _ _
    rw [← hW]; exact World.rowIs_alloc w _ 35 _ (row_lit _)
  have q0 : W.cell? ⟨w.heap.size, 0, none⟩ = some (.int .i64 y) := HRW.out.cell (i := 0) (by omega)
  have q1 : W.cell? ⟨w.heap.size, 1, none⟩ = some (.int .i64 m) := HRW.out.cell (i := 1) (by omega)
  have q2 : W.cell? ⟨w.heap.size, 2, none⟩ = some (.int .i64 d) := HRW.out.cell (i := 2) (by omega)
  have q3 : W.cell? ⟨w.heap.size, 3, none⟩ = some (.int .i64 3) := HRW.out.cell (i := 3) (by omega)
  have q4 : W.cell? ⟨w.heap.size, 4, none⟩ = some (.int .i64 h) := HRW.out.cell (i := 4) (by omega)
  have q5 : W.cell? ⟨w.heap.size, 5, none⟩ = some (.int .i64 mi) := HRW.out.cell (i := 5) (by omega)
  have q6 : W.cell? ⟨w.heap.size, 6, none⟩ = some (.int .i64 sc) := HRW.out.cell (i := 6) (by omega)
  have q7 : W.cell? ⟨w.heap.size, 7, none⟩ = some (.int .i64 mc) := HRW.out.cell (i := 7) (by omega)
  have q8 : W.cell? ⟨w.heap.size, 8, none⟩ = some (.int .i64 p) := HRW.out.cell (i := 8) (by omega)
  have q9 : W.cell? ⟨w.heap.size, 9, none⟩ = some (.bool false) := HRW.out.cell (i := 9) (by omega)
  have q10 : W.cell? ⟨w.heap.size, 10, none⟩ = some (.int .i64 z) := HRW.out.cell (i := 10) (by omega)
  have c27 := unfit_any W y m d (hT.on HB.out)
  rw [hu] at c27
  have c68 := fun W' => isZone_any W' z
  unfold mv
  unfold dv at c27
  have HR : Hid _ := hR
  clear hR hu
  have c43 := fun W' hO' => unfitT_any W' h mi sc mc p hO'
  rw [hTN] at c43
  unfold t5 at c43
  clear hTN
  have hn0 : (h == 0) = false := by simpa using hne
  have hn1 : ¬ (h = 0) := hne
  have hTT : ((TN != -1) = true ∧ TN ≠ -1) ∨ ((TN != -1) = false ∧ TN = -1) := by
    by_cases h0 : TN = -1
    · exact .inr ⟨by simpa using h0, h0⟩
    · exact .inl ⟨by simpa using h0, h0⟩
  have hzz : ((z != 0) = false ∧ z = 0) ∨ ((z != 0) = true ∧ z ≠ 0) := by
    by_cases h0 : z = 0
    · exact .inl ⟨by simpa using h0, h0⟩
    · exact .inr ⟨by simpa using h0, h0⟩
  rcases hzz with ⟨hz0, hz⟩ | ⟨hz0, hz⟩
  all_goals
    rcases hTT with ⟨hTI, hTT⟩ | ⟨hTI, hTT⟩
    all_goals
      have HP : Hid _ := And.intro hz hTT
      clear hz hTT
      go_enter Tryz.func17, Tryz.ntmps17
      go_wp2_with (go_at_call 40; refine Stop.mk ?_)
      refine Stop.out (c27.mono ?_)
      rintro e W2 ⟨rfl, hb2⟩
      have hR2 := row_on HRW.out hb2
      have HR2 : Hid _ := hR2
      have HB2 : Hid (Below w.heap.size w W2) := HB.out.trans (hb2.mono HB.out.size)
      have u0 : W2.cell? ⟨w.heap.size, 0, none⟩ = some (.int .i64 y) := hR2.cell (i := 0) (by omega)
      have u1 : W2.cell? ⟨w.heap.size, 1, none⟩ = some (.int .i64 m) := hR2.cell (i := 1) (by omega)
      have u2 : W2.cell? ⟨w.heap.size, 2, none⟩ = some (.int .i64 d) := hR2.cell (i := 2) (by omega)
      have u3 : W2.cell? ⟨w.heap.size, 3, none⟩ = some (.int .i64 3) := hR2.cell (i := 3) (by omega)
      have u4 : W2.cell? ⟨w.heap.size, 4, none⟩ = some (.int .i64 h) := hR2.cell (i := 4) (by omega)
      have u5 : W2.cell? ⟨w.heap.size, 5, none⟩ = some (.int .i64 mi) := hR2.cell (i := 5) (by omega)
      have u6 : W2.cell? ⟨w.heap.size, 6, none⟩ = some (.int .i64 sc) := hR2.cell (i := 6) (by omega)
      have u7 : W2.cell? ⟨w.heap.size, 7, none⟩ = some (.int .i64 mc) := hR2.cell (i := 7) (by omega)
      have u8 : W2.cell? ⟨w.heap.size, 8, none⟩ = some (.int .i64 p) := hR2.cell (i := 8) (by omega)
      have u9 : W2.cell? ⟨w.heap.size, 9, none⟩ = some (.bool false) := hR2.cell (i := 9) (by omega)
      have u10 : W2.cell? ⟨w.heap.size, 10, none⟩ = some (.int .i64 z) := hR2.cell (i := 10) (by omega)
      have c43' := c43 W2 (hO.on (HB.out.trans (hb2.mono HB.out.size)))
      clear hb2 hR2 c27 c43
      go_wp2_with (go_at_call 14; refine Stop.mk ?_)
      refine Stop.out (c43'.mono ?_)
      rintro e W5 ⟨rfl, hb5⟩
      have R5 := row_on HR2.out hb5
      have HB5 : Hid (Below w.heap.size w W5) := HB2.out.trans (hb5.mono HB2.out.size)
      have v9 : W5.cell? ⟨w.heap.size, 9, none⟩ = some (.bool false) := R5.cell (i := 9) (by omega)
      have v10 : W5.cell? ⟨w.heap.size, 10, none⟩ = some (.int .i64 z) := R5.cell (i := 10) (by omega)
      clear hb5 R5
      go_wp2_with (first | (go_at_call 41; refine (c68 _).mono ?_; rintro e w' ⟨rfl, rfl⟩))
      go_ret
      refine ⟨?_, HB5.out⟩
      rw [← HR.out]
      have hP := HP.out
      (repeat first | rw [if_pos (by omega)] | rw [if_neg (by omega)])
      rfl

set_option maxRecDepth 100000 in
set_option maxHeartbeats 1000000 in
theorem unfitM3_n1_false (w : World) (y m d : Int) (mi sc mc p : Int) (z : Int) (hT : Mt w) (hO : Ot w) (hu : uf y m d = -1) (TN : Int) (hTN : tN 0 mi sc mc p = TN) (hne : mi ≠ 0) (R : Int) (hR : (if TN ≠ -1 then 2 else if z ≠ 0 then 4 else -1) = R) : Calls Tryz.prog 17 #[mv y m d 3 0 mi sc mc p false z] w fun e w' => e = .returned (.int .i64 R) ∧ Below w.heap.size w w' := by
  obtain ⟨W, hW⟩ : ∃ W, w.alloc (.cells #[.int .i64 y, .int .i64 m, .int .i64 d, .int .i64 3, .int .i64 0, .int .i64 mi, .int .i64 sc, .int .i64 mc, .int .i64 p, .bool false, .int .i64 z] 35) = W := ⟨_, rfl⟩
  have HB : Hid (Below w.heap.size w W) := hW ▸ (Below.refl _ _).alloc (Nat.le_refl _) _
  have HRW : Hid (W.rowIs w.heap.size 35 11 (mf y m d 3 0 mi sc mc p false z)) := by
    show W.rowIs _ _ _ _
    rw [← hW]; exact World.rowIs_alloc w _ 35 _ (row_lit _)
  have q0 : W.cell? ⟨w.heap.size, 0, none⟩ = some (.int .i64 y) := HRW.out.cell (i := 0) (by omega)
  have q1 : W.cell? ⟨w.heap.size, 1, none⟩ = some (.int .i64 m) := HRW.out.cell (i := 1) (by omega)
  have q2 : W.cell? ⟨w.heap.size, 2, none⟩ = some (.int .i64 d) := HRW.out.cell (i := 2) (by omega)
  have q3 : W.cell? ⟨w.heap.size, 3, none⟩ = some (.int .i64 3) := HRW.out.cell (i := 3) (by omega)
  have q4 : W.cell? ⟨w.heap.size, 4, none⟩ = some (.int .i64 0) := HRW.out.cell (i := 4) (by omega)
  have q5 : W.cell? ⟨w.heap.size, 5, none⟩ = some (.int .i64 mi) := HRW.out.cell (i := 5) (by omega)
  have q6 : W.cell? ⟨w.heap.size, 6, none⟩ = some (.int .i64 sc) := HRW.out.cell (i := 6) (by omega)
  have q7 : W.cell? ⟨w.heap.size, 7, none⟩ = some (.int .i64 mc) := HRW.out.cell (i := 7) (by omega)
  have q8 : W.cell? ⟨w.heap.size, 8, none⟩ = some (.int .i64 p) := HRW.out.cell (i := 8) (by omega)
  have q9 : W.cell? ⟨w.heap.size, 9, none⟩ = some (.bool false) := HRW.out.cell (i := 9) (by omega)
  have q10 : W.cell? ⟨w.heap.size, 10, none⟩ = some (.int .i64 z) := HRW.out.cell (i := 10) (by omega)
  have c27 := unfit_any W y m d (hT.on HB.out)
  rw [hu] at c27
  have c68 := fun W' => isZone_any W' z
  unfold mv
  unfold dv at c27
  have HR : Hid _ := hR
  clear hR hu
  have c43 := fun W' hO' => unfitT_any W' 0 mi sc mc p hO'
  rw [hTN] at c43
  unfold t5 at c43
  clear hTN
  have hn0 : (mi == 0) = false := by simpa using hne
  have hn1 : ¬ (mi = 0) := hne
  have hTT : ((TN != -1) = true ∧ TN ≠ -1) ∨ ((TN != -1) = false ∧ TN = -1) := by
    by_cases h0 : TN = -1
    · exact .inr ⟨by simpa using h0, h0⟩
    · exact .inl ⟨by simpa using h0, h0⟩
  have hzz : ((z != 0) = false ∧ z = 0) ∨ ((z != 0) = true ∧ z ≠ 0) := by
    by_cases h0 : z = 0
    · exact .inl ⟨by simpa using h0, h0⟩
    · exact .inr ⟨by simpa using h0, h0⟩
  rcases hzz with ⟨hz0, hz⟩ | ⟨hz0, hz⟩
  all_goals
    rcases hTT with ⟨hTI, hTT⟩ | ⟨hTI, hTT⟩
    all_goals
      have HP : Hid _ := And.intro hz hTT
      clear hz hTT
      go_enter Tryz.func17, Tryz.ntmps17
      go_wp2_with (go_at_call 40; refine Stop.mk ?_)
      refine Stop.out (c27.mono ?_)
      rintro e W2 ⟨rfl, hb2⟩
      have hR2 := row_on HRW.out hb2
      have HR2 : Hid _ := hR2
      have HB2 : Hid (Below w.heap.size w W2) := HB.out.trans (hb2.mono HB.out.size)
      have u0 : W2.cell? ⟨w.heap.size, 0, none⟩ = some (.int .i64 y) := hR2.cell (i := 0) (by omega)
      have u1 : W2.cell? ⟨w.heap.size, 1, none⟩ = some (.int .i64 m) := hR2.cell (i := 1) (by omega)
      have u2 : W2.cell? ⟨w.heap.size, 2, none⟩ = some (.int .i64 d) := hR2.cell (i := 2) (by omega)
      have u3 : W2.cell? ⟨w.heap.size, 3, none⟩ = some (.int .i64 3) := hR2.cell (i := 3) (by omega)
      have u4 : W2.cell? ⟨w.heap.size, 4, none⟩ = some (.int .i64 0) := hR2.cell (i := 4) (by omega)
      have u5 : W2.cell? ⟨w.heap.size, 5, none⟩ = some (.int .i64 mi) := hR2.cell (i := 5) (by omega)
      have u6 : W2.cell? ⟨w.heap.size, 6, none⟩ = some (.int .i64 sc) := hR2.cell (i := 6) (by omega)
      have u7 : W2.cell? ⟨w.heap.size, 7, none⟩ = some (.int .i64 mc) := hR2.cell (i := 7) (by omega)
      have u8 : W2.cell? ⟨w.heap.size, 8, none⟩ = some (.int .i64 p) := hR2.cell (i := 8) (by omega)
      have u9 : W2.cell? ⟨w.heap.size, 9, none⟩ = some (.bool false) := hR2.cell (i := 9) (by omega)
      have u10 : W2.cell? ⟨w.heap.size, 10, none⟩ = some (.int .i64 z) := hR2.cell (i := 10) (by omega)
      have c43' := c43 W2 (hO.on (HB.out.trans (hb2.mono HB.out.size)))
      clear hb2 hR2 c27 c43
      go_wp2_with (go_at_call 14; refine Stop.mk ?_)
      refine Stop.out (c43'.mono ?_)
      rintro e W5 ⟨rfl, hb5⟩
      have R5 := row_on HR2.out hb5
      have HB5 : Hid (Below w.heap.size w W5) := HB2.out.trans (hb5.mono HB2.out.size)
      have v9 : W5.cell? ⟨w.heap.size, 9, none⟩ = some (.bool false) := R5.cell (i := 9) (by omega)
      have v10 : W5.cell? ⟨w.heap.size, 10, none⟩ = some (.int .i64 z) := R5.cell (i := 10) (by omega)
      clear hb5 R5
      go_wp2_with (first | (go_at_call 41; refine (c68 _).mono ?_; rintro e w' ⟨rfl, rfl⟩))
      go_ret
      refine ⟨?_, HB5.out⟩
      rw [← HR.out]
      have hP := HP.out
      (repeat first | rw [if_pos (by omega)] | rw [if_neg (by omega)])
      rfl

set_option maxRecDepth 100000 in
set_option maxHeartbeats 1000000 in
theorem unfitM3_n2_false (w : World) (y m d : Int) (sc mc p : Int) (z : Int) (hT : Mt w) (hO : Ot w) (hu : uf y m d = -1) (TN : Int) (hTN : tN 0 0 sc mc p = TN) (hne : sc ≠ 0) (R : Int) (hR : (if TN ≠ -1 then 2 else if z ≠ 0 then 4 else -1) = R) : Calls Tryz.prog 17 #[mv y m d 3 0 0 sc mc p false z] w fun e w' => e = .returned (.int .i64 R) ∧ Below w.heap.size w w' := by
  obtain ⟨W, hW⟩ : ∃ W, w.alloc (.cells #[.int .i64 y, .int .i64 m, .int .i64 d, .int .i64 3, .int .i64 0, .int .i64 0, .int .i64 sc, .int .i64 mc, .int .i64 p, .bool false, .int .i64 z] 35) = W := ⟨_, rfl⟩
  have HB : Hid (Below w.heap.size w W) := hW ▸ (Below.refl _ _).alloc (Nat.le_refl _) _
  have HRW : Hid (W.rowIs w.heap.size 35 11 (mf y m d 3 0 0 sc mc p false z)) := by
    show W.rowIs _ _ _ _
    rw [← hW]; exact World.rowIs_alloc w _ 35 _ (row_lit _)
  have q0 : W.cell? ⟨w.heap.size, 0, none⟩ = some (.int .i64 y) := HRW.out.cell (i := 0) (by omega)
  have q1 : W.cell? ⟨w.heap.size, 1, none⟩ = some (.int .i64 m) := HRW.out.cell (i := 1) (by omega)
  have q2 : W.cell? ⟨w.heap.size, 2, none⟩ = some (.int .i64 d) := HRW.out.cell (i := 2) (by omega)
  have q3 : W.cell? ⟨w.heap.size, 3, none⟩ = some (.int .i64 3) := HRW.out.cell (i := 3) (by omega)
  have q4 : W.cell? ⟨w.heap.size, 4, none⟩ = some (.int .i64 0) := HRW.out.cell (i := 4) (by omega)
  have q5 : W.cell? ⟨w.heap.size, 5, none⟩ = some (.int .i64 0) := HRW.out.cell (i := 5) (by omega)
  have q6 : W.cell? ⟨w.heap.size, 6, none⟩ = some (.int .i64 sc) := HRW.out.cell (i := 6) (by omega)
  have q7 : W.cell? ⟨w.heap.size, 7, none⟩ = some (.int .i64 mc) := HRW.out.cell (i := 7) (by omega)
  have q8 : W.cell? ⟨w.heap.size, 8, none⟩ = some (.int .i64 p) := HRW.out.cell (i := 8) (by omega)
  have q9 : W.cell? ⟨w.heap.size, 9, none⟩ = some (.bool false) := HRW.out.cell (i := 9) (by omega)
  have q10 : W.cell? ⟨w.heap.size, 10, none⟩ = some (.int .i64 z) := HRW.out.cell (i := 10) (by omega)
  have c27 := unfit_any W y m d (hT.on HB.out)
  rw [hu] at c27
  have c68 := fun W' => isZone_any W' z
  unfold mv
  unfold dv at c27
  have HR : Hid _ := hR
  clear hR hu
  have c43 := fun W' hO' => unfitT_any W' 0 0 sc mc p hO'
  rw [hTN] at c43
  unfold t5 at c43
  clear hTN
  have hn0 : (sc == 0) = false := by simpa using hne
  have hn1 : ¬ (sc = 0) := hne
  have hTT : ((TN != -1) = true ∧ TN ≠ -1) ∨ ((TN != -1) = false ∧ TN = -1) := by
    by_cases h0 : TN = -1
    · exact .inr ⟨by simpa using h0, h0⟩
    · exact .inl ⟨by simpa using h0, h0⟩
  have hzz : ((z != 0) = false ∧ z = 0) ∨ ((z != 0) = true ∧ z ≠ 0) := by
    by_cases h0 : z = 0
    · exact .inl ⟨by simpa using h0, h0⟩
    · exact .inr ⟨by simpa using h0, h0⟩
  rcases hzz with ⟨hz0, hz⟩ | ⟨hz0, hz⟩
  all_goals
    rcases hTT with ⟨hTI, hTT⟩ | ⟨hTI, hTT⟩
    all_goals
      have HP : Hid _ := And.intro hz hTT
      clear hz hTT
      go_enter Tryz.func17, Tryz.ntmps17
      go_wp2_with (go_at_call 40; refine Stop.mk ?_)
      refine Stop.out (c27.mono ?_)
      rintro e W2 ⟨rfl, hb2⟩
      have hR2 := row_on HRW.out hb2
      have HR2 : Hid _ := hR2
      have HB2 : Hid (Below w.heap.size w W2) := HB.out.trans (hb2.mono HB.out.size)
      have u0 : W2.cell? ⟨w.heap.size, 0, none⟩ = some (.int .i64 y) := hR2.cell (i := 0) (by omega)
      have u1 : W2.cell? ⟨w.heap.size, 1, none⟩ = some (.int .i64 m) := hR2.cell (i := 1) (by omega)
      have u2 : W2.cell? ⟨w.heap.size, 2, none⟩ = some (.int .i64 d) := hR2.cell (i := 2) (by omega)
      have u3 : W2.cell? ⟨w.heap.size, 3, none⟩ = some (.int .i64 3) := hR2.cell (i := 3) (by omega)
      have u4 : W2.cell? ⟨w.heap.size, 4, none⟩ = some (.int .i64 0) := hR2.cell (i := 4) (by omega)
      have u5 : W2.cell? ⟨w.heap.size, 5, none⟩ = some (.int .i64 0) := hR2.cell (i := 5) (by omega)
      have u6 : W2.cell? ⟨w.heap.size, 6, none⟩ = some (.int .i64 sc) := hR2.cell (i := 6) (by omega)
      have u7 : W2.cell? ⟨w.heap.size, 7, none⟩ = some (.int .i64 mc) := hR2.cell (i := 7) (by omega)
      have u8 : W2.cell? ⟨w.heap.size, 8, none⟩ = some (.int .i64 p) := hR2.cell (i := 8) (by omega)
      have u9 : W2.cell? ⟨w.heap.size, 9, none⟩ = some (.bool false) := hR2.cell (i := 9) (by omega)
      have u10 : W2.cell? ⟨w.heap.size, 10, none⟩ = some (.int .i64 z) := hR2.cell (i := 10) (by omega)
      have c43' := c43 W2 (hO.on (HB.out.trans (hb2.mono HB.out.size)))
      clear hb2 hR2 c27 c43
      go_wp2_with (go_at_call 14; refine Stop.mk ?_)
      refine Stop.out (c43'.mono ?_)
      rintro e W5 ⟨rfl, hb5⟩
      have R5 := row_on HR2.out hb5
      have HB5 : Hid (Below w.heap.size w W5) := HB2.out.trans (hb5.mono HB2.out.size)
      have v9 : W5.cell? ⟨w.heap.size, 9, none⟩ = some (.bool false) := R5.cell (i := 9) (by omega)
      have v10 : W5.cell? ⟨w.heap.size, 10, none⟩ = some (.int .i64 z) := R5.cell (i := 10) (by omega)
      clear hb5 R5
      go_wp2_with (first | (go_at_call 41; refine (c68 _).mono ?_; rintro e w' ⟨rfl, rfl⟩))
      go_ret
      refine ⟨?_, HB5.out⟩
      rw [← HR.out]
      have hP := HP.out
      (repeat first | rw [if_pos (by omega)] | rw [if_neg (by omega)])
      rfl

set_option maxRecDepth 100000 in
set_option maxHeartbeats 1000000 in
theorem unfitM3_n3_false (w : World) (y m d : Int) (mc p : Int) (z : Int) (hT : Mt w) (hO : Ot w) (hu : uf y m d = -1) (TN : Int) (hTN : tN 0 0 0 mc p = TN) (hne : mc ≠ 0) (R : Int) (hR : (if TN ≠ -1 then 2 else if z ≠ 0 then 4 else -1) = R) : Calls Tryz.prog 17 #[mv y m d 3 0 0 0 mc p false z] w fun e w' => e = .returned (.int .i64 R) ∧ Below w.heap.size w w' := by
  obtain ⟨W, hW⟩ : ∃ W, w.alloc (.cells #[.int .i64 y, .int .i64 m, .int .i64 d, .int .i64 3, .int .i64 0, .int .i64 0, .int .i64 0, .int .i64 mc, .int .i64 p, .bool false, .int .i64 z] 35) = W := ⟨_, rfl⟩
  have HB : Hid (Below w.heap.size w W) := hW ▸ (Below.refl _ _).alloc (Nat.le_refl _) _
  have HRW : Hid (W.rowIs w.heap.size 35 11 (mf y m d 3 0 0 0 mc p false z)) := by
    show W.rowIs _ _ _ _
    rw [← hW]; exact World.rowIs_alloc w _ 35 _ (row_lit _)
  have q0 : W.cell? ⟨w.heap.size, 0, none⟩ = some (.int .i64 y) := HRW.out.cell (i := 0) (by omega)
  have q1 : W.cell? ⟨w.heap.size, 1, none⟩ = some (.int .i64 m) := HRW.out.cell (i := 1) (by omega)
  have q2 : W.cell? ⟨w.heap.size, 2, none⟩ = some (.int .i64 d) := HRW.out.cell (i := 2) (by omega)
  have q3 : W.cell? ⟨w.heap.size, 3, none⟩ = some (.int .i64 3) := HRW.out.cell (i := 3) (by omega)
  have q4 : W.cell? ⟨w.heap.size, 4, none⟩ = some (.int .i64 0) := HRW.out.cell (i := 4) (by omega)
  have q5 : W.cell? ⟨w.heap.size, 5, none⟩ = some (.int .i64 0) := HRW.out.cell (i := 5) (by omega)
  have q6 : W.cell? ⟨w.heap.size, 6, none⟩ = some (.int .i64 0) := HRW.out.cell (i := 6) (by omega)
  have q7 : W.cell? ⟨w.heap.size, 7, none⟩ = some (.int .i64 mc) := HRW.out.cell (i := 7) (by omega)
  have q8 : W.cell? ⟨w.heap.size, 8, none⟩ = some (.int .i64 p) := HRW.out.cell (i := 8) (by omega)
  have q9 : W.cell? ⟨w.heap.size, 9, none⟩ = some (.bool false) := HRW.out.cell (i := 9) (by omega)
  have q10 : W.cell? ⟨w.heap.size, 10, none⟩ = some (.int .i64 z) := HRW.out.cell (i := 10) (by omega)
  have c27 := unfit_any W y m d (hT.on HB.out)
  rw [hu] at c27
  have c68 := fun W' => isZone_any W' z
  unfold mv
  unfold dv at c27
  have HR : Hid _ := hR
  clear hR hu
  have c43 := fun W' hO' => unfitT_any W' 0 0 0 mc p hO'
  rw [hTN] at c43
  unfold t5 at c43
  clear hTN
  have hn0 : (mc == 0) = false := by simpa using hne
  have hn1 : ¬ (mc = 0) := hne
  have hTT : ((TN != -1) = true ∧ TN ≠ -1) ∨ ((TN != -1) = false ∧ TN = -1) := by
    by_cases h0 : TN = -1
    · exact .inr ⟨by simpa using h0, h0⟩
    · exact .inl ⟨by simpa using h0, h0⟩
  have hzz : ((z != 0) = false ∧ z = 0) ∨ ((z != 0) = true ∧ z ≠ 0) := by
    by_cases h0 : z = 0
    · exact .inl ⟨by simpa using h0, h0⟩
    · exact .inr ⟨by simpa using h0, h0⟩
  rcases hzz with ⟨hz0, hz⟩ | ⟨hz0, hz⟩
  all_goals
    rcases hTT with ⟨hTI, hTT⟩ | ⟨hTI, hTT⟩
    all_goals
      have HP : Hid _ := And.intro hz hTT
      clear hz hTT
      go_enter Tryz.func17, Tryz.ntmps17
      go_wp2_with (go_at_call 40; refine Stop.mk ?_)
      refine Stop.out (c27.mono ?_)
      rintro e W2 ⟨rfl, hb2⟩
      have hR2 := row_on HRW.out hb2
      have HR2 : Hid _ := hR2
      have HB2 : Hid (Below w.heap.size w W2) := HB.out.trans (hb2.mono HB.out.size)
      have u0 : W2.cell? ⟨w.heap.size, 0, none⟩ = some (.int .i64 y) := hR2.cell (i := 0) (by omega)
      have u1 : W2.cell? ⟨w.heap.size, 1, none⟩ = some (.int .i64 m) := hR2.cell (i := 1) (by omega)
      have u2 : W2.cell? ⟨w.heap.size, 2, none⟩ = some (.int .i64 d) := hR2.cell (i := 2) (by omega)
      have u3 : W2.cell? ⟨w.heap.size, 3, none⟩ = some (.int .i64 3) := hR2.cell (i := 3) (by omega)
      have u4 : W2.cell? ⟨w.heap.size, 4, none⟩ = some (.int .i64 0) := hR2.cell (i := 4) (by omega)
      have u5 : W2.cell? ⟨w.heap.size, 5, none⟩ = some (.int .i64 0) := hR2.cell (i := 5) (by omega)
      have u6 : W2.cell? ⟨w.heap.size, 6, none⟩ = some (.int .i64 0) := hR2.cell (i := 6) (by omega)
      have u7 : W2.cell? ⟨w.heap.size, 7, none⟩ = some (.int .i64 mc) := hR2.cell (i := 7) (by omega)
      have u8 : W2.cell? ⟨w.heap.size, 8, none⟩ = some (.int .i64 p) := hR2.cell (i := 8) (by omega)
      have u9 : W2.cell? ⟨w.heap.size, 9, none⟩ = some (.bool false) := hR2.cell (i := 9) (by omega)
      have u10 : W2.cell? ⟨w.heap.size, 10, none⟩ = some (.int .i64 z) := hR2.cell (i := 10) (by omega)
      have c43' := c43 W2 (hO.on (HB.out.trans (hb2.mono HB.out.size)))
      clear hb2 hR2 c27 c43
      go_wp2_with (go_at_call 14; refine Stop.mk ?_)
      refine Stop.out (c43'.mono ?_)
      rintro e W5 ⟨rfl, hb5⟩
      have R5 := row_on HR2.out hb5
      have HB5 : Hid (Below w.heap.size w W5) := HB2.out.trans (hb5.mono HB2.out.size)
      have v9 : W5.cell? ⟨w.heap.size, 9, none⟩ = some (.bool false) := R5.cell (i := 9) (by omega)
      have v10 : W5.cell? ⟨w.heap.size, 10, none⟩ = some (.int .i64 z) := R5.cell (i := 10) (by omega)
      clear hb5 R5
      go_wp2_with (first | (go_at_call 41; refine (c68 _).mono ?_; rintro e w' ⟨rfl, rfl⟩))
      go_ret
      refine ⟨?_, HB5.out⟩
      rw [← HR.out]
      have hP := HP.out
      (repeat first | rw [if_pos (by omega)] | rw [if_neg (by omega)])
      rfl

set_option maxRecDepth 100000 in
set_option maxHeartbeats 1000000 in
theorem unfitM3_n4_false (w : World) (y m d : Int) (p : Int) (z : Int) (hT : Mt w) (hO : Ot w) (hu : uf y m d = -1) (TN : Int) (hTN : tN 0 0 0 0 p = TN) (hne : p ≠ 0) (R : Int) (hR : (if TN ≠ -1 then 2 else if z ≠ 0 then 4 else -1) = R) : Calls Tryz.prog 17 #[mv y m d 3 0 0 0 0 p false z] w fun e w' => e = .returned (.int .i64 R) ∧ Below w.heap.size w w' := by
  obtain ⟨W, hW⟩ : ∃ W, w.alloc (.cells #[.int .i64 y, .int .i64 m, .int .i64 d, .int .i64 3, .int .i64 0, .int .i64 0, .int .i64 0, .int .i64 0, .int .i64 p, .bool false, .int .i64 z] 35) = W := ⟨_, rfl⟩
  have HB : Hid (Below w.heap.size w W) := hW ▸ (Below.refl _ _).alloc (Nat.le_refl _) _
  have HRW : Hid (W.rowIs w.heap.size 35 11 (mf y m d 3 0 0 0 0 p false z)) := by
    show W.rowIs _ _ _ _
    rw [← hW]; exact World.rowIs_alloc w _ 35 _ (row_lit _)
  have q0 : W.cell? ⟨w.heap.size, 0, none⟩ = some (.int .i64 y) := HRW.out.cell (i := 0) (by omega)
  have q1 : W.cell? ⟨w.heap.size, 1, none⟩ = some (.int .i64 m) := HRW.out.cell (i := 1) (by omega)
  have q2 : W.cell? ⟨w.heap.size, 2, none⟩ = some (.int .i64 d) := HRW.out.cell (i := 2) (by omega)
  have q3 : W.cell? ⟨w.heap.size, 3, none⟩ = some (.int .i64 3) := HRW.out.cell (i := 3) (by omega)
  have q4 : W.cell? ⟨w.heap.size, 4, none⟩ = some (.int .i64 0) := HRW.out.cell (i := 4) (by omega)
  have q5 : W.cell? ⟨w.heap.size, 5, none⟩ = some (.int .i64 0) := HRW.out.cell (i := 5) (by omega)
  have q6 : W.cell? ⟨w.heap.size, 6, none⟩ = some (.int .i64 0) := HRW.out.cell (i := 6) (by omega)
  have q7 : W.cell? ⟨w.heap.size, 7, none⟩ = some (.int .i64 0) := HRW.out.cell (i := 7) (by omega)
  have q8 : W.cell? ⟨w.heap.size, 8, none⟩ = some (.int .i64 p) := HRW.out.cell (i := 8) (by omega)
  have q9 : W.cell? ⟨w.heap.size, 9, none⟩ = some (.bool false) := HRW.out.cell (i := 9) (by omega)
  have q10 : W.cell? ⟨w.heap.size, 10, none⟩ = some (.int .i64 z) := HRW.out.cell (i := 10) (by omega)
  have c27 := unfit_any W y m d (hT.on HB.out)
  rw [hu] at c27
  have c68 := fun W' => isZone_any W' z
  unfold mv
  unfold dv at c27
  have HR : Hid _ := hR
  clear hR hu
  have c43 := fun W' hO' => unfitT_any W' 0 0 0 0 p hO'
  rw [hTN] at c43
  unfold t5 at c43
  clear hTN
  have hn0 : (p == 0) = false := by simpa using hne
  have hn1 : ¬ (p = 0) := hne
  have hTT : ((TN != -1) = true ∧ TN ≠ -1) ∨ ((TN != -1) = false ∧ TN = -1) := by
    by_cases h0 : TN = -1
    · exact .inr ⟨by simpa using h0, h0⟩
    · exact .inl ⟨by simpa using h0, h0⟩
  have hzz : ((z != 0) = false ∧ z = 0) ∨ ((z != 0) = true ∧ z ≠ 0) := by
    by_cases h0 : z = 0
    · exact .inl ⟨by simpa using h0, h0⟩
    · exact .inr ⟨by simpa using h0, h0⟩
  rcases hzz with ⟨hz0, hz⟩ | ⟨hz0, hz⟩
  all_goals
    rcases hTT with ⟨hTI, hTT⟩ | ⟨hTI, hTT⟩
    all_goals
      have HP : Hid _ := And.intro hz hTT
      clear hz hTT
      go_enter Tryz.func17, Tryz.ntmps17
      go_wp2_with (go_at_call 40; refine Stop.mk ?_)
      refine Stop.out (c27.mono ?_)
      rintro e W2 ⟨rfl, hb2⟩
      have hR2 := row_on HRW.out hb2
      have HR2 : Hid _ := hR2
      have HB2 : Hid (Below w.heap.size w W2) := HB.out.trans (hb2.mono HB.out.size)
      have u0 : W2.cell? ⟨w.heap.size, 0, none⟩ = some (.int .i64 y) := hR2.cell (i := 0) (by omega)
      have u1 : W2.cell? ⟨w.heap.size, 1, none⟩ = some (.int .i64 m) := hR2.cell (i := 1) (by omega)
      have u2 : W2.cell? ⟨w.heap.size, 2, none⟩ = some (.int .i64 d) := hR2.cell (i := 2) (by omega)
      have u3 : W2.cell? ⟨w.heap.size, 3, none⟩ = some (.int .i64 3) := hR2.cell (i := 3) (by omega)
      have u4 : W2.cell? ⟨w.heap.size, 4, none⟩ = some (.int .i64 0) := hR2.cell (i := 4) (by omega)
      have u5 : W2.cell? ⟨w.heap.size, 5, none⟩ = some (.int .i64 0) := hR2.cell (i := 5) (by omega)
      have u6 : W2.cell? ⟨w.heap.size, 6, none⟩ = some (.int .i64 0) := hR2.cell (i := 6) (by omega)
      have u7 : W2.cell? ⟨w.heap.size, 7, none⟩ = some (.int .i64 0) := hR2.cell (i := 7) (by omega)
      have u8 : W2.cell? ⟨w.heap.size, 8, none⟩ = some (.int .i64 p) := hR2.cell (i := 8) (by omega)
      have u9 : W2.cell? ⟨w.heap.size, 9, none⟩ = some (.bool false) := hR2.cell (i := 9) (by omega)
      have u10 : W2.cell? ⟨w.heap.size, 10, none⟩ = some (.int .i64 z) := hR2.cell (i := 10) (by omega)
      have c43' := c43 W2 (hO.on (HB.out.trans (hb2.mono HB.out.size)))
      clear hb2 hR2 c27 c43
      go_wp2_with (go_at_call 14; refine Stop.mk ?_)
      refine Stop.out (c43'.mono ?_)
      rintro e W5 ⟨rfl, hb5⟩
      have R5 := row_on HR2.out hb5
      have HB5 : Hid (Below w.heap.size w W5) := HB2.out.trans (hb5.mono HB2.out.size)
      have v9 : W5.cell? ⟨w.heap.size, 9, none⟩ = some (.bool false) := R5.cell (i := 9) (by omega)
      have v10 : W5.cell? ⟨w.heap.size, 10, none⟩ = some (.int .i64 z) := R5.cell (i := 10) (by omega)
      clear hb5 R5
      go_wp2_with (first | (go_at_call 41; refine (c68 _).mono ?_; rintro e w' ⟨rfl, rfl⟩))
      go_ret
      refine ⟨?_, HB5.out⟩
      rw [← HR.out]
      have hP := HP.out
      (repeat first | rw [if_pos (by omega)] | rw [if_neg (by omega)])
      rfl

set_option maxRecDepth 100000 in
set_option maxHeartbeats 1000000 in
theorem unfitM3_z_false (w : World) (y m d : Int) (z : Int) (hT : Mt w) (hu : uf y m d = -1) (R : Int) (hR : (if z ≠ 0 then 4 else -1) = R) : Calls Tryz.prog 17 #[mv y m d 3 0 0 0 0 0 false z] w fun e w' => e = .returned (.int .i64 R) ∧ Below w.heap.size w w' := by
  obtain ⟨W, hW⟩ : ∃ W, w.alloc (.cells #[.int .i64 y, .int .i64 m, .int .i64 d, .int .i64 3, .int .i64 0, .int .i64 0, .int .i64 0, .int .i64 0, .int .i64 0, .bool false, .int .i64 z] 35) = W := ⟨_, rfl⟩
  have HB : Hid (Below w.heap.size w W) := hW ▸ (Below.refl _ _).alloc (Nat.le_refl _) _
  have HRW : Hid (W.rowIs w.heap.size 35 11 (mf y m d 3 0 0 0 0 0 false z)) := by
    show W.rowIs _ _ _ _
    rw [← hW]; exact World.rowIs_alloc w _ 35 _ (row_lit _)
  have q0 : W.cell? ⟨w.heap.size, 0, none⟩ = some (.int .i64 y) := HRW.out.cell (i := 0) (by omega)
  have q1 : W.cell? ⟨w.heap.size, 1, none⟩ = some (.int .i64 m) := HRW.out.cell (i := 1) (by omega)
  have q2 : W.cell? ⟨w.heap.size, 2, none⟩ = some (.int .i64 d) := HRW.out.cell (i := 2) (by omega)
  have q3 : W.cell? ⟨w.heap.size, 3, none⟩ = some (.int .i64 3) := HRW.out.cell (i := 3) (by omega)
  have q4 : W.cell? ⟨w.heap.size, 4, none⟩ = some (.int .i64 0) := HRW.out.cell (i := 4) (by omega)
  have q5 : W.cell? ⟨w.heap.size, 5, none⟩ = some (.int .i64 0) := HRW.out.cell (i := 5) (by omega)
  have q6 : W.cell? ⟨w.heap.size, 6, none⟩ = some (.int .i64 0) := HRW.out.cell (i := 6) (by omega)
  have q7 : W.cell? ⟨w.heap.size, 7, none⟩ = some (.int .i64 0) := HRW.out.cell (i := 7) (by omega)
  have q8 : W.cell? ⟨w.heap.size, 8, none⟩ = some (.int .i64 0) := HRW.out.cell (i := 8) (by omega)
  have q9 : W.cell? ⟨w.heap.size, 9, none⟩ = some (.bool false) := HRW.out.cell (i := 9) (by omega)
  have q10 : W.cell? ⟨w.heap.size, 10, none⟩ = some (.int .i64 z) := HRW.out.cell (i := 10) (by omega)
  have c27 := unfit_any W y m d (hT.on HB.out)
  rw [hu] at c27
  have c68 := fun W' => isZone_any W' z
  unfold mv
  unfold dv at c27
  have HR : Hid _ := hR
  clear hR hu
  have hzz : ((z != 0) = false ∧ z = 0) ∨ ((z != 0) = true ∧ z ≠ 0) := by
    by_cases h0 : z = 0
    · exact .inl ⟨by simpa using h0, h0⟩
    · exact .inr ⟨by simpa using h0, h0⟩
  rcases hzz with ⟨hz0, hz⟩ | ⟨hz0, hz⟩
  all_goals
    have HP : Hid _ := And.intro hz trivial
    clear hz
    go_enter Tryz.func17, Tryz.ntmps17
    go_wp2_with (go_at_call 40; refine Stop.mk ?_)
    refine Stop.out (c27.mono ?_)
    rintro e W2 ⟨rfl, hb2⟩
    have hR2 := row_on HRW.out hb2
    have HR2 : Hid _ := hR2
    have HB2 : Hid (Below w.heap.size w W2) := HB.out.trans (hb2.mono HB.out.size)
    have u0 : W2.cell? ⟨w.heap.size, 0, none⟩ = some (.int .i64 y) := hR2.cell (i := 0) (by omega)
    have u1 : W2.cell? ⟨w.heap.size, 1, none⟩ = some (.int .i64 m) := hR2.cell (i := 1) (by omega)
    have u2 : W2.cell? ⟨w.heap.size, 2, none⟩ = some (.int .i64 d) := hR2.cell (i := 2) (by omega)
    have u3 : W2.cell? ⟨w.heap.size, 3, none⟩ = some (.int .i64 3) := hR2.cell (i := 3) (by omega)
    have u4 : W2.cell? ⟨w.heap.size, 4, none⟩ = some (.int .i64 0) := hR2.cell (i := 4) (by omega)
    have u5 : W2.cell? ⟨w.heap.size, 5, none⟩ = some (.int .i64 0) := hR2.cell (i := 5) (by omega)
    have u6 : W2.cell? ⟨w.heap.size, 6, none⟩ = some (.int .i64 0) := hR2.cell (i := 6) (by omega)
    have u7 : W2.cell? ⟨w.heap.size, 7, none⟩ = some (.int .i64 0) := hR2.cell (i := 7) (by omega)
    have u8 : W2.cell? ⟨w.heap.size, 8, none⟩ = some (.int .i64 0) := hR2.cell (i := 8) (by omega)
    have u9 : W2.cell? ⟨w.heap.size, 9, none⟩ = some (.bool false) := hR2.cell (i := 9) (by omega)
    have u10 : W2.cell? ⟨w.heap.size, 10, none⟩ = some (.int .i64 z) := hR2.cell (i := 10) (by omega)
    clear hb2 hR2 c27
    go_wp2_with (first | (go_at_call 41; refine (c68 _).mono ?_; rintro e w' ⟨rfl, rfl⟩))
    go_ret
    refine ⟨?_, HB2.out⟩
    rw [← HR.out]
    have hP := HP.out
    (repeat first | rw [if_pos (by omega)] | rw [if_neg (by omega)])
    rfl

theorem unfitM3_false (w : World) (y m d h mi sc mc p : Int) (z : Int) (hT : Mt w) (hO : Ot w) (hu : uf y m d = -1) (TN : Int) (hTN : tN h mi sc mc p = TN) (R : Int) (hR : (if ¬ (h = 0 ∧ mi = 0 ∧ sc = 0 ∧ mc = 0 ∧ p = 0) ∧ TN ≠ -1 then 2 else if z ≠ 0 then 4 else -1) = R) : Calls Tryz.prog 17 #[mv y m d 3 h mi sc mc p false z] w fun e w' => e = .returned (.int .i64 R) ∧ Below w.heap.size w w' := by
  have key : ¬ (h = 0 ∧ mi = 0 ∧ sc = 0 ∧ mc = 0 ∧ p = 0) → (if TN ≠ -1 then 2 else if z ≠ 0 then 4 else -1) = R := fun hn => by
    rw [← hR]
    by_cases h0 : TN ≠ -1
    · rw [if_pos h0, if_pos ⟨hn, h0⟩]
    · rw [if_neg h0, if_neg (show ¬ (¬ (h = 0 ∧ mi = 0 ∧ sc = 0 ∧ mc = 0 ∧ p = 0) ∧ TN ≠ -1) from fun h => h0 h.2)]
  by_cases h0 : h = 0
  · by_cases h1 : mi = 0
    · by_cases h2 : sc = 0
      · by_cases h3 : mc = 0
        · by_cases h4 : p = 0
          · subst h0 h1 h2 h3 h4
            refine unfitM3_z_false w y m d z hT hu R ?_
            rw [← hR, if_neg (show ¬ (¬ ((0 : Int) = 0 ∧ (0 : Int) = 0 ∧ (0 : Int) = 0 ∧ (0 : Int) = 0 ∧ (0 : Int) = 0) ∧ TN ≠ -1) from fun h => h.1 ⟨rfl, rfl, rfl, rfl, rfl⟩)]
          · have hk := key (by omega)
            subst h0 h1 h2 h3
            exact unfitM3_n4_false w y m d p z hT hO hu TN hTN h4 R hk
        · have hk := key (by omega)
          subst h0 h1 h2
          exact unfitM3_n3_false w y m d mc p z hT hO hu TN hTN h3 R hk
      · have hk := key (by omega)
        subst h0 h1
        exact unfitM3_n2_false w y m d sc mc p z hT hO hu TN hTN h2 R hk
    · have hk := key (by omega)
      subst h0
      exact unfitM3_n1_false w y m d mi sc mc p z hT hO hu TN hTN h1 R hk
  · have hk := key (by omega)
    exact unfitM3_n0_false w y m d h mi sc mc p z hT hO hu TN hTN h0 R hk

set_option maxRecDepth 100000 in
set_option maxHeartbeats 2000000 in
theorem unfitMa (w : World) (y m d h mi sc mc p : Int) (zd : Bool) (z : Int) (hT : Mt w) (hu : uf y m d = -1) (hm : m ≠ 1) : Calls Tryz.prog 17 #[mv y m d 1 h mi sc mc p zd z] w fun e w' => e = .returned (.int .i64 0) ∧ Below w.heap.size w w' := by
  obtain ⟨W, hW⟩ : ∃ W, w.alloc (.cells #[.int .i64 y, .int .i64 m, .int .i64 d, .int .i64 1, .int .i64 h, .int .i64 mi, .int .i64 sc, .int .i64 mc, .int .i64 p, .bool zd, .int .i64 z] 35) = W := ⟨_, rfl⟩
  have HB : Hid (Below w.heap.size w W) := hW ▸ (Below.refl _ _).alloc (Nat.le_refl _) _
  have HRW : Hid (W.rowIs w.heap.size 35 11 (mf y m d 1 h mi sc mc p zd z)) := by
    show W.rowIs _ _ _ _
    rw [← hW]; exact World.rowIs_alloc w _ 35 _ (row_lit _)
  have q0 : W.cell? ⟨w.heap.size, 0, none⟩ = some (.int .i64 y) := HRW.out.cell (i := 0) (by omega)
  have q1 : W.cell? ⟨w.heap.size, 1, none⟩ = some (.int .i64 m) := HRW.out.cell (i := 1) (by omega)
  have q2 : W.cell? ⟨w.heap.size, 2, none⟩ = some (.int .i64 d) := HRW.out.cell (i := 2) (by omega)
  have q3 : W.cell? ⟨w.heap.size, 3, none⟩ = some (.int .i64 1) := HRW.out.cell (i := 3) (by omega)
  have q4 : W.cell? ⟨w.heap.size, 4, none⟩ = some (.int .i64 h) := HRW.out.cell (i := 4) (by omega)
  have q5 : W.cell? ⟨w.heap.size, 5, none⟩ = some (.int .i64 mi) := HRW.out.cell (i := 5) (by omega)
  have q6 : W.cell? ⟨w.heap.size, 6, none⟩ = some (.int .i64 sc) := HRW.out.cell (i := 6) (by omega)
  have q7 : W.cell? ⟨w.heap.size, 7, none⟩ = some (.int .i64 mc) := HRW.out.cell (i := 7) (by omega)
  have q8 : W.cell? ⟨w.heap.size, 8, none⟩ = some (.int .i64 p) := HRW.out.cell (i := 8) (by omega)
  have q9 : W.cell? ⟨w.heap.size, 9, none⟩ = some (.bool zd) := HRW.out.cell (i := 9) (by omega)
  have q10 : W.cell? ⟨w.heap.size, 10, none⟩ = some (.int .i64 z) := HRW.out.cell (i := 10) (by omega)
  have c27 := unfit_any W y m d (hT.on HB.out)
  rw [hu] at c27
  unfold mv
  unfold dv at c27
  clear hu
  have hm0 : (m != 1) = true := by simpa using hm
  clear hm
  go_enter Tryz.func17, Tryz.ntmps17
  go_wp2_with (go_at_call 40; refine Stop.mk ?_)
  refine Stop.out (c27.mono ?_)
  rintro e W2 ⟨rfl, hb2⟩
  have hR2 := row_on HRW.out hb2
  have u0 : W2.cell? ⟨w.heap.size, 0, none⟩ = some (.int .i64 y) := hR2.cell (i := 0) (by omega)
  have u1 : W2.cell? ⟨w.heap.size, 1, none⟩ = some (.int .i64 m) := hR2.cell (i := 1) (by omega)
  have u2 : W2.cell? ⟨w.heap.size, 2, none⟩ = some (.int .i64 d) := hR2.cell (i := 2) (by omega)
  have u3 : W2.cell? ⟨w.heap.size, 3, none⟩ = some (.int .i64 1) := hR2.cell (i := 3) (by omega)
  have u4 : W2.cell? ⟨w.heap.size, 4, none⟩ = some (.int .i64 h) := hR2.cell (i := 4) (by omega)
  have u5 : W2.cell? ⟨w.heap.size, 5, none⟩ = some (.int .i64 mi) := hR2.cell (i := 5) (by omega)
  have u6 : W2.cell? ⟨w.heap.size, 6, none⟩ = some (.int .i64 sc) := hR2.cell (i := 6) (by omega)
  have u7 : W2.cell? ⟨w.heap.size, 7, none⟩ = some (.int .i64 mc) := hR2.cell (i := 7) (by omega)
  have u8 : W2.cell? ⟨w.heap.size, 8, none⟩ = some (.int .i64 p) := hR2.cell (i := 8) (by omega)
  have u9 : W2.cell? ⟨w.heap.size, 9, none⟩ = some (.bool zd) := hR2.cell (i := 9) (by omega)
  have u10 : W2.cell? ⟨w.heap.size, 10, none⟩ = some (.int .i64 z) := hR2.cell (i := 10) (by omega)
  have HB2 : Hid (Below w.heap.size w W2) := HB.out.trans (hb2.mono HB.out.size)
  clear hb2 c27 hR2
  go_wp2
  go_ret
  exact ⟨rfl, HB2.out⟩

set_option maxRecDepth 100000 in
set_option maxHeartbeats 2000000 in
theorem unfitMb (w : World) (y m d h mi sc mc p : Int) (zd : Bool) (z : Int) (hT : Mt w) (hu : uf y m d = -1) (hm : m = 1) (hd : d ≠ 1) : Calls Tryz.prog 17 #[mv y m d 1 h mi sc mc p zd z] w fun e w' => e = .returned (.int .i64 0) ∧ Below w.heap.size w w' := by
  obtain ⟨W, hW⟩ : ∃ W, w.alloc (.cells #[.int .i64 y, .int .i64 m, .int .i64 d, .int .i64 1, .int .i64 h, .int .i64 mi, .int .i64 sc, .int .i64 mc, .int .i64 p, .bool zd, .int .i64 z] 35) = W := ⟨_, rfl⟩
  have HB : Hid (Below w.heap.size w W) := hW ▸ (Below.refl _ _).alloc (Nat.le_refl _) _
  have HRW : Hid (W.rowIs w.heap.size 35 11 (mf y m d 1 h mi sc mc p zd z)) := by
    show W.rowIs _ _ _ _
    rw [← hW]; exact World.rowIs_alloc w _ 35 _ (row_lit _)
  have q0 : W.cell? ⟨w.heap.size, 0, none⟩ = some (.int .i64 y) := HRW.out.cell (i := 0) (by omega)
  have q1 : W.cell? ⟨w.heap.size, 1, none⟩ = some (.int .i64 m) := HRW.out.cell (i := 1) (by omega)
  have q2 : W.cell? ⟨w.heap.size, 2, none⟩ = some (.int .i64 d) := HRW.out.cell (i := 2) (by omega)
  have q3 : W.cell? ⟨w.heap.size, 3, none⟩ = some (.int .i64 1) := HRW.out.cell (i := 3) (by omega)
  have q4 : W.cell? ⟨w.heap.size, 4, none⟩ = some (.int .i64 h) := HRW.out.cell (i := 4) (by omega)
  have q5 : W.cell? ⟨w.heap.size, 5, none⟩ = some (.int .i64 mi) := HRW.out.cell (i := 5) (by omega)
  have q6 : W.cell? ⟨w.heap.size, 6, none⟩ = some (.int .i64 sc) := HRW.out.cell (i := 6) (by omega)
  have q7 : W.cell? ⟨w.heap.size, 7, none⟩ = some (.int .i64 mc) := HRW.out.cell (i := 7) (by omega)
  have q8 : W.cell? ⟨w.heap.size, 8, none⟩ = some (.int .i64 p) := HRW.out.cell (i := 8) (by omega)
  have q9 : W.cell? ⟨w.heap.size, 9, none⟩ = some (.bool zd) := HRW.out.cell (i := 9) (by omega)
  have q10 : W.cell? ⟨w.heap.size, 10, none⟩ = some (.int .i64 z) := HRW.out.cell (i := 10) (by omega)
  have c27 := unfit_any W y m d (hT.on HB.out)
  rw [hu] at c27
  unfold mv
  unfold dv at c27
  clear hu
  have hm0 : (m != 1) = false := by simpa using hm
  have hd0 : (d != 1) = true := by simpa using hd
  clear hm hd
  go_enter Tryz.func17, Tryz.ntmps17
  go_wp2_with (go_at_call 40; refine Stop.mk ?_)
  refine Stop.out (c27.mono ?_)
  rintro e W2 ⟨rfl, hb2⟩
  have hR2 := row_on HRW.out hb2
  have u0 : W2.cell? ⟨w.heap.size, 0, none⟩ = some (.int .i64 y) := hR2.cell (i := 0) (by omega)
  have u1 : W2.cell? ⟨w.heap.size, 1, none⟩ = some (.int .i64 m) := hR2.cell (i := 1) (by omega)
  have u2 : W2.cell? ⟨w.heap.size, 2, none⟩ = some (.int .i64 d) := hR2.cell (i := 2) (by omega)
  have u3 : W2.cell? ⟨w.heap.size, 3, none⟩ = some (.int .i64 1) := hR2.cell (i := 3) (by omega)
  have u4 : W2.cell? ⟨w.heap.size, 4, none⟩ = some (.int .i64 h) := hR2.cell (i := 4) (by omega)
  have u5 : W2.cell? ⟨w.heap.size, 5, none⟩ = some (.int .i64 mi) := hR2.cell (i := 5) (by omega)
  have u6 : W2.cell? ⟨w.heap.size, 6, none⟩ = some (.int .i64 sc) := hR2.cell (i := 6) (by omega)
  have u7 : W2.cell? ⟨w.heap.size, 7, none⟩ = some (.int .i64 mc) := hR2.cell (i := 7) (by omega)
  have u8 : W2.cell? ⟨w.heap.size, 8, none⟩ = some (.int .i64 p) := hR2.cell (i := 8) (by omega)
  have u9 : W2.cell? ⟨w.heap.size, 9, none⟩ = some (.bool zd) := hR2.cell (i := 9) (by omega)
  have u10 : W2.cell? ⟨w.heap.size, 10, none⟩ = some (.int .i64 z) := hR2.cell (i := 10) (by omega)
  have HB2 : Hid (Below w.heap.size w W2) := HB.out.trans (hb2.mono HB.out.size)
  clear hb2 c27 hR2
  go_wp2
  go_ret
  exact ⟨rfl, HB2.out⟩

set_option maxRecDepth 100000 in
set_option maxHeartbeats 2000000 in
theorem unfitMc (w : World) (y m d h mi sc mc p : Int) (zd : Bool) (z : Int) (hT : Mt w) (hu : uf y m d = -1) (hd : d ≠ 1) : Calls Tryz.prog 17 #[mv y m d 2 h mi sc mc p zd z] w fun e w' => e = .returned (.int .i64 0) ∧ Below w.heap.size w w' := by
  obtain ⟨W, hW⟩ : ∃ W, w.alloc (.cells #[.int .i64 y, .int .i64 m, .int .i64 d, .int .i64 2, .int .i64 h, .int .i64 mi, .int .i64 sc, .int .i64 mc, .int .i64 p, .bool zd, .int .i64 z] 35) = W := ⟨_, rfl⟩
  have HB : Hid (Below w.heap.size w W) := hW ▸ (Below.refl _ _).alloc (Nat.le_refl _) _
  have HRW : Hid (W.rowIs w.heap.size 35 11 (mf y m d 2 h mi sc mc p zd z)) := by
    show W.rowIs _ _ _ _
    rw [← hW]; exact World.rowIs_alloc w _ 35 _ (row_lit _)
  have q0 : W.cell? ⟨w.heap.size, 0, none⟩ = some (.int .i64 y) := HRW.out.cell (i := 0) (by omega)
  have q1 : W.cell? ⟨w.heap.size, 1, none⟩ = some (.int .i64 m) := HRW.out.cell (i := 1) (by omega)
  have q2 : W.cell? ⟨w.heap.size, 2, none⟩ = some (.int .i64 d) := HRW.out.cell (i := 2) (by omega)
  have q3 : W.cell? ⟨w.heap.size, 3, none⟩ = some (.int .i64 2) := HRW.out.cell (i := 3) (by omega)
  have q4 : W.cell? ⟨w.heap.size, 4, none⟩ = some (.int .i64 h) := HRW.out.cell (i := 4) (by omega)
  have q5 : W.cell? ⟨w.heap.size, 5, none⟩ = some (.int .i64 mi) := HRW.out.cell (i := 5) (by omega)
  have q6 : W.cell? ⟨w.heap.size, 6, none⟩ = some (.int .i64 sc) := HRW.out.cell (i := 6) (by omega)
  have q7 : W.cell? ⟨w.heap.size, 7, none⟩ = some (.int .i64 mc) := HRW.out.cell (i := 7) (by omega)
  have q8 : W.cell? ⟨w.heap.size, 8, none⟩ = some (.int .i64 p) := HRW.out.cell (i := 8) (by omega)
  have q9 : W.cell? ⟨w.heap.size, 9, none⟩ = some (.bool zd) := HRW.out.cell (i := 9) (by omega)
  have q10 : W.cell? ⟨w.heap.size, 10, none⟩ = some (.int .i64 z) := HRW.out.cell (i := 10) (by omega)
  have c27 := unfit_any W y m d (hT.on HB.out)
  rw [hu] at c27
  unfold mv
  unfold dv at c27
  clear hu
  have hd0 : (d != 1) = true := by simpa using hd
  clear hd
  go_enter Tryz.func17, Tryz.ntmps17
  go_wp2_with (go_at_call 40; refine Stop.mk ?_)
  refine Stop.out (c27.mono ?_)
  rintro e W2 ⟨rfl, hb2⟩
  have hR2 := row_on HRW.out hb2
  have u0 : W2.cell? ⟨w.heap.size, 0, none⟩ = some (.int .i64 y) := hR2.cell (i := 0) (by omega)
  have u1 : W2.cell? ⟨w.heap.size, 1, none⟩ = some (.int .i64 m) := hR2.cell (i := 1) (by omega)
  have u2 : W2.cell? ⟨w.heap.size, 2, none⟩ = some (.int .i64 d) := hR2.cell (i := 2) (by omega)
  have u3 : W2.cell? ⟨w.heap.size, 3, none⟩ = some (.int .i64 2) := hR2.cell (i := 3) (by omega)
  have u4 : W2.cell? ⟨w.heap.size, 4, none⟩ = some (.int .i64 h) := hR2.cell (i := 4) (by omega)
  have u5 : W2.cell? ⟨w.heap.size, 5, none⟩ = some (.int .i64 mi) := hR2.cell (i := 5) (by omega)
  have u6 : W2.cell? ⟨w.heap.size, 6, none⟩ = some (.int .i64 sc) := hR2.cell (i := 6) (by omega)
  have u7 : W2.cell? ⟨w.heap.size, 7, none⟩ = some (.int .i64 mc) := hR2.cell (i := 7) (by omega)
  have u8 : W2.cell? ⟨w.heap.size, 8, none⟩ = some (.int .i64 p) := hR2.cell (i := 8) (by omega)
  have u9 : W2.cell? ⟨w.heap.size, 9, none⟩ = some (.bool zd) := hR2.cell (i := 9) (by omega)
  have u10 : W2.cell? ⟨w.heap.size, 10, none⟩ = some (.int .i64 z) := hR2.cell (i := 10) (by omega)
  have HB2 : Hid (Below w.heap.size w W2) := HB.out.trans (hb2.mono HB.out.size)
  clear hb2 c27 hR2
  go_wp2
  go_ret
  exact ⟨rfl, HB2.out⟩

set_option maxRecDepth 100000 in
set_option maxHeartbeats 2000000 in
theorem unfitMd (w : World) (y m d dp h mi sc mc p : Int) (zd : Bool) (z : Int) (hT : Mt w) (hu : uf y m d = -1) (hdp : dp < 1) : Calls Tryz.prog 17 #[mv y m d dp h mi sc mc p zd z] w fun e w' => e = .returned (.int .i64 1) ∧ Below w.heap.size w w' := by
  obtain ⟨W, hW⟩ : ∃ W, w.alloc (.cells #[.int .i64 y, .int .i64 m, .int .i64 d, .int .i64 dp, .int .i64 h, .int .i64 mi, .int .i64 sc, .int .i64 mc, .int .i64 p, .bool zd, .int .i64 z] 35) = W := ⟨_, rfl⟩
  have HB : Hid (Below w.heap.size w W) := hW ▸ (Below.refl _ _).alloc (Nat.le_refl _) _
  have HRW : Hid (W.rowIs w.heap.size 35 11 (mf y m d dp h mi sc mc p zd z)) := by
    show W.rowIs _ _ _ _
    rw [← hW]; exact World.rowIs_alloc w _ 35 _ (row_lit _)
  have q0 : W.cell? ⟨w.heap.size, 0, none⟩ = some (.int .i64 y) := HRW.out.cell (i := 0) (by omega)
  have q1 : W.cell? ⟨w.heap.size, 1, none⟩ = some (.int .i64 m) := HRW.out.cell (i := 1) (by omega)
  have q2 : W.cell? ⟨w.heap.size, 2, none⟩ = some (.int .i64 d) := HRW.out.cell (i := 2) (by omega)
  have q3 : W.cell? ⟨w.heap.size, 3, none⟩ = some (.int .i64 dp) := HRW.out.cell (i := 3) (by omega)
  have q4 : W.cell? ⟨w.heap.size, 4, none⟩ = some (.int .i64 h) := HRW.out.cell (i := 4) (by omega)
  have q5 : W.cell? ⟨w.heap.size, 5, none⟩ = some (.int .i64 mi) := HRW.out.cell (i := 5) (by omega)
  have q6 : W.cell? ⟨w.heap.size, 6, none⟩ = some (.int .i64 sc) := HRW.out.cell (i := 6) (by omega)
  have q7 : W.cell? ⟨w.heap.size, 7, none⟩ = some (.int .i64 mc) := HRW.out.cell (i := 7) (by omega)
  have q8 : W.cell? ⟨w.heap.size, 8, none⟩ = some (.int .i64 p) := HRW.out.cell (i := 8) (by omega)
  have q9 : W.cell? ⟨w.heap.size, 9, none⟩ = some (.bool zd) := HRW.out.cell (i := 9) (by omega)
  have q10 : W.cell? ⟨w.heap.size, 10, none⟩ = some (.int .i64 z) := HRW.out.cell (i := 10) (by omega)
  have c27 := unfit_any W y m d (hT.on HB.out)
  rw [hu] at c27
  unfold mv
  unfold dv at c27
  clear hu
  have h1 : (dp == 1) = false := by simp; omega
  have h2 : (dp == 2) = false := by simp; omega
  have h3 : decide (dp < 1) = true := by simp; omega
  clear hdp
  go_enter Tryz.func17, Tryz.ntmps17
  go_wp2_with (go_at_call 40; refine Stop.mk ?_)
  refine Stop.out (c27.mono ?_)
  rintro e W2 ⟨rfl, hb2⟩
  have hR2 := row_on HRW.out hb2
  have u0 : W2.cell? ⟨w.heap.size, 0, none⟩ = some (.int .i64 y) := hR2.cell (i := 0) (by omega)
  have u1 : W2.cell? ⟨w.heap.size, 1, none⟩ = some (.int .i64 m) := hR2.cell (i := 1) (by omega)
  have u2 : W2.cell? ⟨w.heap.size, 2, none⟩ = some (.int .i64 d) := hR2.cell (i := 2) (by omega)
  have u3 : W2.cell? ⟨w.heap.size, 3, none⟩ = some (.int .i64 dp) := hR2.cell (i := 3) (by omega)
  have u4 : W2.cell? ⟨w.heap.size, 4, none⟩ = some (.int .i64 h) := hR2.cell (i := 4) (by omega)
  have u5 : W2.cell? ⟨w.heap.size, 5, none⟩ = some (.int .i64 mi) := hR2.cell (i := 5) (by omega)
  have u6 : W2.cell? ⟨w.heap.size, 6, none⟩ = some (.int .i64 sc) := hR2.cell (i := 6) (by omega)
  have u7 : W2.cell? ⟨w.heap.size, 7, none⟩ = some (.int .i64 mc) := hR2.cell (i := 7) (by omega)
  have u8 : W2.cell? ⟨w.heap.size, 8, none⟩ = some (.int .i64 p) := hR2.cell (i := 8) (by omega)
  have u9 : W2.cell? ⟨w.heap.size, 9, none⟩ = some (.bool zd) := hR2.cell (i := 9) (by omega)
  have u10 : W2.cell? ⟨w.heap.size, 10, none⟩ = some (.int .i64 z) := hR2.cell (i := 10) (by omega)
  have HB2 : Hid (Below w.heap.size w W2) := HB.out.trans (hb2.mono HB.out.size)
  clear hb2 c27 hR2
  go_wp2
  go_ret
  exact ⟨rfl, HB2.out⟩

set_option maxRecDepth 100000 in
set_option maxHeartbeats 2000000 in
theorem unfitMe (w : World) (y m d dp h mi sc mc p : Int) (zd : Bool) (z : Int) (hT : Mt w) (hu : uf y m d = -1) (hdp : 3 < dp) : Calls Tryz.prog 17 #[mv y m d dp h mi sc mc p zd z] w fun e w' => e = .returned (.int .i64 1) ∧ Below w.heap.size w w' := by
  obtain ⟨W, hW⟩ : ∃ W, w.alloc (.cells #[.int .i64 y, .int .i64 m, .int .i64 d, .int .i64 dp, .int .i64 h, .int .i64 mi, .int .i64 sc, .int .i64 mc, .int .i64 p, .bool zd, .int .i64 z] 35) = W := ⟨_, rfl⟩
  have HB : Hid (Below w.heap.size w W) := hW ▸ (Below.refl _ _).alloc (Nat.le_refl _) _
  have HRW : Hid (W.rowIs w.heap.size 35 11 (mf y m d dp h mi sc mc p zd z)) := by
    show W.rowIs _ _ _ _
    rw [← hW]; exact World.rowIs_alloc w _ 35 _ (row_lit _)
  have q0 : W.cell? ⟨w.heap.size, 0, none⟩ = some (.int .i64 y) := HRW.out.cell (i := 0) (by omega)
  have q1 : W.cell? ⟨w.heap.size, 1, none⟩ = some (.int .i64 m) := HRW.out.cell (i := 1) (by omega)
  have q2 : W.cell? ⟨w.heap.size, 2, none⟩ = some (.int .i64 d) := HRW.out.cell (i := 2) (by omega)
  have q3 : W.cell? ⟨w.heap.size, 3, none⟩ = some (.int .i64 dp) := HRW.out.cell (i := 3) (by omega)
  have q4 : W.cell? ⟨w.heap.size, 4, none⟩ = some (.int .i64 h) := HRW.out.cell (i := 4) (by omega)
  have q5 : W.cell? ⟨w.heap.size, 5, none⟩ = some (.int .i64 mi) := HRW.out.cell (i := 5) (by omega)
  have q6 : W.cell? ⟨w.heap.size, 6, none⟩ = some (.int .i64 sc) := HRW.out.cell (i := 6) (by omega)
  have q7 : W.cell? ⟨w.heap.size, 7, none⟩ = some (.int .i64 mc) := HRW.out.cell (i := 7) (by omega)
  have q8 : W.cell? ⟨w.heap.size, 8, none⟩ = some (.int .i64 p) := HRW.out.cell (i := 8) (by omega)
  have q9 : W.cell? ⟨w.heap.size, 9, none⟩ = some (.bool zd) := HRW.out.cell (i := 9) (by omega)
  have q10 : W.cell? ⟨w.heap.size, 10, none⟩ = some (.int .i64 z) := HRW.out.cell (i := 10) (by omega)
  have c27 := unfit_any W y m d (hT.on HB.out)
  rw [hu] at c27
  unfold mv
  unfold dv at c27
  clear hu
  have h1 : (dp == 1) = false := by simp; omega
  have h2 : (dp == 2) = false := by simp; omega
  have h3 : decide (dp < 1) = false := by simp; omega
  have h4 : decide (3 < dp) = true := by simp; omega
  clear hdp
  go_enter Tryz.func17, Tryz.ntmps17
  go_wp2_with (go_at_call 40; refine Stop.mk ?_)
  refine Stop.out (c27.mono ?_)
  rintro e W2 ⟨rfl, hb2⟩
  have hR2 := row_on HRW.out hb2
  have u0 : W2.cell? ⟨w.heap.size, 0, none⟩ = some (.int .i64 y) := hR2.cell (i := 0) (by omega)
  have u1 : W2.cell? ⟨w.heap.size, 1, none⟩ = some (.int .i64 m) := hR2.cell (i := 1) (by omega)
  have u2 : W2.cell? ⟨w.heap.size, 2, none⟩ = some (.int .i64 d) := hR2.cell (i := 2) (by omega)
  have u3 : W2.cell? ⟨w.heap.size, 3, none⟩ = some (.int .i64 dp) := hR2.cell (i := 3) (by omega)
  have u4 : W2.cell? ⟨w.heap.size, 4, none⟩ = some (.int .i64 h) := hR2.cell (i := 4) (by omega)
  have u5 : W2.cell? ⟨w.heap.size, 5, none⟩ = some (.int .i64 mi) := hR2.cell (i := 5) (by omega)
  have u6 : W2.cell? ⟨w.heap.size, 6, none⟩ = some (.int .i64 sc) := hR2.cell (i := 6) (by omega)
  have u7 : W2.cell? ⟨w.heap.size, 7, none⟩ = some (.int .i64 mc) := hR2.cell (i := 7) (by omega)
  have u8 : W2.cell? ⟨w.heap.size, 8, none⟩ = some (.int .i64 p) := hR2.cell (i := 8) (by omega)
  have u9 : W2.cell? ⟨w.heap.size, 9, none⟩ = some (.bool zd) := hR2.cell (i := 9) (by omega)
  have u10 : W2.cell? ⟨w.heap.size, 10, none⟩ = some (.int .i64 z) := hR2.cell (i := 10) (by omega)
  have HB2 : Hid (Below w.heap.size w W2) := HB.out.trans (hb2.mono HB.out.size)
  clear hb2 c27 hR2
  go_wp2
  go_ret
  exact ⟨rfl, HB2.out⟩

theorem unfitM_any (w : World) (y m d dp h mi sc mc p : Int) (zd : Bool) (z : Int) (hT : Mt w) (hO : Ot w) : Calls Tryz.prog 17 #[mv y m d dp h mi sc mc p zd z] w fun e w' => e = .returned (.int .i64 (mN y m d dp h mi sc mc p zd z)) ∧ Below w.heap.size w w' := by
  unfold mN
  by_cases hu : uf y m d = -1
  · by_cases h1 : dp < 1
    · rw [if_neg (by omega), if_pos (.inl h1)]
      exact unfitMd w y m d dp h mi sc mc p zd z hT hu h1
    · by_cases h3 : 3 < dp
      · rw [if_neg (by omega), if_pos (.inr h3)]
        exact unfitMe w y m d dp h mi sc mc p zd z hT hu h3
      · have hz : ∀ (a b c : Int), (if (zd = true ∧ ¬ (-720 ≤ z ∧ z ≤ 840)) ∨ (zd = false ∧ z ≠ 0) then (4 : Int) else -1) = if zd = true then (if ¬ (-720 ≤ z ∧ z ≤ 840) then 4 else -1) else (if z ≠ 0 then 4 else -1) := fun _ _ _ => by cases zd <;> simp
        rw [hz 0 0 0]
        rcases (by omega : dp = 1 ∨ dp = 2 ∨ dp = 3) with rfl | rfl | rfl
        · by_cases hm : m = 1
          · by_cases hd : d = 1
            · rw [if_neg (by omega), if_neg (by omega)]
              cases zd with
              | true => exact unfitM1_true w y m d h mi sc mc p z hT hO hu hm hd _ (by simp)
              | false => exact unfitM1_false w y m d h mi sc mc p z hT hO hu hm hd _ (by simp)
            · rw [if_pos (by omega)]
              exact unfitMb w y m d h mi sc mc p zd z hT hu hm hd
          · rw [if_pos (by omega)]
            exact unfitMa w y m d h mi sc mc p zd z hT hu hm
        · by_cases hd : d = 1
          · rw [if_neg (by omega), if_neg (by omega)]
            cases zd with
            | true => exact unfitM2_true w y m d h mi sc mc p z hT hO hu hd _ (by simp)
            | false => exact unfitM2_false w y m d h mi sc mc p z hT hO hu hd _ (by simp)
          · rw [if_pos (by omega)]
            exact unfitMc w y m d h mi sc mc p zd z hT hu hd
        · rw [if_neg (by omega), if_neg (by omega)]
          cases zd with
          | true => exact unfitM3_true w y m d h mi sc mc p z hT hO hu _ rfl _ (by simp)
          | false => exact unfitM3_false w y m d h mi sc mc p z hT hO hu _ rfl _ (by simp)
  · rw [if_pos (.inl hu)]
    exact unfitM_bad w y m d dp h mi sc mc p zd z hT hu
end Go.Proofs.YtohojghndnfgdaaGreatDoor.Tm

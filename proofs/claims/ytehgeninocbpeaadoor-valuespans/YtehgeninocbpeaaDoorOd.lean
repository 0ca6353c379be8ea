import Derived.Test.YtehgeninocbpeaaDoorOc
import Derived.Test.YtehgeninocbpeaaDoorQTu
import Derived.Deep.RegionWith
/-
  DERIVED. The document's own span, whatever the VR.
-/
namespace Go.Proofs.YtehgeninocbpeaaDoor.Tm
open Go Go.Proofs Go.RowKit

set_option maxRecDepth 100000 in
set_option maxHeartbeats 1000000 in
theorem own5_DTno (w : World) (s : ByteArray) (a c : Int) (c16 : ∀ W, Calls Tryd.prog 16 #[.string s] W (PostF W (mV 0 0 0 0 0 0 0 0 0 false 0) (some (a, c)))) :
    Calls Tryd.prog 5 #[.int .i64 7, .string s] w (PostF w (sp 0 0) (some (a, c))) := by
  obtain ⟨q, hq⟩ : ∃ q, w.heap.size = q := ⟨_, rfl⟩
  obtain ⟨W2, hW2⟩ : ∃ W2, (w.alloc (.cells #[.int .i64 0, .int .i64 0] 23)).alloc (.cells #[.slice none 0 0, .int .i64 0] 31) = W2 := ⟨_, rfl⟩
  have HM : Hid (MN w W2 23 2 (fa #[Value.int .i64 0, .int .i64 0])) := by show MN w W2 23 2 _; rw [← hW2]; exact MN.start w _ 23
  have HW2 : Hid _ := hW2
  clear hW2
  unfold mV at c16
  go_enter Tryd.func5, Tryd.ntmps5
  go_wp2_with (go_at_call 16; refine Stop.mk ?_)
  rw [HW2.out]
  refine Stop.out ((c16 _).mono ?_)
  rintro e W4 ⟨v, rfl, hv, hb4⟩
  have HV4 : Hid (RErr W4 v (some (a, c))) := hv
  obtain ⟨g, k, rfl, _, _⟩ := hv
  have HM4 : Hid (MN w W4 23 2 (fa #[Value.int .i64 0, .int .i64 0])) := HM.out.on hb4
  clear c16 hb4 HM HW2
  go_upto_region 16 with fail
  have K5 := Dw.start HM4.out 51 #[.int .i64 0, .int .i64 0, .int .i64 0, .int .i64 0, .int .i64 0, .int .i64 0, .int .i64 0, .int .i64 0, .int .i64 0, .bool false, .int .i64 0] #[.slice (some ⟨g, 0, none⟩) 1 k, .int .i64 c]
  obtain ⟨W5, hW5⟩ : ∃ W5, (W4.alloc (.cells #[.int .i64 0, .int .i64 0, .int .i64 0, .int .i64 0, .int .i64 0, .int .i64 0, .int .i64 0, .int .i64 0, .int .i64 0, .bool false, .int .i64 0] 51)).alloc (.cells #[.slice (some ⟨g, 0, none⟩) 1 k, .int .i64 c] 31) = W5 := ⟨_, rfl⟩
  obtain ⟨B, hB⟩ : ∃ B, W4.heap.size = B := ⟨_, rfl⟩
  rw [hW5, hB]
  rw [hW5, hB, hq] at K5
  have HK5 : Hid _ := K5
  have e0 : W5.cell? ⟨B + 1, 0, none⟩ = some (.slice (some ⟨g, 0, none⟩) 1 k) := K5.ve.cell (i := 0) (by simp)
  have e1 : W5.cell? ⟨B + 1, 1, none⟩ = some (.int .i64 c) := K5.ve.cell (i := 1) (by simp)
  have HV5 : Hid (RErr W5 (.agg #[.slice (some ⟨g, 0, none⟩) 1 k, .int .i64 c]) (some (a, c))) := HV4.out.next (by rw [← hW5]; exact ((Below.refl _ _).alloc (Nat.le_refl _) _).alloc (by simp) _)
  clear K5 hW5 hB HM4 HV4
  have c13 := fun W => any_some W g k c
  go_wp2_with (go_at_call 11; refine Stop.mk ?_)
  refine Stop.out ((c13 _).mono ?_)
  rintro e W6 ⟨rfl, hb6⟩
  have HK6 : Hid _ := HK5.out.on hb6
  have HK7 : Hid _ := HK6.out.drew
  have HV6 : Hid (RErr W6 (.agg #[.slice (some ⟨g, 0, none⟩) 1 k, .int .i64 c]) (some (a, c))) := HV5.out.next hb6
  clear e0 e1 hb6 HK5 c13 HV5
  have e0 : W6.cell? ⟨B + 1, 0, none⟩ = some (.slice (some ⟨g, 0, none⟩) 1 k) := HK6.out.ve.cell (i := 0) (by simp)
  have e1 : W6.cell? ⟨B + 1, 1, none⟩ = some (.int .i64 c) := HK6.out.ve.cell (i := 1) (by simp)
  have z0 : W6.cell? ⟨q, 0, none⟩ = some (.int .i64 0) := HK6.out.zr.cell (i := 0) (by omega)
  have z1 : W6.cell? ⟨q, 1, none⟩ = some (.int .i64 0) := HK6.out.zr.cell (i := 1) (by omega)
  have y0 : W6.cell? ⟨q + 1, 0, none⟩ = some (.slice none 0 0) := HK6.out.ze.cell (i := 0) (by omega)
  have y1 : W6.cell? ⟨q + 1, 1, none⟩ = some (.int .i64 0) := HK6.out.ze.cell (i := 1) (by omega)
  have HN1 : Hid (Rne (.agg #[.slice (some ⟨g, 0, none⟩) 1 k, .int .i64 c]) q) := HV6.out.ne z0 (fun s h => by cases h)
  have HN2 : Hid (Rne (.agg #[.slice (some ⟨g, 0, none⟩) 1 k, .int .i64 c]) (q + 1)) := HV6.out.ne y0 (fun s h => by cases h)
  have zf := fun i => HK6.out.zr.frozen i
  have yf := fun i => HK6.out.ze.frozen i
  have hBq : q ≠ B + 1 ∧ q + 1 ≠ B + 1 ∧ B + 1 ≠ q ∧ B + 1 ≠ q + 1 := by have := HK6.out.lt; omega
  go_upto_region 17 with fail
  go_region
  all_goals
    go_wp2
    refine bodyPost_ret (v := .tuple #[sp 0 0, .agg #[.slice (some ⟨g, 0, none⟩) 1 k, .int .i64 c]]) (by simp [results, Tryd.results5, go_sem, sp, z0, z1, y0, y1]) rfl ⟨_, rfl, ?_, ?_⟩
    · repeat (first | refine RErr.drewW ?_ | refine RErr.set ?_ HN1.out | refine RErr.set ?_ HN2.out)
      exact HV6.out
    rw [hq]
    repeat (first | refine Below.drew ?_ | refine Below.setCell ?_ (by first | exact Nat.le_refl _ | exact Nat.le_succ _) _)
    exact HK6.out.b

set_option maxRecDepth 100000 in
set_option maxHeartbeats 2000000 in
theorem own5_DT (w : World) (s : ByteArray) (S : Mst) (hB : Bo S) (hI : Iv S) (c16 : ∀ W, Calls Tryd.prog 16 #[.string s] W (PostF W (mo11 S) none)) :
    Calls Tryd.prog 5 #[.int .i64 7, .string s] w (PostF w (sp (fS S) (lS S)) none) := by
  obtain ⟨q, hq⟩ : ∃ q, w.heap.size = q := ⟨_, rfl⟩
  obtain ⟨W2, hW2⟩ : ∃ W2, (w.alloc (.cells #[.int .i64 0, .int .i64 0] 23)).alloc (.cells #[.slice none 0 0, .int .i64 0] 31) = W2 := ⟨_, rfl⟩
  have HM : Hid (MN w W2 23 2 (fa #[Value.int .i64 0, .int .i64 0])) := by show MN w W2 23 2 _; rw [← hW2]; exact MN.start w _ 23
  have HW2 : Hid _ := hW2
  clear hW2
  have c17 := fun W => ofMoment_any W S hB hI
  generalize fS S = F at *
  generalize lS S = L at *
  clear hB hI
  unfold mo11 at c16 c17
  go_enter Tryd.func5, Tryd.ntmps5
  go_wp2_with (go_at_call 16; refine Stop.mk ?_)
  rw [HW2.out]
  refine Stop.out ((c16 _).mono ?_)
  rintro e W4 ⟨v, rfl, hv, hb4⟩
  obtain rfl : v = .agg #[.slice none 0 0, .int .i64 0] := hv
  have HM4 : Hid (MN w W4 23 2 (fa #[Value.int .i64 0, .int .i64 0])) := HM.out.on hb4
  clear c16 hb4 HM HW2
  go_upto_region 16 with fail
  have K5 := Dw.start HM4.out 51 #[.int .i64 (S.y : Int), .int .i64 (S.m : Int), .int .i64 (S.d : Int), .int .i64 (S.dp : Int), .int .i64 (S.h : Int), .int .i64 (S.mi : Int), .int .i64 (S.sc : Int), .int .i64 (S.mc : Int), .int .i64 (S.p : Int), .bool S.zd, .int .i64 S.z] #[.slice none 0 0, .int .i64 0]
  obtain ⟨W5, hW5⟩ : ∃ W5, (W4.alloc (.cells #[.int .i64 (S.y : Int), .int .i64 (S.m : Int), .int .i64 (S.d : Int), .int .i64 (S.dp : Int), .int .i64 (S.h : Int), .int .i64 (S.mi : Int), .int .i64 (S.sc : Int), .int .i64 (S.mc : Int), .int .i64 (S.p : Int), .bool S.zd, .int .i64 S.z] 51)).alloc (.cells #[.slice none 0 0, .int .i64 0] 31) = W5 := ⟨_, rfl⟩
  obtain ⟨B, hB⟩ : ∃ B, W4.heap.size = B := ⟨_, rfl⟩
  rw [hW5, hB]
  rw [hW5, hB, hq] at K5
  have HK5 : Hid _ := K5
  have e0 : W5.cell? ⟨B + 1, 0, none⟩ = some (.slice none 0 0) := K5.ve.cell (i := 0) (by simp)
  have e1 : W5.cell? ⟨B + 1, 1, none⟩ = some (.int .i64 0) := K5.ve.cell (i := 1) (by simp)
  clear K5 hW5 hB HM4
  have c13 := fun W => any_none W
  go_wp2_with (go_at_call 11; refine Stop.mk ?_)
  refine Stop.out ((c13 _).mono ?_)
  rintro e W6 ⟨rfl, hb6⟩
  have HK6 : Hid _ := (HK5.out.on hb6).drew
  clear e0 e1 hb6 HK5 c13
  go_upto_region 18 with fail
  have d0 : W6.cell? ⟨B, 0, none⟩ = some (.int .i64 (S.y : Int)) := HK6.out.vr.cell (i := 0) (by simp)
  have d1 : W6.cell? ⟨B, 1, none⟩ = some (.int .i64 (S.m : Int)) := HK6.out.vr.cell (i := 1) (by simp)
  have d2 : W6.cell? ⟨B, 2, none⟩ = some (.int .i64 (S.d : Int)) := HK6.out.vr.cell (i := 2) (by simp)
  have d3 : W6.cell? ⟨B, 3, none⟩ = some (.int .i64 (S.dp : Int)) := HK6.out.vr.cell (i := 3) (by simp)
  have d4 : W6.cell? ⟨B, 4, none⟩ = some (.int .i64 (S.h : Int)) := HK6.out.vr.cell (i := 4) (by simp)
  have d5 : W6.cell? ⟨B, 5, none⟩ = some (.int .i64 (S.mi : Int)) := HK6.out.vr.cell (i := 5) (by simp)
  have d6 : W6.cell? ⟨B, 6, none⟩ = some (.int .i64 (S.sc : Int)) := HK6.out.vr.cell (i := 6) (by simp)
  have d7 : W6.cell? ⟨B, 7, none⟩ = some (.int .i64 (S.mc : Int)) := HK6.out.vr.cell (i := 7) (by simp)
  have d8 : W6.cell? ⟨B, 8, none⟩ = some (.int .i64 (S.p : Int)) := HK6.out.vr.cell (i := 8) (by simp)
  have d9 : W6.cell? ⟨B, 9, none⟩ = some (.bool S.zd) := HK6.out.vr.cell (i := 9) (by simp)
  have d10 : W6.cell? ⟨B, 10, none⟩ = some (.int .i64 S.z) := HK6.out.vr.cell (i := 10) (by simp)
  have e0 : W6.cell? ⟨B + 1, 0, none⟩ = some (.slice none 0 0) := HK6.out.ve.cell (i := 0) (by simp)
  have e1 : W6.cell? ⟨B + 1, 1, none⟩ = some (.int .i64 0) := HK6.out.ve.cell (i := 1) (by simp)
  have hBq : q ≠ B + 1 ∧ q + 1 ≠ B + 1 ∧ B + 1 ≠ q ∧ B + 1 ≠ q + 1 := by have := HK6.out.lt; omega
  unfold sp at c17
  go_region_with (first | (go_at_call 17; refine (c17 _).mono ?_; rintro e W8 ⟨rfl, hb8⟩; have K8 := HK6.out.on hb8; have f0 : W8.cell? ⟨B + 1, 0, none⟩ = some (.slice none 0 0) := K8.ve.cell (i := 0) (by simp); have f1 : W8.cell? ⟨B + 1, 1, none⟩ = some (.int .i64 0) := K8.ve.cell (i := 1) (by simp); have z0 : W8.cell? ⟨q, 0, none⟩ = some (.int .i64 0) := K8.zr.cell (i := 0) (by omega); have z1 : W8.cell? ⟨q, 1, none⟩ = some (.int .i64 0) := K8.zr.cell (i := 1) (by omega); have y0 : W8.cell? ⟨q + 1, 0, none⟩ = some (.slice none 0 0) := K8.ze.cell (i := 0) (by omega); have y1 : W8.cell? ⟨q + 1, 1, none⟩ = some (.int .i64 0) := K8.ze.cell (i := 1) (by omega); have zf := fun i => K8.zr.frozen i; have yf := fun i => K8.ze.frozen i) | fail)
  all_goals
    go_wp2
    refine bodyPost_ret (v := .tuple #[sp F L, .agg #[.slice none 0 0, .int .i64 0]]) (by simp [results, Tryd.results5, go_sem, sp, z0, z1, y0, y1]) rfl ⟨_, rfl, rfl, ?_⟩
    rw [hq]
    repeat (first | refine Below.drew ?_ | refine Below.setCell ?_ (by first | exact Nat.le_refl _ | exact Nat.le_succ _) _)
    exact K8.b

set_option maxRecDepth 100000 in
set_option maxHeartbeats 2000000 in
theorem own5_not (w : World) (vr : Int) (hv : ¬ isSp vr) (s : ByteArray) : Calls Tryd.prog 5 #[.int .i64 vr, .string s] w (PostF w (sp 0 0) (some (0, 105))) := by
  obtain ⟨q, hq⟩ : ∃ q, w.heap.size = q := ⟨_, rfl⟩
  obtain ⟨W2, hW2⟩ : ∃ W2, (w.alloc (.cells #[.int .i64 0, .int .i64 0] 23)).alloc (.cells #[.slice none 0 0, .int .i64 0] 31) = W2 := ⟨_, rfl⟩
  have HM : Hid (MN w W2 23 2 (fa #[Value.int .i64 0, .int .i64 0])) := by show MN w W2 23 2 _; rw [← hW2]; exact MN.start w _ 23
  have HW2 : Hid _ := hW2
  clear hW2
  have v5 : (vr == 5) = false := by have : vr ≠ 5 := fun h => hv (.inl h); simpa using this
  have v7 : (vr == 7) = false := by have : vr ≠ 7 := fun h => hv (.inr (.inl h)); simpa using this
  have v21 : (vr == 21) = false := by have : vr ≠ 21 := fun h => hv (.inr (.inr h)); simpa using this
  have cN := fun W => no_any 0 105 W
  go_enter Tryd.func5, Tryd.ntmps5
  go_wp2_with (go_at_call 18; refine Stop.mk ?_)
  rw [HW2.out]
  refine Stop.out ((cN _).mono ?_)
  rintro e W4 ⟨v, rfl, hv4, hb4⟩
  have HV : Hid (RErr W4 v (some (0, 105))) := hv4
  have HM4 : Hid (MN w W4 23 2 (fa #[Value.int .i64 0, .int .i64 0])) := HM.out.on hb4
  obtain ⟨g, k, rfl, _, _⟩ := hv4
  clear cN hb4 HM HW2
  have hR := HM4.out.r
  have hE := HM4.out.e
  rw [hq] at hR hE
  have z0 : W4.cell? ⟨q, 0, none⟩ = some (.int .i64 0) := hR.cell (i := 0) (by omega)
  have z1 : W4.cell? ⟨q, 1, none⟩ = some (.int .i64 0) := hR.cell (i := 1) (by omega)
  have y0 : W4.cell? ⟨q + 1, 0, none⟩ = some (.slice none 0 0) := hE.cell (i := 0) (by omega)
  have y1 : W4.cell? ⟨q + 1, 1, none⟩ = some (.int .i64 0) := hE.cell (i := 1) (by omega)
  have zf := fun i => hR.frozen i
  have yf := fun i => hE.frozen i
  have HN1 : Hid (Rne (.agg #[.slice (some ⟨g, 0, none⟩) 1 k, .int .i64 105]) q) := HV.out.ne z0 (fun s h => by cases h)
  have HN2 : Hid (Rne (.agg #[.slice (some ⟨g, 0, none⟩) 1 k, .int .i64 105]) (q + 1)) := HV.out.ne y0 (fun s h => by cases h)
  have hB4 := HM4.out.b
  rw [hq] at hB4
  clear hR hE
  go_wp2
  refine bodyPost_ret (v := .tuple #[sp 0 0, .agg #[.slice (some ⟨g, 0, none⟩) 1 k, .int .i64 105]]) (by simp [results, Tryd.results5, go_sem, sp, z0, z1, y0, y1]) rfl ⟨_, rfl, ?_, ?_⟩
  · repeat (first | refine RErr.drewW ?_ | refine RErr.set ?_ HN1.out | refine RErr.set ?_ HN2.out)
    exact HV.out
  rw [hq]
  repeat (first | refine Below.drew ?_ | refine Below.setCell ?_ (by first | exact Nat.le_refl _ | exact Nat.le_succ _) _)
  exact hB4

theorem time_dat (s : ByteArray) : (timeF s 0).y = 1 ∧ (timeF s 0).m = 1 ∧ (timeF s 0).d = 1 ∧ (timeF s 0).dp = 3 ∧ (timeF s 0).z = 0 ∧ 1 ≤ (timeF s 0).p := by
  obtain ⟨h, h1, _⟩ := time_tb s
  obtain ⟨a, b, c, d, _, z⟩ := h.dat
  exact ⟨a, b, c, d, z, h1⟩

theorem own5_any (w : World) (vr : Int) (hv : isSp vr) (s : ByteArray) (hs : s.size ≤ 140737488351232) : Calls Tryd.prog 5 #[.int .i64 vr, .string s] w (PostF w (sp (ow vr s 0).1 (ow vr s 0).2) (oR vr s 0)) := by
  unfold ow
  cases ho : oR vr s 0 with
  | some x =>
    rw [if_neg (by simp)]
    obtain ⟨a, c⟩ := x
    rcases hv with rfl | rfl | rfl
    · have e : rdO s (dateF s 0) = some (a, c) := ho
      rw [(date_is s).1] at e
      refine own5_DAno w s a c (fun W => ?_)
      have := parse11_any W s hs
      unfold rd at this
      rw [e, if_neg (by simp)] at this
      exact this
    · have e : rdO s (momF s 0) = some (a, c) := ho
      refine own5_DTno w s a c (fun W => ?_)
      have := parse21_any W s hs
      have e2 : rdO s (momS s) = some (a, c) := e
      unfold rdM at this
      rw [e2, if_neg (by simp)] at this
      exact this
    · have e : rdO s (timeF s 0) = some (a, c) := ho
      refine own5_TMno w s a c (fun W => ?_)
      have := parse17_any W s hs
      have e2 : rdO s (timeS s) = some (a, c) := e
      unfold rdM at this
      rw [e2, if_neg (by simp)] at this
      exact this
  | none =>
    rw [if_pos rfl]
    have hB := bounds ho
    rcases hv with rfl | rfl | rfl
    · have e : rdO s (dateF s 0) = none := ho
      have hB : Bo (dateF s 0) := hB
      have hd := day_of hB
      show Calls _ _ _ _ (PostF w (sp (fS (dateF s 0)) (lS (dateF s 0))) none)
      have er := date_rest s
      have ei := date_is s
      have c := own5_DA w s (dateF s 0).y (dateF s 0).m (dateF s 0).d hd (fun W => by
        have := parse11_any W s hs
        unfold rd at this
        rw [← ei.1, e, if_pos rfl, ← ei.2.1, ← ei.2.2.1, ← ei.2.2.2] at this
        exact this)
      have ef : ((num (dateF s 0).y (dateF s 0).m (dateF s 0).d * 87840000000 : Nat) : Int) = fS (dateF s 0) := by
        unfold fS fI
        obtain ⟨r1, r2, r3, r4, r5, r6, r7⟩ := er
        rw [r2, r3, r4, r5, r7]
        have : tt 0 0 0 0 = 0 := by decide
        rw [this]
        omega
      have el : oT (dateF s 0).y (dateF s 0).m (dateF s 0).dp (dateF s 0).p = 87840000000 := by
        unfold oT
        obtain ⟨r1, r2, r3, r4, r5, r6, r7⟩ := er
        rw [r1, r6, if_neg (by decide), if_neg (by decide)]
        rfl
      unfold lS
      rw [el, ← ef]
      exact c
    · have e : rdO s (momF s 0) = none := ho
      have hB : Bo (momF s 0) := hB
      refine own5_DT w s (momF s 0) hB (iv_mom s 0) (fun W => ?_)
      have := parse21_any W s hs
      have e2 : rdO s (momS s) = none := e
      unfold rdM at this
      rw [e2, if_pos rfl] at this
      exact this
    · have e : rdO s (timeF s 0) = none := ho
      have hB : Bo (timeF s 0) := hB
      have ht := time_dat s
      show Calls _ _ _ _ (PostF w (sp (fS (timeF s 0)) (lS (timeF s 0))) none)
      have c := own5_TM w s (timeF s 0).h (timeF s 0).mi (timeF s 0).sc (timeF s 0).mc (timeF s 0).p (by have := hB.h; omega) (by have := hB.mi; omega) (by have := hB.sc; omega) hB.mc ht.2.2.2.2.2 hB.p9 (fun W => by
        have := parse17_any W s hs
        have e2 : rdO s (timeS s) = none := e
        unfold rdM at this
        rw [e2, if_pos rfl] at this
        exact this)
      have ef : ((tt (timeF s 0).h (timeF s 0).mi (timeF s 0).sc (timeF s 0).mc : Nat) : Int) = fS (timeF s 0) := by
        unfold fS fI
        obtain ⟨r1, r2, r3, r4, r5, r6⟩ := ht
        rw [r1, r2, r3, r5]
        have : num 1 1 1 = 0 := by decide
        rw [this]
        omega
      have el : oT (timeF s 0).y (timeF s 0).m (timeF s 0).dp (timeF s 0).p = tk (timeF s 0).p := by
        unfold oT
        rw [ht.2.2.2.1, if_neg (by decide), if_neg (by decide)]
      unfold lS
      rw [el, ← ef]
      exact c
end Go.Proofs.YtehgeninocbpeaaDoor.Tm

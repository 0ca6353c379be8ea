import Derived.Test.YtehgeninocbpeaaGreatDoorQTs
import Derived.Test.YtehgeninocbpeaaGreatDoorQTu
import Derived.Deep.RegionWith
import Derived.Test.YtehgeninocbpeaaGreatDoorVb
import Derived.Lib.IndexLaws
namespace Go.Proofs.YtehgeninocbpeaaGreatDoor.Tm
open Go Go.Proofs Go.RowKit
set_option maxRecDepth 100000 in
set_option maxHeartbeats 1000000 in
theorem own5_DTno (w : World) (s : ByteArray) (a c : Int) (c16 : ∀ W, Calls Tryz.prog 86 #[.string s] W (PostF W (mV 0 0 0 0 0 0 0 0 0 false 0) (some (a, c)))) :
    Calls Tryz.prog 50 #[.int .i64 7, .string s] w (PostF w (sp 0 0) (some (a, c))) := by
  obtain ⟨q, hq⟩ : ∃ q, w.heap.size = q := ⟨_, rfl⟩
  obtain ⟨W2, hW2⟩ : ∃ W2, (w.alloc (.cells #[.int .i64 0, .int .i64 0] 66)).alloc (.cells #[.slice none 0 0, .int .i64 0] 35) = W2 := ⟨_, rfl⟩
  have HM : Hid (MN w W2 66 2 (fa #[Value.int .i64 0, .int .i64 0])) := by show MN w W2 66 2 _; rw [← hW2]; exact MN.start w _ 66
  have HW2 : Hid _ := hW2
  clear hW2
  unfold mV at c16
  go_enter Tryz.func50, Tryz.ntmps50
  go_wp2_with (go_at_call 86; refine Stop.mk ?_)
  rw [HW2.out]
  refine Stop.out ((c16 _).mono ?_)
  rintro e W4 ⟨v, rfl, hv, hb4⟩
  have HV4 : Hid (RErr W4 v (some (a, c))) := hv
  obtain ⟨g, k, rfl, _, _⟩ := hv
  have HM4 : Hid (MN w W4 66 2 (fa #[Value.int .i64 0, .int .i64 0])) := HM.out.on hb4
  clear c16 hb4 HM HW2
  go_upto_region 16 with fail
  have K5 := Dw.start HM4.out 130 #[.int .i64 0, .int .i64 0, .int .i64 0, .int .i64 0, .int .i64 0, .int .i64 0, .int .i64 0, .int .i64 0, .int .i64 0, .bool false, .int .i64 0] #[.slice (some ⟨g, 0, none⟩) 1 k, .int .i64 c]
  obtain ⟨W5, hW5⟩ : ∃ W5, (W4.alloc (.cells #[.int .i64 0, .int .i64 0, .int .i64 0, .int .i64 0, .int .i64 0, .int .i64 0, .int .i64 0, .int .i64 0, .int .i64 0, .bool false, .int .i64 0] 130)).alloc (.cells #[.slice (some ⟨g, 0, none⟩) 1 k, .int .i64 c] 35) = W5 := ⟨_, rfl⟩
  obtain ⟨B, hB⟩ : ∃ B, W4.heap.size = B := ⟨_, rfl⟩
  rw [hW5, hB]
  rw [hW5, hB, hq] at K5
  have HK5 : Hid _ := K5
  have e0 : W5.cell? ⟨B + 1, 0, none⟩ = some (.slice (some ⟨g, 0, none⟩) 1 k) := K5.ve.cell (i := 0) (by simp)
  have e1 : W5.cell? ⟨B + 1, 1, none⟩ = some (.int .i64 c) := K5.ve.cell (i := 1) (by simp)
  have HV5 : Hid (RErr W5 (.agg #[.slice (some ⟨g, 0, none⟩) 1 k, .int .i64 c]) (some (a, c))) := HV4.out.next (by rw [← hW5]; exact ((Below.refl _ _).alloc (Nat.le_refl _) _).alloc (by simp) _)
  clear K5 hW5 hB HM4 HV4
  have c13 := fun W => any_some W g k c
  go_wp2_with (go_at_call 28; refine Stop.mk ?_)
  refine Stop.out ((c13 _).mono ?_)
  rintro e W6 ⟨rfl, hb6⟩
  have HK6 : Hid _ := HK5.out.on hb6
  have HK7 : Hid _ := HK6.out.drew
  have HV6 : Hid (RErr W6 (.agg #[.slice (some ⟨g, 0, none⟩) 1 k, .int .i64 c]) (some (a, c))) := HV5.out.next hb6
  clear e0 e1 hb6 HK5 c13 HV5
  have e0 : W6.cell? ⟨B + 1, 0, none⟩ = some (.slice (some ⟨g, 0, none⟩) 1 k) := HK6.out.ve.cell (i := 0) (by simp)
  have e1 : W6.cell? ⟨B + 1, 1, none⟩ = some (.int .i64 c) := HK6.out.ve.cell (i := 1) (by simp)
  have z0 : W6.cell? ⟨q, 0, none⟩ = some (.int .i64 0) := HK6.out.zr.cell (i := 0) (by omega)
  have z1 : W6.cell? ⟨q, 1, none⟩ = some (.int .i64 0) := HK6.out.zr.cell (i := 1) (by omega)
  have y0 : W6.cell? ⟨q + 1, 0, none⟩ = some (.slice none 0 0) := HK6.out.ze.cell (i := 0) (by omega)
  have y1 : W6.cell? ⟨q + 1, 1, none⟩ = some (.int .i64 0) := HK6.out.ze.cell (i := 1) (by omega)
  have HN1 : Hid (Rne (.agg #[.slice (some ⟨g, 0, none⟩) 1 k, .int .i64 c]) q) := HV6.out.ne z0 (fun s h => by cases h)
  have HN2 : Hid (Rne (.agg #[.slice (some ⟨g, 0, none⟩) 1 k, .int .i64 c]) (q + 1)) := HV6.out.ne y0 (fun s h => by cases h)
  have zf := fun i => HK6.out.zr.frozen i
  have yf := fun i => HK6.out.ze.frozen i
  have hBq : q ≠ B + 1 ∧ q + 1 ≠ B + 1 ∧ B + 1 ≠ q ∧ B + 1 ≠ q + 1 := by have := HK6.out.lt; omega
  go_upto_region 17 with fail
  go_region
  all_goals
    go_wp2
    refine bodyPost_ret (v := .tuple #[sp 0 0, .agg #[.slice (some ⟨g, 0, none⟩) 1 k, .int .i64 c]]) (by simp [results, Tryz.results50, go_sem, sp, z0, z1, y0, y1]) rfl ⟨_, rfl, ?_, ?_⟩
    · repeat (first | refine RErr.drewW ?_ | refine RErr.set ?_ HN1.out | refine RErr.set ?_ HN2.out)
      exact HV6.out
    rw [hq]
    repeat (first | refine Below.drew ?_ | refine Below.setCell ?_ (by first | exact Nat.le_refl _ | exact Nat.le_succ _) _)
    exact HK6.out.b
set_option maxRecDepth 100000 in
set_option maxHeartbeats 2000000 in
theorem own5_DT (w : World) (s : ByteArray) (S : Mst) (hB : Bo S) (hI : Iv S) (c16 : ∀ W, Calls Tryz.prog 86 #[.string s] W (PostF W (mo11 S) none)) :
    Calls Tryz.prog 50 #[.int .i64 7, .string s] w (PostF w (sp (fS S) (lS S)) none) := by
  obtain ⟨q, hq⟩ : ∃ q, w.heap.size = q := ⟨_, rfl⟩
  obtain ⟨W2, hW2⟩ : ∃ W2, (w.alloc (.cells #[.int .i64 0, .int .i64 0] 66)).alloc (.cells #[.slice none 0 0, .int .i64 0] 35) = W2 := ⟨_, rfl⟩
  have HM : Hid (MN w W2 66 2 (fa #[Value.int .i64 0, .int .i64 0])) := by show MN w W2 66 2 _; rw [← hW2]; exact MN.start w _ 66
  have HW2 : Hid _ := hW2
  clear hW2
  have c17 := fun W => ofMoment_any W S hB hI
  generalize fS S = F at *
  generalize lS S = L at *
  clear hB hI
  unfold mo11 at c16 c17
  go_enter Tryz.func50, Tryz.ntmps50
  go_wp2_with (go_at_call 86; refine Stop.mk ?_)
  rw [HW2.out]
  refine Stop.out ((c16 _).mono ?_)
  rintro e W4 ⟨v, rfl, hv, hb4⟩
  obtain rfl : v = .agg #[.slice none 0 0, .int .i64 0] := hv
  have HM4 : Hid (MN w W4 66 2 (fa #[Value.int .i64 0, .int .i64 0])) := HM.out.on hb4
  clear c16 hb4 HM HW2
  go_upto_region 16 with fail
  have K5 := Dw.start HM4.out 130 #[.int .i64 (S.y : Int), .int .i64 (S.m : Int), .int .i64 (S.d : Int), .int .i64 (S.dp : Int), .int .i64 (S.h : Int), .int .i64 (S.mi : Int), .int .i64 (S.sc : Int), .int .i64 (S.mc : Int), .int .i64 (S.p : Int), .bool S.zd, .int .i64 S.z] #[.slice none 0 0, .int .i64 0]
  obtain ⟨W5, hW5⟩ : ∃ W5, (W4.alloc (.cells #[.int .i64 (S.y : Int), .int .i64 (S.m : Int), .int .i64 (S.d : Int), .int .i64 (S.dp : Int), .int .i64 (S.h : Int), .int .i64 (S.mi : Int), .int .i64 (S.sc : Int), .int .i64 (S.mc : Int), .int .i64 (S.p : Int), .bool S.zd, .int .i64 S.z] 130)).alloc (.cells #[.slice none 0 0, .int .i64 0] 35) = W5 := ⟨_, rfl⟩
  obtain ⟨B, hB⟩ : ∃ B, W4.heap.size = B := ⟨_, rfl⟩
  rw [hW5, hB]
  rw [hW5, hB, hq] at K5
  have HK5 : Hid _ := K5
  have e0 : W5.cell? ⟨B + 1, 0, none⟩ = some (.slice none 0 0) := K5.ve.cell (i := 0) (by simp)
  have e1 : W5.cell? ⟨B + 1, 1, none⟩ = some (.int .i64 0) := K5.ve.cell (i := 1) (by simp)
  clear K5 hW5 hB HM4
  have c13 := fun W => any_none W
  go_wp2_with (go_at_call 28; refine Stop.mk ?_)
  refine Stop.out ((c13 _).mono ?_)
  rintro e W6 ⟨rfl, hb6⟩
  have HK6 : Hid _ := (HK5.out.on hb6).drew
  clear e0 e1 hb6 HK5 c13
  go_upto_region 18 with fail
  have d0 : W6.cell? ⟨B, 0, none⟩ = some (.int .i64 (S.y : Int)) := HK6.out.vr.cell (i := 0) (by simp)
  have d1 : W6.cell? ⟨B, 1, none⟩ = some (.int .i64 (S.m : Int)) := HK6.out.vr.cell (i := 1) (by simp)
  have d2 : W6.cell? ⟨B, 2, none⟩ = some (.int .i64 (S.d : Int)) := HK6.out.vr.cell (i := 2) (by simp)
  have d3 : W6.cell? ⟨B, 3, none⟩ = some (.int .i64 (S.dp : Int)) := HK6.out.vr.cell (i := 3) (by simp)
  have d4 : W6.cell? ⟨B, 4, none⟩ = some (.int .i64 (S.h : Int)) := HK6.out.vr.cell (i := 4) (by simp)
  have d5 : W6.cell? ⟨B, 5, none⟩ = some (.int .i64 (S.mi : Int)) := HK6.out.vr.cell (i := 5) (by simp)
  have d6 : W6.cell? ⟨B, 6, none⟩ = some (.int .i64 (S.sc : Int)) := HK6.out.vr.cell (i := 6) (by simp)
  have d7 : W6.cell? ⟨B, 7, none⟩ = some (.int .i64 (S.mc : Int)) := HK6.out.vr.cell (i := 7) (by simp)
  have d8 : W6.cell? ⟨B, 8, none⟩ = some (.int .i64 (S.p : Int)) := HK6.out.vr.cell (i := 8) (by simp)
  have d9 : W6.cell? ⟨B, 9, none⟩ = some (.bool S.zd) := HK6.out.vr.cell (i := 9) (by simp)
  have d10 : W6.cell? ⟨B, 10, none⟩ = some (.int .i64 S.z) := HK6.out.vr.cell (i := 10) (by simp)
  have e0 : W6.cell? ⟨B + 1, 0, none⟩ = some (.slice none 0 0) := HK6.out.ve.cell (i := 0) (by simp)
  have e1 : W6.cell? ⟨B + 1, 1, none⟩ = some (.int .i64 0) := HK6.out.ve.cell (i := 1) (by simp)
  have hBq : q ≠ B + 1 ∧ q + 1 ≠ B + 1 ∧ B + 1 ≠ q ∧ B + 1 ≠ q + 1 := by have := HK6.out.lt; omega
  unfold sp at c17
  go_region_with (first | (go_at_call 87; refine (c17 _).mono ?_; rintro e W8 ⟨rfl, hb8⟩; have K8 := HK6.out.on hb8; have f0 : W8.cell? ⟨B + 1, 0, none⟩ = some (.slice none 0 0) := K8.ve.cell (i := 0) (by simp); have f1 : W8.cell? ⟨B + 1, 1, none⟩ = some (.int .i64 0) := K8.ve.cell (i := 1) (by simp); have z0 : W8.cell? ⟨q, 0, none⟩ = some (.int .i64 0) := K8.zr.cell (i := 0) (by omega); have z1 : W8.cell? ⟨q, 1, none⟩ = some (.int .i64 0) := K8.zr.cell (i := 1) (by omega); have y0 : W8.cell? ⟨q + 1, 0, none⟩ = some (.slice none 0 0) := K8.ze.cell (i := 0) (by omega); have y1 : W8.cell? ⟨q + 1, 1, none⟩ = some (.int .i64 0) := K8.ze.cell (i := 1) (by omega); have zf := fun i => K8.zr.frozen i; have yf := fun i => K8.ze.frozen i) | fail)
  all_goals
    go_wp2
    refine bodyPost_ret (v := .tuple #[sp F L, .agg #[.slice none 0 0, .int .i64 0]]) (by simp [results, Tryz.results50, go_sem, sp, z0, z1, y0, y1]) rfl ⟨_, rfl, rfl, ?_⟩
    rw [hq]
    repeat (first | refine Below.drew ?_ | refine Below.setCell ?_ (by first | exact Nat.le_refl _ | exact Nat.le_succ _) _)
    exact K8.b
theorem time_dat (s : ByteArray) : (timeF s 0).y = 1 ∧ (timeF s 0).m = 1 ∧ (timeF s 0).d = 1 ∧ (timeF s 0).dp = 3 ∧ (timeF s 0).z = 0 ∧ 1 ≤ (timeF s 0).p := by
  obtain ⟨h, h1, _⟩ := time_tb s
  obtain ⟨a, b, c, d, _, z⟩ := h.dat
  exact ⟨a, b, c, d, z, h1⟩
theorem own5_any (w : World) (vr : Int) (hv : isSp vr) (s : ByteArray) (hs : s.size ≤ 140737488351232) : Calls Tryz.prog 50 #[.int .i64 vr, .string s] w (PostF w (sp (ow vr s 0).1 (ow vr s 0).2) (oR vr s 0)) := by
  unfold ow
  cases ho : oR vr s 0 with
  | some x =>
    rw [if_neg (by simp)]
    obtain ⟨a, c⟩ := x
    rcases hv with rfl | rfl | rfl
    · have e : rdO s (dateF s 0) = some (a, c) := ho
      rw [(date_is s).1] at e
      refine own5_DAno w s a c (fun W => ?_)
      have := parse11_any W s hs
      unfold rd at this
      rw [e, if_neg (by simp)] at this
      exact this
    · have e : rdO s (momF s 0) = some (a, c) := ho
      refine own5_DTno w s a c (fun W => ?_)
      have := parse21_any W s hs
      have e2 : rdO s (momS s) = some (a, c) := e
      unfold rdM at this
      rw [e2, if_neg (by simp)] at this
      exact this
    · have e : rdO s (timeF s 0) = some (a, c) := ho
      refine own5_TMno w s a c (fun W => ?_)
      have := parse17_any W s hs
      have e2 : rdO s (timeS s) = some (a, c) := e
      unfold rdM at this
      rw [e2, if_neg (by simp)] at this
      exact this
  | none =>
    rw [if_pos rfl]
    have hB := bounds ho
    rcases hv with rfl | rfl | rfl
    · have e : rdO s (dateF s 0) = none := ho
      have hB : Bo (dateF s 0) := hB
      have hd := day_of hB
      show Calls _ _ _ _ (PostF w (sp (fS (dateF s 0)) (lS (dateF s 0))) none)
      have er := date_rest s
      have ei := date_is s
      have c := own5_DA w s (dateF s 0).y (dateF s 0).m (dateF s 0).d hd (fun W => by
        have := parse11_any W s hs
        unfold rd at this
        rw [← ei.1, e, if_pos rfl, ← ei.2.1, ← ei.2.2.1, ← ei.2.2.2] at this
        exact this)
      have ef : ((num (dateF s 0).y (dateF s 0).m (dateF s 0).d * 87840000000 : Nat) : Int) = fS (dateF s 0) := by
        unfold fS fI
        obtain ⟨r1, r2, r3, r4, r5, r6, r7⟩ := er
        rw [r2, r3, r4, r5, r7]
        have : tt 0 0 0 0 = 0 := by decide
        rw [this]
        omega
      have el : oT (dateF s 0).y (dateF s 0).m (dateF s 0).dp (dateF s 0).p = 87840000000 := by
        unfold oT
        obtain ⟨r1, r2, r3, r4, r5, r6, r7⟩ := er
        rw [r1, r6, if_neg (by decide), if_neg (by decide)]
        rfl
      unfold lS
      rw [el, ← ef]
      exact c
    · have e : rdO s (momF s 0) = none := ho
      have hB : Bo (momF s 0) := hB
      refine own5_DT w s (momF s 0) hB (iv_mom s 0) (fun W => ?_)
      have := parse21_any W s hs
      have e2 : rdO s (momS s) = none := e
      unfold rdM at this
      rw [e2, if_pos rfl] at this
      exact this
    · have e : rdO s (timeF s 0) = none := ho
      have hB : Bo (timeF s 0) := hB
      have ht := time_dat s
      show Calls _ _ _ _ (PostF w (sp (fS (timeF s 0)) (lS (timeF s 0))) none)
      have c := own5_TM w s (timeF s 0).h (timeF s 0).mi (timeF s 0).sc (timeF s 0).mc (timeF s 0).p (by have := hB.h; omega) (by have := hB.mi; omega) (by have := hB.sc; omega) hB.mc ht.2.2.2.2.2 hB.p9 (fun W => by
        have := parse17_any W s hs
        have e2 : rdO s (timeS s) = none := e
        unfold rdM at this
        rw [e2, if_pos rfl] at this
        exact this)
      have ef : ((tt (timeF s 0).h (timeF s 0).mi (timeF s 0).sc (timeF s 0).mc : Nat) : Int) = fS (timeF s 0) := by
        unfold fS fI
        obtain ⟨r1, r2, r3, r4, r5, r6⟩ := ht
        rw [r1, r2, r3, r5]
        have : num 1 1 1 = 0 := by decide
        rw [this]
        omega
      have el : oT (timeF s 0).y (timeF s 0).m (timeF s 0).dp (timeF s 0).p = tk (timeF s 0).p := by
        unfold oT
        rw [ht.2.2.2.1, if_neg (by decide), if_neg (by decide)]
      unfold lS
      rw [el, ← ef]
      exact c
end Go.Proofs.YtehgeninocbpeaaGreatDoor.Tm

namespace Go.Proofs.YtehgeninocbpeaaGreatDoor.Tm
open Go Go.Proofs Go.RowKit
theorem zo_o (s : ByteArray) (S : Mst) (x : Nat) : (zoS s S x).o = nextD S.o (zBad s (S.a + 1) x) S.a := by simp only [zoS]
theorem zS0_o (i : Nat) : (zS0 i).o = none := rfl
theorem zS0_a (i : Nat) : (zS0 i).a = i := rfl
theorem zs_no {s : ByteArray} {i : Nat} (hi : i < s.size) (h45 : (s.get! i).toNat = 45) (h4 : cnt s (i + 1) 4 < 4) : zs s i = false := by
  have hn : nx s (zS0 i).a (zS0 i).b = 45 := by show nx s i false = 45; rw [nx_in hi, h45]
  obtain ⟨_, c2⟩ := cnt4 s (i + 1)
  unfold zs
  rw [if_pos]
  left
  unfold zoneS
  rw [hn, if_pos (.inr rfl)]
  show (decide (zC1 s (i + 1) < 2) || decide (zC2 s (i + 1) < 2)) = true
  simp
  exact c2.2 h4
theorem zs_four {s : ByteArray} {i : Nat} (hi : i < s.size) (h45 : (s.get! i).toNat = 45) (h4 : cnt s (i + 1) 4 = 4) : zs s i = (dzK 45 (nv s (i + 1) 2) (nv s (i + 3) 2) && (decide (i + 5 = s.size) || decide (nx s (i + 5) false = 45))) := by
  have hn : nx s (zS0 i).a (zS0 i).b = 45 := by show nx s i false = 45; rw [nx_in hi, h45]
  obtain ⟨c1, c2⟩ := cnt4 s (i + 1)
  have hz1 : zC1 s (i + 1) ≤ 2 := cnt_le s 2 _
  have hz2 : zC2 s (i + 1) ≤ 2 := Nat.le_trans (zC2_le s _) (cnt_le s 2 _)
  have z1 : zC1 s (i + 1) = 2 := by omega
  have z2 : zC2 s (i + 1) = 2 := by omega
  have hH : zH s (i + 1) = nv s (i + 1) 2 := by unfold zH; rw [z1]
  have hM : zM s (i + 1) = nv s (i + 3) 2 := by unfold zM; rw [z1, z2, show i + 1 + 2 = i + 3 by omega]
  have hV : zV s (i + 1) 45 = dzV 45 (nv s (i + 1) 2) (nv s (i + 3) 2) := by unfold zV dzV; rw [hH, hM]
  have hB : zBad s (i + 1) 45 = !dzK 45 (nv s (i + 1) 2) (nv s (i + 3) 2) := by
    rw [← bad_is 45 _ _ (.inr rfl)]
    unfold zBad
    rw [hV, hM]
  have ea : (zoneS s (zS0 i)).a = i + 5 := by
    unfold zoneS
    rw [hn, if_pos (.inr rfl)]
    show i + 1 + zC1 s (i + 1) + zC2 s (i + 1) = _
    omega
  have eb : (zoneS s (zS0 i)).b = false := by
    unfold zoneS
    rw [hn, if_pos (.inr rfl)]
    show (decide (zC1 s (i + 1) < 2) || decide (zC2 s (i + 1) < 2)) = false
    rw [z1, z2]
    rfl
  have eo : (zoneS s (zS0 i)).o = nextD none (!dzK 45 (nv s (i + 1) 2) (nv s (i + 3) 2)) i := by
    unfold zoneS
    rw [hn, if_pos (.inr rfl), zo_o, zS0_o, zS0_a, hB]
  unfold zs
  rw [ea, eb, eo]
  cases hk : dzK 45 (nv s (i + 1) 2) (nv s (i + 3) 2) with
  | true => simp [nextD]
  | false => simp [nextD]
set_option maxRecDepth 100000 in
set_option maxHeartbeats 2000000 in
theorem sign_any (w : World) (s : ByteArray) (hs : s.size ≤ 140737488351232) (i : Nat) (hi : i < s.size) (h45 : (s.get! i).toNat = 45) : Calls Tryz.prog 92 #[.string s, .int .i64 (i : Int)] w fun e w' => e = .returned (.bool (zs s i)) ∧ w = w' := by
  have c32 := fun W => digits31_any W s (i + 1) 4 (by omega) hs (by omega)
  have hc4 := cnt_le s 4 (i + 1)
  have hcs := cnt_size s 4 (i + 1) (by omega)
  by_cases h4 : cnt s (i + 1) 4 = 4
  · rw [zs_four hi h45 h4]
    rw [h4] at c32 hcs
    have hu5 : (s.extract i (i + 5)).size = 5 := by rw [ByteArray.size_extract]; omega
    have hug : ∀ k, k < 5 → (s.extract i (i + 5)).get! k = s.get! (i + k) := fun k hk => by
      rw [← get_get! _ k (by omega), ← get_get! s (i + k) (by omega)]
      simp [ByteArray.getElem_extract]
    have hud : ∀ k, k < 5 → isD (s.extract i (i + 5)) k = isD s (i + k) := fun k hk => by
      unfold isD
      have h1 : decide (k < (s.extract i (i + 5)).size) = true := decide_eq_true (by omega)
      have h2 : decide (i + k < s.size) = true := decide_eq_true (by omega)
      rw [hug k hk, h1, h2]
    have huc : cnt (s.extract i (i + 5)) 1 4 = 4 := by
      have d1 := cnt_digit s 4 (i + 1) 0 (by omega)
      have d2 := cnt_digit s 4 (i + 1) 1 (by omega)
      have d3 := cnt_digit s 4 (i + 1) 2 (by omega)
      have d4 := cnt_digit s 4 (i + 1) 3 (by omega)
      simp only [cnt]
      rw [hud 1 (by omega), hud (1 + 1) (by omega), hud (1 + 1 + 1) (by omega), hud (1 + 1 + 1 + 1) (by omega)]
      rw [show i + 1 + 0 = i + 1 by omega] at d1
      rw [show i + 1 + 1 = i + (1 + 1) by omega] at d2
      rw [show i + 1 + 2 = i + (1 + 1 + 1) by omega] at d3
      rw [show i + 1 + 3 = i + (1 + 1 + 1 + 1) by omega] at d4
      simp [d1, d2, d3, d4]
    have hn1 : nv (s.extract i (i + 5)) 1 2 = nv s (i + 1) 2 := by
      unfold nv
      rw [ByteArray.extract_extract, show min (i + (1 + 2)) (i + 5) = i + 1 + 2 by omega]
    have hn3 : nv (s.extract i (i + 5)) 3 2 = nv s (i + 3) 2 := by
      unfold nv
      rw [ByteArray.extract_extract, show min (i + (3 + 2)) (i + 5) = i + 3 + 2 by omega]
    have c48 := fun W => zone48_any W (s.extract i (i + 5)) hu5 huc 45 (by rw [hug 0 (by omega)]; exact h45) (.inr rfl)
    rw [hn1, hn3] at c48
    generalize nv s (i + 1) 2 = ZH at *
    generalize nv s (i + 3) 2 = ZM at *
    clear hu5 hug hud huc hn1 hn3 h4 hc4 h45
    have hiI : (i : Int) + 5 ≤ (s.size : Int) := by omega
    by_cases hlt : i + 5 < s.size
    · have hl1 : decide (i + 5 = s.size) = false := decide_eq_false (by omega)
      rw [hl1, nx_in hlt, Bool.false_or]
      have hlI : decide ((i : Int) + 5 < (s.size : Int)) = true := by simp; omega
      by_cases h5 : (s.get! (i + 5)).toNat = 45
      · have hxI : ((s[i + 5].toNat : Int) != 45) = false := by rw [get_get! s (i + 5) hlt, h5]; rfl
        rw [decide_eq_true h5, Bool.and_true]
        go_enter Tryz.func92, Tryz.ntmps92
        go_wp2_with first | (go_at_call 56; refine (c32 _).mono ?_; rintro e w' ⟨rfl, rfl⟩) | (go_at_call 113; refine (c48 _).mono ?_; rintro e w' ⟨zz, rfl, _, rfl⟩)
        go_ret
        exact ⟨rfl, rfl⟩
      · have hxI : ((s[i + 5].toNat : Int) != 45) = true := by rw [get_get! s (i + 5) hlt]; simp; omega
        rw [decide_eq_false h5, Bool.and_false]
        go_enter Tryz.func92, Tryz.ntmps92
        go_wp2_with first | (go_at_call 56; refine (c32 _).mono ?_; rintro e w' ⟨rfl, rfl⟩) | (go_at_call 113; refine (c48 _).mono ?_; rintro e w' ⟨zz, rfl, _, rfl⟩)
        go_ret
        exact ⟨rfl, rfl⟩
    · have hl1 : decide (i + 5 = s.size) = true := decide_eq_true (by omega)
      rw [hl1, Bool.true_or, Bool.and_true]
      have hlI : decide ((i : Int) + 5 < (s.size : Int)) = false := by simp; omega
      go_enter Tryz.func92, Tryz.ntmps92
      go_wp2_with first | (go_at_call 56; refine (c32 _).mono ?_; rintro e w' ⟨rfl, rfl⟩) | (go_at_call 113; refine (c48 _).mono ?_; rintro e w' ⟨zz, rfl, _, rfl⟩)
      go_ret
      exact ⟨rfl, rfl⟩
  · rw [zs_no hi h45 (by omega)]
    have hne : ((cnt s (i + 1) 4 : Int) != 4) = true := by simp; omega
    generalize cnt s (i + 1) 4 = C at *
    go_enter Tryz.func92, Tryz.ntmps92
    go_wp2_with first | (go_at_call 56; refine (c32 _).mono ?_; rintro e w' ⟨rfl, rfl⟩)
    go_ret
    exact ⟨rfl, rfl⟩
set_option maxRecDepth 100000 in
set_option maxHeartbeats 2000000 in
theorem bar7_any (w : World) (s : ByteArray) (hs : s.size ≤ 140737488351232) : Calls Tryz.prog 54 #[.int .i64 7, .string s] w fun e w' => e = .returned (.int .i64 (dz s s.size 0)) ∧ w = w' := by
  have cS := fun W i h1 h2 => sign_any W s hs i h1 h2
  obtain ⟨R, hR⟩ : ∃ R, dz s s.size 0 = R := ⟨_, rfl⟩
  have HR : Hid (dz s (s.size - 0) 0 = R) := hR
  rw [hR]
  clear hR
  go_enter Tryz.func54, Tryz.ntmps54
  go_wp2
  go_loopg [5] s.size (fun g s5 wx => ∃ i : Nat, s5 = .int .i64 (i : Int) ∧ i ≤ s.size ∧ g + i = s.size ∧ Hid (dz s (s.size - i) i = R) ∧ w = wx)
  case atStart => exact ⟨0, rfl, by omega, by omega, HR, rfl⟩
  case round =>
    obtain ⟨i, rfl, hi, hg, HI, rfl⟩ := hrel
    by_cases hlt : i < s.size
    · have hl : decide ((i : Int) < (s.size : Int)) = true := by simp; omega
      have HI2 : Hid ((if (s.get! i).toNat = 45 ∧ (i = 0 ∨ zs s i = false) then (i : Int) else dz s (s.size - (i + 1)) (i + 1)) = R) := by
        have := HI.out
        rw [show s.size - i = (s.size - (i + 1)) + 1 by omega, dz] at this
        exact this
      clear HI
      by_cases h45 : (s.get! i).toNat = 45
      · have hx : ((s[i].toNat : Int) == 45) = true := by rw [get_get! s i hlt, h45]; rfl
        have cs := cS w i hlt h45
        cases hz : zs s i with
        | false =>
          rw [hz] at cs
          have e : Hid ((i : Int) = R) := by have := HI2.out; rw [if_pos ⟨h45, .inr hz⟩] at this; exact this
          clear HI2 cS
          by_cases h0 : i = 0
          · subst h0
            go_wp2_with first | (go_at_call 92; refine (cs).mono ?_; rintro e w' ⟨rfl, rfl⟩)
            go_ret
            exact ⟨by rw [← e.out]; rfl, rfl⟩
          · have h0I : ((i : Int) == 0) = false := by simp; omega
            go_wp2_with first | (go_at_call 92; refine (cs).mono ?_; rintro e w' ⟨rfl, rfl⟩)
            go_ret
            exact ⟨by rw [← e.out]; rfl, rfl⟩
        | true =>
          rw [hz] at cs
          by_cases h0 : i = 0
          · have e : Hid ((i : Int) = R) := by have := HI2.out; rw [if_pos ⟨h45, .inl h0⟩] at this; exact this
            clear HI2 cS
            subst h0
            go_wp2_with first | (go_at_call 92; refine (cs).mono ?_; rintro e w' ⟨rfl, rfl⟩)
            go_ret
            exact ⟨by rw [← e.out]; rfl, rfl⟩
          · have h0I : ((i : Int) == 0) = false := by simp; omega
            have HI3 : Hid (dz s (s.size - (i + 1)) (i + 1) = R) := by have := HI2.out; rw [if_neg (by rintro ⟨_, h | h⟩; exact h0 h; rw [hz] at h; cases h)] at this; exact this
            clear HI2 cS
            go_wp2_with first | (go_at_call 92; refine (cs).mono ?_; rintro e w' ⟨rfl, rfl⟩)
            go_roundg (s.size - (i + 1))
            case measure => omega
            case rel => exact ⟨i + 1, by simp, by omega, by omega, HI3, rfl⟩
      · have hx : ((s[i].toNat : Int) == 45) = false := by rw [get_get! s i hlt]; simp; omega
        have HI3 : Hid (dz s (s.size - (i + 1)) (i + 1) = R) := by have := HI2.out; rw [if_neg (fun h => h45 h.1)] at this; exact this
        clear HI2 cS
        go_wp2
        go_roundg (s.size - (i + 1))
        case measure => omega
        case rel => exact ⟨i + 1, by simp, by omega, by omega, HI3, rfl⟩
    · have hl : decide ((i : Int) < (s.size : Int)) = false := by simp; omega
      have e : Hid ((-1 : Int) = R) := by
        have := HI.out
        rw [show s.size - i = 0 by omega, dz] at this
        exact this
      clear HI cS
      go_wp2
      go_ret
      exact ⟨by rw [← e.out]; rfl, rfl⟩
theorem at_get {s : ByteArray} {k : Nat} (hk : k < s.size) : s.data.toList[k]? = some (s.get! k) := by
  rw [← get_get! s k hk]
  have h2 : k < s.data.size := hk
  rw [Array.getElem?_toList, Array.getElem?_eq_getElem h2]
  rfl
theorem u45 {b : UInt8} (h : b.toNat = 45) : b = 45 := UInt8.toNat_inj.1 h
theorem ib_at {s : ByteArray} {i : Nat} (hi : i < s.size) (h : (s.get! i).toNat = 45) (hk : ∀ k, k < i → (s.get! k).toNat ≠ 45) : Lib.indexByte s.data.toList 45 = (i : Int) := by
  have hl : s.data.toList[i]? = some 45 := by rw [at_get hi, u45 h]
  have hge := Lib.indexByte_ge s.data.toList 45
  by_cases h1 : Lib.indexByte s.data.toList 45 = -1
  · exact absurd hl (Lib.indexByte_none h1 i)
  · obtain ⟨o, ho⟩ : ∃ o : Nat, Lib.indexByte s.data.toList 45 = (o : Int) := ⟨(Lib.indexByte s.data.toList 45).toNat, by omega⟩
    obtain ⟨h2, h3⟩ := Lib.indexByte_some ho
    rw [ho]
    rcases Nat.lt_trichotomy o i with h4 | h4 | h4
    · have := hk o h4
      rw [at_get (by omega)] at h2
      rw [Option.some.inj h2] at this
      exact absurd rfl this
    · rw [h4]
    · exact absurd hl (h3 i h4)
theorem ib_no {s : ByteArray} (hk : ∀ k, k < s.size → (s.get! k).toNat ≠ 45) : Lib.indexByte s.data.toList 45 = -1 := by
  have hge := Lib.indexByte_ge s.data.toList 45
  by_cases h1 : Lib.indexByte s.data.toList 45 = -1
  · exact h1
  · obtain ⟨o, ho⟩ : ∃ o : Nat, Lib.indexByte s.data.toList 45 = (o : Int) := ⟨(Lib.indexByte s.data.toList 45).toNat, by omega⟩
    obtain ⟨h2, _⟩ := Lib.indexByte_some ho
    have hlt : o < s.size := by
      obtain ⟨h4, _⟩ := List.getElem?_eq_some_iff.1 h2
      rw [Array.length_toList] at h4
      exact h4
    have := hk o hlt
    rw [at_get hlt] at h2
    rw [Option.some.inj h2] at this
    exact absurd rfl this
set_option maxRecDepth 100000 in
set_option maxHeartbeats 2000000 in
theorem barx_any (w : World) (vr : Int) (hv : vr ≠ 7) (s : ByteArray) (hs : s.size ≤ 140737488351232) : Calls Tryz.prog 54 #[.int .i64 vr, .string s] w fun e w' => e = .returned (.int .i64 (Lib.indexByte s.data.toList 45)) ∧ w = w' := by
  obtain ⟨R, hR⟩ : ∃ R, Lib.indexByte s.data.toList 45 = R := ⟨_, rfl⟩
  have HR : Hid (Lib.indexByte s.data.toList 45 = R) := hR
  rw [hR]
  clear hR
  have hvI : (vr != 7) = true := by simpa using hv
  go_enter Tryz.func54, Tryz.ntmps54
  go_wp2
  go_loopg [5] s.size (fun g s5 wx => ∃ i : Nat, s5 = .int .i64 (i : Int) ∧ i ≤ s.size ∧ g + i = s.size ∧ Hid (∀ k, k < i → (s.get! k).toNat ≠ 45) ∧ w = wx)
  case atStart => exact ⟨0, rfl, by omega, by omega, fun k hk => absurd hk (Nat.not_lt_zero _), rfl⟩
  case round =>
    obtain ⟨i, rfl, hi, hg, HI, rfl⟩ := hrel
    by_cases hlt : i < s.size
    · have hl : decide ((i : Int) < (s.size : Int)) = true := by simp; omega
      by_cases h45 : (s.get! i).toNat = 45
      · have hx : ((s[i].toNat : Int) == 45) = true := by rw [get_get! s i hlt, h45]; rfl
        have e : Hid ((i : Int) = R) := by have := HR.out; rw [ib_at hlt h45 HI.out] at this; exact this
        clear HI HR
        go_wp2
        go_ret
        exact ⟨by rw [← e.out]; rfl, rfl⟩
      · have hx : ((s[i].toNat : Int) == 45) = false := by rw [get_get! s i hlt]; simp; omega
        have HI3 : Hid (∀ k, k < i + 1 → (s.get! k).toNat ≠ 45) := fun k hk => by
          rcases Nat.lt_succ_iff_lt_or_eq.1 hk with h | h
          · exact HI.out k h
          · rw [h]; exact h45
        clear HI
        go_wp2
        go_roundg (s.size - (i + 1))
        case measure => omega
        case rel => exact ⟨i + 1, by simp, by omega, by omega, HI3, rfl⟩
    · have hl : decide ((i : Int) < (s.size : Int)) = false := by simp; omega
      have e : Hid ((-1 : Int) = R) := by
        have := HR.out
        rw [ib_no (fun k hk => HI.out k (by omega))] at this
        exact this
      clear HI HR
      go_wp2
      go_ret
      exact ⟨by rw [← e.out]; rfl, rfl⟩
theorem bar_any (w : World) (vr : Int) (s : ByteArray) (hs : s.size ≤ 140737488351232) : Calls Tryz.prog 54 #[.int .i64 vr, .string s] w fun e w' => e = .returned (.int .i64 (dsh vr s)) ∧ w = w' := by
  unfold dsh
  by_cases hv : vr = 7
  · subst hv
    rw [if_pos rfl]
    exact bar7_any w s hs
  · rw [if_neg hv]
    exact barx_any w vr hv s hs
end Go.Proofs.YtehgeninocbpeaaGreatDoor.Tm

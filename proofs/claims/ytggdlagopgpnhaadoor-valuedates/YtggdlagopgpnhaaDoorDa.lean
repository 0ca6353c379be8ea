import Derived.Test.YtggdlagopgpnhaaDoorU
/-
  DERIVED. The law of days: the walk.
-/
namespace Go.Proofs.YtggdlagopgpnhaaDoor
open Go Go.Proofs Go.RowKit

theorem Kst.start (w : World) : Kst w w [] [] [] := ⟨(fun _ h => by cases h), (fun _ h => by cases h), (fun _ h => by cases h), Below.refl _ _⟩

set_option maxRecDepth 100000 in
set_option maxHeartbeats 2000000 in
theorem dates_any (w : World) (s : ByteArray) (hs : s.size ≤ 140737488351232) (y m d n : Int) (hT : Mt w) (hp : Pow w) : Calls Tryd.prog 4 #[.string s, dv y m d, .int .i64 n] w (PostN w (.bool true)) := by
  have HT : Hid (Mt w) := hT
  have HP : Hid (Pow w) := hp
  have HS : Hid (s.size ≤ 140737488351232) := hs
  clear hT hp hs
  obtain ⟨B0, hB0⟩ : ∃ B0, w.heap.size = B0 := ⟨_, rfl⟩
  obtain ⟨W0, hW0⟩ : ∃ W0, w.alloc (.cells #[.int .i64 y, .int .i64 m, .int .i64 d] 23) = W0 := ⟨_, rfl⟩
  have K0 : Hid (Kst w W0 [(B0, 23, 3, f3 y m d)] [] []) := by
    show Kst _ _ _ _ _
    rw [← hW0, ← hB0]; exact (Kst.start w).date y m d
  obtain ⟨ya, ma, da, hrd⟩ := rd_is s
  have c10 := parse10_any W0 s HS.out (HT.out.on K0.out.b)
  rw [hrd] at c10
  unfold dv at *
  go_enter Tryd.func4, Tryd.ntmps4
  go_wp2_with (go_at_call 10; refine Stop.mk ?_)
  refine Stop.out (c10.mono ?_)
  rintro e W1 ⟨v1, rfl, hv1, hb1⟩
  have K1 : Hid (Kst w W1 [(B0, 23, 3, f3 y m d)] [(v1, oP s)] []) := (K0.out.on hb1).addP hv1
  obtain ⟨B1, hB1⟩ : ∃ B1, W1.heap.size = B1 := ⟨_, rfl⟩
  obtain ⟨Wa, hWa⟩ : ∃ Wa, W1.alloc (.cells #[.int .i64 ya, .int .i64 ma, .int .i64 da] 23) = Wa := ⟨_, rfl⟩
  have Ka : Hid (Kst w Wa [(B1, 23, 3, f3 ya ma da), (B0, 23, 3, f3 y m d)] [(v1, oP s)] []) := by
    show Kst _ _ _ _ _
    rw [← hWa, ← hB1]; exact K1.out.date ya ma da
  have c11 := parse11_any Wa s HS.out
  rw [hrd] at c11
  clear c10 hv1 hb1 K0 K1 hW0
  go_wp2_with (go_at_call 11; refine Stop.mk ?_)
  refine Stop.out (c11.mono ?_)
  rintro e W2 ⟨u1, rfl, hu1, hb2⟩
  have K2 : Hid (Kst w W2 [(B1, 23, 3, f3 ya ma da), (B0, 23, 3, f3 y m d)] [(v1, oP s)] [(u1, oP s)]) := (Ka.out.on hb2).addQ hu1
  obtain ⟨p1, l1, j1, e1, rfl⟩ := hu1.shape
  clear c11 hu1 hb2 Ka hWa
  go_upto_region 3 with fail
  obtain ⟨B2, hB2⟩ : ∃ B2, W2.heap.size = B2 := ⟨_, rfl⟩
  obtain ⟨Wc, hWc⟩ : ∃ Wc, (W2.alloc (.cells #[.int .i64 ya, .int .i64 ma, .int .i64 da] 23)).alloc (.cells #[.slice p1 l1 j1, .int .i64 e1] 37) = Wc := ⟨_, rfl⟩
  have Kc : Hid (Kst w Wc [(B2 + 1, 37, 2, f2 (.slice p1 l1 j1) (.int .i64 e1)), (B2, 23, 3, f3 ya ma da), (B1, 23, 3, f3 ya ma da), (B0, 23, 3, f3 y m d)] [(v1, oP s)] [(.agg #[.slice p1 l1 j1, .int .i64 e1], oP s)]) := by
    have h := (K2.out.date ya ma da).fault (.slice p1 l1 j1) (.int .i64 e1)
    rw [hWc, hB2] at h
    show Kst _ _ _ _ _
    simpa [hB2] using h
  rw [hWc, hB2]
  clear hWc hB2 K2
  obtain ⟨q0, q1, q2⟩ := Kc.out.d3 (q := B0) (y := y) (m := m) (d := d) (by simp)
  have c9 := print9_any Wc y m d (HT.out.on Kc.out.b) (HP.out.on Kc.out.b)
  have HX : Hid (nz (wo y m d)) := nz_wo y m d
  have c12 := fun W => print12_any W y m d
  have c7 := fun W h => dnum_any W y m d h
  have c13 := fun W => dnum13_any W y m d
  rw [show (if uf y m d = -1 then none else some (uf y m d, (102 : Int))) = wo y m d from rfl] at c7 c13
  generalize wr12 y m d = T at *
  generalize wo y m d = o2 at *
  generalize (if uf y m d = -1 then (num y.toNat m.toNat d.toNat : Int) else 0) = N at *
  unfold dv at c9 c12 c7 c13
  go_wp2_with (go_at_call 9; refine Stop.mk ?_)
  refine Stop.out (c9.mono ?_)
  rintro e W3 ⟨v2, rfl, hv2, hb3⟩
  have K3 := (Kc.out.on hb3).addP hv2
  clear c9 q0 q1 q2 hv2 hb3 Kc
  have K3' : Hid _ := K3
  obtain ⟨q0, q1, q2⟩ := K3.d3 (q := B0) (y := y) (m := m) (d := d) (by simp)
  clear K3
  go_wp2_with (go_at_call 12; refine Stop.mk ?_)
  refine Stop.out ((c12 _).mono ?_)
  rintro e W4 ⟨u2, rfl, hu2, hb4⟩
  have K4 := (K3'.out.on hb4).addQ hu2
  obtain ⟨p2, l2, j2, e2, rfl⟩ := hu2.shape
  have K4' : Hid _ := K4
  clear c12 q0 q1 q2 hu2 hb4 K3' K4
  go_upto_region 5 with fail
  obtain ⟨B4, hB4⟩ : ∃ B4, W4.heap.size = B4 := ⟨_, rfl⟩
  obtain ⟨Wd, hWd⟩ : ∃ Wd, W4.alloc (.cells #[.slice p2 l2 j2, .int .i64 e2] 37) = Wd := ⟨_, rfl⟩
  have Kd := K4'.out.fault (.slice p2 l2 j2) (.int .i64 e2)
  rw [hWd, hB4] at Kd
  rw [hWd, hB4]
  have Kd' : Hid _ := Kd
  obtain ⟨q0, q1, q2⟩ := Kd.d3 (q := B0) (y := y) (m := m) (d := d) (by simp)
  have c7' := c7 Wd (HT.out.on Kd.b)
  clear hWd hB4 K4' Kd c7
  go_wp2_with (go_at_call 7; refine Stop.mk ?_)
  refine Stop.out (c7'.mono ?_)
  rintro e W5 ⟨v3, rfl, hv3, hb5⟩
  have K5 := (Kd'.out.on hb5).addP hv3
  have K5' : Hid _ := K5
  clear c7' q0 q1 q2 hv3 hb5 Kd'
  obtain ⟨q0, q1, q2⟩ := K5.d3 (q := B0) (y := y) (m := m) (d := d) (by simp)
  clear K5
  go_wp2_with (go_at_call 13; refine Stop.mk ?_)
  refine Stop.out ((c13 _).mono ?_)
  rintro e W6 ⟨u3, rfl, hu3, hb6⟩
  have K6 := (K5'.out.on hb6).addQ hu3
  obtain ⟨p3, l3, j3, e3, rfl⟩ := hu3.shape
  have K6' : Hid _ := K6
  clear c13 q0 q1 q2 hu3 hb6 K5' K6
  go_upto_region 7 with fail
  obtain ⟨B6, hB6⟩ : ∃ B6, W6.heap.size = B6 := ⟨_, rfl⟩
  obtain ⟨We, hWe⟩ : ∃ We, W6.alloc (.cells #[.slice p3 l3 j3, .int .i64 e3] 37) = We := ⟨_, rfl⟩
  have Ke := K6'.out.fault (.slice p3 l3 j3) (.int .i64 e3)
  rw [hWe, hB6] at Ke
  rw [hWe, hB6]
  have Ke' : Hid _ := Ke
  have c6 := of6 We n (HT.out.on Ke.b)
  clear hWe hB6 K6' Ke
  go_wp2_with (go_at_call 6; refine Stop.mk ?_)
  refine Stop.out (c6.mono ?_)
  rintro e W7 ⟨v4, yx, mx, dx, rfl, hpd, hv4, hb7⟩
  have K7 := (Ke'.out.on hb7).addP hv4
  have K7' : Hid _ := K7
  clear c6 hv4 hb7 Ke' K7
  unfold dv
  go_upto_region 8 with fail
  obtain ⟨B7, hB7⟩ : ∃ B7, W7.heap.size = B7 := ⟨_, rfl⟩
  obtain ⟨Wf, hWf⟩ : ∃ Wf, W7.alloc (.cells #[.int .i64 yx, .int .i64 mx, .int .i64 dx] 23) = Wf := ⟨_, rfl⟩
  have Kf := K7'.out.date yx mx dx
  rw [hWf, hB7] at Kf
  rw [hWf, hB7]
  have Kf' : Hid _ := Kf
  clear hWf hB7 K7' Kf
  have c14 := of14 Wf n
  go_wp2_with (go_at_call 14; refine Stop.mk ?_)
  refine Stop.out (c14.mono ?_)
  rintro e W8 ⟨u4, yz, mz, dz, rfl, hpd', hu4, hb8⟩
  have K8 := (Kf'.out.on hb8).addQ hu4
  obtain ⟨p4, l4, j4, e4, rfl⟩ := hu4.shape
  obtain ⟨rfl, rfl, rfl⟩ := PD_one hpd hpd'
  have K8' : Hid _ := K8
  have HO : Hid (nz (dO n)) := nz_dO n
  have HOs : Hid (nz (oP s)) := nz_oP s
  clear c14 hu4 hb8 Kf' K8 hpd hpd'
  unfold dv
  go_upto_region 9 with fail
  obtain ⟨B8, hB8⟩ : ∃ B8, W8.heap.size = B8 := ⟨_, rfl⟩
  obtain ⟨Wg, hWg⟩ : ∃ Wg, (W8.alloc (.cells #[.int .i64 yx, .int .i64 mx, .int .i64 dx] 23)).alloc (.cells #[.slice p4 l4 j4, .int .i64 e4] 37) = Wg := ⟨_, rfl⟩
  have Kg := (K8'.out.date yx mx dx).fault (.slice p4 l4 j4) (.int .i64 e4)
  rw [hWg, hB8] at Kg
  rw [hWg, hB8]
  have hz : (W8.alloc (.cells #[.int .i64 yx, .int .i64 mx, .int .i64 dx] 23)).heap.size = B8 + 1 := by simp [hB8]
  rw [hz] at Kg
  have Kg' : Hid _ := Kg
  clear hWg hB8 K8' hz
  obtain ⟨a0, a1, a2⟩ := Kg.d3 (q := B1) (y := ya) (m := ma) (d := da) (by simp)
  obtain ⟨b0, b1, b2⟩ := Kg.d3 (q := B2) (y := ya) (m := ma) (d := da) (by simp)
  obtain ⟨x0, x1, x2⟩ := Kg.d3 (q := B7) (y := yx) (m := mx) (d := dx) (by simp)
  obtain ⟨y0, y1, y2⟩ := Kg.d3 (q := B8) (y := yx) (m := mx) (d := dx) (by simp)
  obtain ⟨g0, g1⟩ := Kg.f2c (q := B2 + 1) (a := .slice p1 l1 j1) (b := .int .i64 e1) (by simp)
  have i1 := is_yes (Kg.p (v1, oP s) (by simp)) (Kg.q (.agg #[.slice p1 l1 j1, .int .i64 e1], oP s) (by simp)) HOs.out
  clear Kg
  go_wp2_with (go_at_call 15; refine Stop.mk ?_)
  refine Stop.out (i1.mono ?_)
  rintro e W9 ⟨rfl, hb9⟩
  have K9 := Kg'.out.on hb9
  have K9' : Hid _ := K9
  clear i1 hb9 Kg' a0 a1 a2 b0 b1 b2 x0 x1 x2 y0 y1 y2 g0 g1
  obtain ⟨g0, g1⟩ := K9.f2c (q := B4) (a := .slice p2 l2 j2) (b := .int .i64 e2) (by simp)
  have i2 := is_yes (K9.p (v2, o2) (by simp)) (K9.q (.agg #[.slice p2 l2 j2, .int .i64 e2], o2) (by simp)) HX.out
  clear K9
  go_wp2_with (go_at_call 15; refine Stop.mk ?_)
  refine Stop.out (i2.mono ?_)
  rintro e W10 ⟨rfl, hb10⟩
  have K10 := K9'.out.on hb10
  have K10' : Hid _ := K10
  clear i2 hb10 K9' g0 g1
  obtain ⟨g0, g1⟩ := K10.f2c (q := B6) (a := .slice p3 l3 j3) (b := .int .i64 e3) (by simp)
  have i3 := is_yes (K10.p (v3, o2) (by simp)) (K10.q (.agg #[.slice p3 l3 j3, .int .i64 e3], o2) (by simp)) HX.out
  clear K10
  go_wp2_with (go_at_call 15; refine Stop.mk ?_)
  refine Stop.out (i3.mono ?_)
  rintro e W11 ⟨rfl, hb11⟩
  have K11 := K10'.out.on hb11
  have K11' : Hid _ := K11
  clear i3 hb11 K10' g0 g1
  obtain ⟨g0, g1⟩ := K11.f2c (q := B8 + 1) (a := .slice p4 l4 j4) (b := .int .i64 e4) (by simp)
  have i4 := is_yes (K11.p (v4, dO n) (by simp)) (K11.q (.agg #[.slice p4 l4 j4, .int .i64 e4], dO n) (by simp)) HO.out
  clear K11
  go_wp2_with (go_at_call 15; refine Stop.mk ?_)
  refine Stop.out (i4.mono ?_)
  rintro e W12 ⟨rfl, hb12⟩
  have K12 := (K11'.out.on hb12).b
  clear i4 hb12 K11' g0 g1
  go_wp2
  go_ret
  exact ⟨rfl, K12⟩
end Go.Proofs.YtggdlagopgpnhaaDoor

import Derived.Test.YtehgeninocbpeaaGreatDoorOa
import Derived.Test.YtehgeninocbpeaaGreatDoorQZ
namespace Go.Proofs.YtehgeninocbpeaaGreatDoor.Tm
open Go Go.Proofs Go.RowKit
structure TB (S : Mst) : Prop where
  dat : S.y = 1 ∧ S.m = 1 ∧ S.d = 1 ∧ S.dp = 3 ∧ S.zd = false ∧ S.z = 0
  bn : S.o = none → S.h ≤ 23 ∧ S.mi ≤ 59 ∧ S.sc ≤ 60
  mc : S.mc ≤ 999999
theorem pcO_none {s : ByteArray} {S : Mst} {k : Nat} {lo hi : Int} (h : pcO s S k lo hi = none) : S.o = none ∧ (pcN s S k : Int) ≤ hi := by
  unfold pcO at h
  obtain ⟨h1, h2⟩ := nextD_none h
  simp only [Bool.or_eq_false_iff, decide_eq_false_iff_not] at h2
  exact ⟨h1, by omega⟩
theorem TB.hour {s : ByteArray} {S : Mst} (h : TB S) : TB (hourS s S) :=
  ⟨h.dat, fun e => by obtain ⟨e1, e2⟩ := pcO_none e; obtain ⟨_, b, c⟩ := h.bn e1; refine ⟨?_, b, c⟩; show pcN s S 2 ≤ 23; omega, h.mc⟩
theorem TB.minute {s : ByteArray} {S : Mst} (h : TB S) : TB (minuteS s S) :=
  ⟨h.dat, fun e => by obtain ⟨e1, e2⟩ := pcO_none e; obtain ⟨a, _, c⟩ := h.bn e1; refine ⟨a, ?_, c⟩; show pcN s S 2 ≤ 59; omega, h.mc⟩
theorem TB.second {s : ByteArray} {S : Mst} (h : TB S) : TB (secondS s S) :=
  ⟨h.dat, fun e => by obtain ⟨e1, e2⟩ := pcO_none e; obtain ⟨a, b, _⟩ := h.bn e1; refine ⟨a, b, ?_⟩; show pcN s S 2 ≤ 60; omega, h.mc⟩
theorem TB.frac {s : ByteArray} {S : Mst} (h : TB S) : TB (fracS s S) := by
  unfold fracS
  split
  · exact h
  · split
    · refine ⟨h.dat, h.bn, ?_⟩
      show nv s (S.a + 1) (frC s S) * 10 ^ (6 - frC s S) ≤ 999999
      have h1 : nv s (S.a + 1) (frC s S) < 10 ^ frC s S := nv_lt s (S.a + 1) (frC s S) 6 (Nat.le_refl _)
      have h2 : frC s S ≤ 6 := cnt_le s 6 (S.a + 1)
      generalize nv s (S.a + 1) (frC s S) = N at *
      generalize frC s S = c at *
      rcases (by omega : c = 0 ∨ c = 1 ∨ c = 2 ∨ c = 3 ∨ c = 4 ∨ c = 5 ∨ c = 6) with rfl | rfl | rfl | rfl | rfl | rfl | rfl <;> simp at h1 ⊢ <;> omega
    · exact h
theorem frac_p {s : ByteArray} {S : Mst} (h : 1 ≤ S.p ∧ S.p ≤ 3) : 1 ≤ (fracS s S).p ∧ (fracS s S).p ≤ 9 := by
  unfold fracS
  have h2 : frC s S ≤ 6 := cnt_le s 6 (S.a + 1)
  split
  · omega
  · split
    · show 1 ≤ S.p + frC s S ∧ S.p + frC s S ≤ 9
      omega
    · omega
theorem time_tb (s : ByteArray) : TB (timeS s) ∧ 1 ≤ (timeS s).p ∧ (timeS s).p ≤ 9 := by
  have h0 : TB st0 := ⟨⟨rfl, rfl, rfl, rfl, rfl, rfl⟩, fun _ => by decide, by decide⟩
  unfold timeS
  have h1 : TB (hourS s st0) := h0.hour
  have : TB (moreS s [minuteS s, secondS s] (hourS s st0)) ∧ 1 ≤ (moreS s [minuteS s, secondS s] (hourS s st0)).p ∧ (moreS s [minuteS s, secondS s] (hourS s st0)).p ≤ 3 := by
    rw [moreS]
    split
    · rw [moreS]
      split
      · rw [moreS]
        exact ⟨h1.minute.second, by show 1 ≤ 3; omega, by show 3 ≤ 3; omega⟩
      · exact ⟨h1.minute, by show 1 ≤ 2; omega, by show 2 ≤ 3; omega⟩
    · exact ⟨h1, by show 1 ≤ 1; omega, by show 1 ≤ 3; omega⟩
  exact ⟨this.1.frac, frac_p this.2⟩
theorem mon_f (s : ByteArray) (S : Mst) : (monthS s S).a = S.a + pcC s S 2 ∧ (monthS s S).b = (S.b || decide (pcC s S 2 < 2)) ∧ (monthS s S).o = pcO s S 2 1 12 ∧ (monthS s S).y = S.y ∧ (monthS s S).m = pcN s S 2 := ⟨rfl, rfl, rfl, rfl, rfl⟩
theorem day_f (s : ByteArray) (S : Mst) : (dayS s S).a = S.a + pcC s S 2 ∧ (dayS s S).b = (S.b || decide (pcC s S 2 < 2)) ∧ (dayS s S).o = pcO s S 2 1 (md S.y S.m : Nat) ∧ (dayS s S).y = S.y ∧ (dayS s S).m = S.m ∧ (dayS s S).d = pcN s S 2 := ⟨rfl, rfl, rfl, rfl, rfl, rfl⟩
theorem year_f (s : ByteArray) (S : Mst) : (yearS s S).a = S.a + pcC s S 4 ∧ (yearS s S).b = (S.b || decide (pcC s S 4 < 4)) ∧ (yearS s S).o = pcO s S 4 1 9999 ∧ (yearS s S).y = pcN s S 4 := ⟨rfl, rfl, rfl, rfl⟩
theorem date_is (s : ByteArray) : rdO s (dateF s 0) = oP s ∧ (dateF s 0).y = yy s ∧ (dateF s 0).m = mm s ∧ (dateF s 0).d = dd s := by
  unfold dateF
  have e0 : (stA 0).a = 0 ∧ (stA 0).b = false ∧ (stA 0).o = none := ⟨rfl, rfl, rfl⟩
  generalize stA 0 = S0 at *
  obtain ⟨a0, b0, c0⟩ := e0
  have p1 : pcC s S0 4 = k1 s := by unfold pcC k1; rw [a0, b0]; rfl
  obtain ⟨a1, b1, c1, d1⟩ := year_f s S0
  rw [p1, a0, Nat.zero_add] at a1
  rw [p1, b0, Bool.false_or] at b1
  have n1 : pcN s S0 4 = yy s := by unfold pcN yy; rw [p1, a0]
  have c1' : (yearS s S0).o = o1 s := by rw [c1]; unfold pcO o1; rw [n1, a0, c0]
  rw [n1] at d1
  clear c1
  generalize yearS s S0 = Y at *
  obtain ⟨a2, b2', c2, d2, m2⟩ := mon_f s Y
  have p2 : pcC s Y 2 = k2 s := by unfold pcC k2; rw [a1, b1]
  have n2 : pcN s Y 2 = mm s := by unfold pcN mm; rw [p2, a1]
  rw [p2, a1] at a2
  have b2'' : (monthS s Y).b = b2 s := by rw [b2', p2, b1]; rfl
  have c2' : (monthS s Y).o = o2 s := by rw [c2]; unfold pcO o2; rw [n2, a1, c1']
  rw [d1] at d2
  rw [n2] at m2
  clear c2 b2'
  generalize monthS s Y = M at *
  obtain ⟨a3, b3', c3, d3, m3, x3⟩ := day_f s M
  have p3 : pcC s M 2 = k3 s := by unfold pcC k3; rw [a2, b2'']
  have n3 : pcN s M 2 = dd s := by unfold pcN dd; rw [p3, a2]
  rw [p3, a2] at a3
  have b3'' : (dayS s M).b = b3 s := by rw [b3', p3, b2'']; rfl
  have c3' : (dayS s M).o = o3 s := by rw [c3]; unfold pcO o3; rw [n3, a2, c2', d2, m2]
  refine ⟨?_, by rw [d3, d2], by rw [m3, m2], by rw [x3, n3]⟩
  unfold rdO fmO oP oe
  rw [a3, b3'', c3']
theorem date_rest (s : ByteArray) : (dateF s 0).dp = 3 ∧ (dateF s 0).h = 0 ∧ (dateF s 0).mi = 0 ∧ (dateF s 0).sc = 0 ∧ (dateF s 0).mc = 0 ∧ (dateF s 0).p = 0 ∧ (dateF s 0).z = 0 := ⟨rfl, rfl, rfl, rfl, rfl, rfl, rfl⟩
def Iv (S : Mst) : Prop := (S.p = 0 ∧ S.h = 0 ∧ S.mi = 0 ∧ S.sc = 0 ∧ S.mc = 0) ∨ (1 ≤ S.p ∧ S.dp = 3)
theorem iv_frac {s : ByteArray} {S : Mst} (h : Iv S) : Iv (fracS s S) := by
  unfold fracS
  split
  · exact h
  · split
    · rcases h with h | h
      · omega
      · exact .inr ⟨by show 1 ≤ S.p + frC s S; omega, h.2⟩
    · exact h
theorem zone_p (s : ByteArray) (S : Mst) : (zoneS s S).p = S.p ∧ (zoneS s S).h = S.h ∧ (zoneS s S).mi = S.mi ∧ (zoneS s S).sc = S.sc ∧ (zoneS s S).mc = S.mc ∧ (zoneS s S).dp = S.dp := by
  unfold zoneS
  split <;> exact ⟨rfl, rfl, rfl, rfl, rfl, rfl⟩
theorem iv_zone {s : ByteArray} {S : Mst} (h : Iv S) : Iv (zoneS s S) := by
  obtain ⟨h1, h2, h3, h4, h5, h6⟩ := zone_p s S
  unfold Iv
  rw [h1, h2, h3, h4, h5, h6]
  exact h
theorem iv_mom (s : ByteArray) (a : Nat) : Iv (momF s a) := by
  unfold momF
  refine iv_zone (iv_frac ?_)
  rw [moreS]
  split
  · rw [moreS]
    split
    · rw [moreS]
      split
      · rw [moreS]
        split
        · rw [moreS]
          split
          · rw [moreS]; exact .inr ⟨by show 1 ≤ 3; omega, rfl⟩
          · exact .inr ⟨by show 1 ≤ 2; omega, rfl⟩
        · exact .inr ⟨by show 1 ≤ 1; omega, rfl⟩
      · exact .inl ⟨rfl, rfl, rfl, rfl, rfl⟩
    · exact .inl ⟨rfl, rfl, rfl, rfl, rfl⟩
  · exact .inl ⟨rfl, rfl, rfl, rfl, rfl⟩
theorem yl_dA (y : Nat) (h : 1 ≤ y) : (dA (y + 1) : Int) - (dA y : Int) = (yl y : Int) := by
  rw [dA_next y h]
  unfold yl
  split <;> omega
end Go.Proofs.YtehgeninocbpeaaGreatDoor.Tm

namespace Go.Proofs.YtehgeninocbpeaaGreatDoor.Tm
open Go Go.Proofs Go.RowKit
structure Om (w W : World) (b : Nat) (f : Nat → Value) : Prop where
  m : W.rowIs b 130 11 f
  r : W.rowIs (b + 1) 66 2 (f2 0 0)
  b : Below b w W
theorem Om.on {w W W' : World} {b : Nat} {f : Nat → Value} (h : Om w W b f) (hb : Below W.heap.size W W') : Om w W' b f :=
  ⟨h.m.of_block (hb.block _ h.m.lt), h.r.of_block (hb.block _ h.r.lt), h.b.trans (hb.mono (Nat.le_of_lt h.m.lt))⟩
theorem Om.start (w : World) (y m d dp h mi sc mc p : Nat) (zd : Bool) (z : Int) : Om w ((w.alloc (.cells #[.int .i64 (y : Int), .int .i64 (m : Int), .int .i64 (d : Int), .int .i64 (dp : Int), .int .i64 (h : Int), .int .i64 (mi : Int), .int .i64 (sc : Int), .int .i64 (mc : Int), .int .i64 (p : Int), .bool zd, .int .i64 z] 130)).alloc (.cells #[.int .i64 0, .int .i64 0] 66)) w.heap.size (f11 y m d dp h mi sc mc p zd z) := by
  refine ⟨World.rowIs.alloc (World.rowIs_alloc w _ 130 _ (row_lit _)) _, ?_, ((Below.refl _ _).alloc (Nat.le_refl _) _).alloc (by simp) _⟩
  have := World.rowIs_alloc (w.alloc (.cells #[.int .i64 (y : Int), .int .i64 (m : Int), .int .i64 (d : Int), .int .i64 (dp : Int), .int .i64 (h : Int), .int .i64 (mi : Int), .int .i64 (sc : Int), .int .i64 (mc : Int), .int .i64 (p : Int), .bool zd, .int .i64 z] 130)) #[.int .i64 0, .int .i64 0] 66 _ (row_lit _)
  rw [World.size_alloc] at this
  exact this
theorem num_le {y m d : Nat} (hd : Day y m d) : num y m d ≤ 3700000 := by
  have := dA_le (y := y) (by unfold Day at hd; omega)
  have := cu_le y (m - 1)
  have := md_le y m
  unfold Day at hd
  unfold num
  omega
theorem yl_le (y : Nat) : yl y ≤ 366 := by unfold yl; split <;> omega
set_option maxRecDepth 100000 in
set_option maxHeartbeats 2000000 in
theorem ofMoment_day (w : World) (y m d dp h mi sc mc : Nat) (zd : Bool) (z : Int) (hd : Day y m d) (hdp1 : 1 ≤ dp) (hdp3 : dp ≤ 3) (hz1 : -720 ≤ z) (hz2 : z ≤ 840) (L : Nat) (hL : L = if dp = 1 then yl y * 87840000000 else if dp = 2 then md y m * 87840000000 else 87840000000) :
    Calls Tryz.prog 87 #[mV y m d dp h mi sc mc 0 zd z] w fun e w' => e = .returned (sp (((num y m d * 87840000000 : Nat) : Int) - z * 61000000) (((num y m d * 87840000000 : Nat) : Int) - z * 61000000 + (L : Int) - 1)) ∧ Below w.heap.size w w' := by
  have hm12 : 1 ≤ m ∧ m ≤ 12 := by unfold Day at hd; omega
  have c13 := fun W => count37_any W y m d hd
  have hN := num_le hd
  have c12 := fun W => ticks_any W (num y m d) hN
  have c34 := fun W => year38_any W y
  have c35 := fun W => month39_any W y m hm12.1 hm12.2
  have hyl := yl_le y
  have hml := md_le y m
  have hFb : num y m d * 87840000000 ≤ 400000000000000000 := by omega
  generalize num y m d * 87840000000 = F at c12 hFb ⊢
  generalize num y m d = N at c13 c12
  generalize yl y = Y at hL hyl c34
  generalize md y m = M at hL hml c35
  obtain ⟨b, hb⟩ : ∃ b, w.heap.size = b := ⟨_, rfl⟩
  obtain ⟨W0, hW0⟩ : ∃ W0, (w.alloc (.cells #[.int .i64 (y : Int), .int .i64 (m : Int), .int .i64 (d : Int), .int .i64 (dp : Int), .int .i64 (h : Int), .int .i64 (mi : Int), .int .i64 (sc : Int), .int .i64 (mc : Int), .int .i64 0, .bool zd, .int .i64 z] 130)).alloc (.cells #[.int .i64 0, .int .i64 0] 66) = W0 := ⟨_, rfl⟩
  have K0 : Om w W0 b (f11 y m d dp h mi sc mc 0 zd z) := by rw [← hW0, ← hb]; exact Om.start w y m d dp h mi sc mc 0 zd z
  have HK0 : Hid (Om w W0 b (f11 y m d dp h mi sc mc 0 zd z)) := K0
  have q0 : W0.cell? ⟨b, 0, none⟩ = some (.int .i64 (y : Int)) := K0.m.cell (i := 0) (by omega)
  have q1 : W0.cell? ⟨b, 1, none⟩ = some (.int .i64 (m : Int)) := K0.m.cell (i := 1) (by omega)
  have q2 : W0.cell? ⟨b, 2, none⟩ = some (.int .i64 (d : Int)) := K0.m.cell (i := 2) (by omega)
  have HW0 : Hid _ := hW0
  clear K0 hW0 hd
  unfold mV
  unfold dv at c13
  go_enter Tryz.func87, Tryz.ntmps87
  go_upto_region 1 with fail
  rw [HW0.out]
  go_wp2_with (go_at_call 83; refine Stop.mk ?_)
  refine Stop.out ((c13 _).mono ?_)
  rintro e W1 ⟨rfl, hb1⟩
  have HK1 : Hid (Om w W1 b (f11 y m d dp h mi sc mc 0 zd z)) := HK0.out.on hb1
  clear q0 q1 q2 hb1 c13 HK0 HW0
  have q0 : W1.cell? ⟨b, 0, none⟩ = some (.int .i64 (y : Int)) := HK1.out.m.cell (i := 0) (by omega)
  have q1 : W1.cell? ⟨b, 1, none⟩ = some (.int .i64 (m : Int)) := HK1.out.m.cell (i := 1) (by omega)
  have q3 : W1.cell? ⟨b, 3, none⟩ = some (.int .i64 (dp : Int)) := HK1.out.m.cell (i := 3) (by omega)
  have q8 : W1.cell? ⟨b, 8, none⟩ = some (.int .i64 0) := HK1.out.m.cell (i := 8) (by omega)
  have q10 : W1.cell? ⟨b, 10, none⟩ = some (.int .i64 z) := HK1.out.m.cell (i := 10) (by omega)
  have z0 : W1.cell? ⟨b + 1, 0, none⟩ = some (.int .i64 0) := HK1.out.r.cell (i := 0) (by omega)
  have z1 : W1.cell? ⟨b + 1, 1, none⟩ = some (.int .i64 0) := HK1.out.r.cell (i := 1) (by omega)
  have zf := fun i => HK1.out.r.frozen i
  rcases (by omega : dp = 1 ∨ dp = 2 ∨ dp = 3) with rfl | rfl | rfl
  · rw [if_pos rfl] at hL
    have hLI : (Y : Int) * 87840000000 = (L : Int) := by omega
    have hLb : L ≤ 40000000000000 := by omega
    clear hL
    go_wp2_with first | (go_at_call 82; refine (c12 _).mono ?_; rintro e w' ⟨rfl, rfl⟩) | (go_at_call 108; refine (c34 _).mono ?_; rintro e w' ⟨rfl, rfl⟩)
    refine bodyPost_ret (v := sp ((F : Int) - z * 61000000) ((F : Int) - z * 61000000 + (L : Int) - 1)) (by simp [results, Tryz.results87, go_sem, sp, z0, z1]) rfl ⟨rfl, ?_⟩
    rw [hb]
    repeat (refine Below.setCell ?_ (by exact Nat.le_succ _) _)
    exact HK1.out.b
  · rw [if_neg (by decide), if_pos rfl] at hL
    have hLI : (M : Int) * 87840000000 = (L : Int) := by omega
    have hLb : L ≤ 40000000000000 := by omega
    clear hL
    go_wp2_with first | (go_at_call 82; refine (c12 _).mono ?_; rintro e w' ⟨rfl, rfl⟩) | (go_at_call 109; refine (c35 _).mono ?_; rintro e w' ⟨rfl, rfl⟩)
    refine bodyPost_ret (v := sp ((F : Int) - z * 61000000) ((F : Int) - z * 61000000 + (L : Int) - 1)) (by simp [results, Tryz.results87, go_sem, sp, z0, z1]) rfl ⟨rfl, ?_⟩
    rw [hb]
    repeat (refine Below.setCell ?_ (by exact Nat.le_succ _) _)
    exact HK1.out.b
  · rw [if_neg (by decide), if_neg (by decide)] at hL
    subst hL
    go_wp2_with first | (go_at_call 82; refine (c12 _).mono ?_; rintro e w' ⟨rfl, rfl⟩)
    refine bodyPost_ret (v := sp ((F : Int) - z * 61000000) ((F : Int) - z * 61000000 + 87840000000 - 1)) (by simp [results, Tryz.results87, go_sem, sp, z0, z1]) rfl ⟨rfl, ?_⟩
    rw [hb]
    repeat (refine Below.setCell ?_ (by exact Nat.le_succ _) _)
    exact HK1.out.b
set_option maxRecDepth 100000 in
set_option maxHeartbeats 2000000 in
theorem ofMoment_time (w : World) (y m d h mi sc mc p : Nat) (zd : Bool) (z : Int) (hd : Day y m d) (h1 : h ≤ 23) (h2 : mi ≤ 59) (h3 : sc ≤ 60) (h4 : mc ≤ 999999) (hp1 : 1 ≤ p) (hp9 : p ≤ 9) (hz1 : -720 ≤ z) (hz2 : z ≤ 840) :
    Calls Tryz.prog 87 #[mV y m d 3 h mi sc mc p zd z] w fun e w' => e = .returned (sp (((num y m d * 87840000000 : Nat) : Int) + ((tt h mi sc mc : Nat) : Int) - z * 61000000) (((num y m d * 87840000000 : Nat) : Int) + ((tt h mi sc mc : Nat) : Int) - z * 61000000 + tk p - 1)) ∧ Below w.heap.size w w' := by
  have hm12 : 1 ≤ m ∧ m ≤ 12 := by unfold Day at hd; omega
  have c13 := fun W => count37_any W y m d hd
  have hN := num_le hd
  have c12 := fun W => ticks_any W (num y m d) hN
  have c15 := fun W => inDay_any W h mi sc mc p (by omega) (by omega) (by omega) h4 hp1 hp9
  have hk := tk_pos hp9
  have hTb : tt h mi sc mc ≤ 400000000000 := by unfold tt; omega
  have hFb : num y m d * 87840000000 ≤ 400000000000000000 := by omega
  generalize num y m d * 87840000000 = F at c12 hFb ⊢
  generalize num y m d = N at c13 c12
  generalize tt h mi sc mc = T at c15 hTb ⊢
  generalize tk p = K at c15 hk ⊢
  obtain ⟨b, hb⟩ : ∃ b, w.heap.size = b := ⟨_, rfl⟩
  obtain ⟨W0, hW0⟩ : ∃ W0, (w.alloc (.cells #[.int .i64 (y : Int), .int .i64 (m : Int), .int .i64 (d : Int), .int .i64 3, .int .i64 (h : Int), .int .i64 (mi : Int), .int .i64 (sc : Int), .int .i64 (mc : Int), .int .i64 (p : Int), .bool zd, .int .i64 z] 130)).alloc (.cells #[.int .i64 0, .int .i64 0] 66) = W0 := ⟨_, rfl⟩
  have K0 : Om w W0 b (f11 y m d 3 h mi sc mc p zd z) := by rw [← hW0, ← hb]; exact Om.start w y m d 3 h mi sc mc p zd z
  have HK0 : Hid (Om w W0 b (f11 y m d 3 h mi sc mc p zd z)) := K0
  have q0 : W0.cell? ⟨b, 0, none⟩ = some (.int .i64 (y : Int)) := K0.m.cell (i := 0) (by omega)
  have q1 : W0.cell? ⟨b, 1, none⟩ = some (.int .i64 (m : Int)) := K0.m.cell (i := 1) (by omega)
  have q2 : W0.cell? ⟨b, 2, none⟩ = some (.int .i64 (d : Int)) := K0.m.cell (i := 2) (by omega)
  have HW0 : Hid _ := hW0
  clear K0 hW0 hd
  unfold mV
  unfold dv at c13
  unfold v5 at c15
  go_enter Tryz.func87, Tryz.ntmps87
  go_upto_region 1 with fail
  rw [HW0.out]
  go_wp2_with (go_at_call 83; refine Stop.mk ?_)
  refine Stop.out ((c13 _).mono ?_)
  rintro e W1 ⟨rfl, hb1⟩
  have HK1 : Hid (Om w W1 b (f11 y m d 3 h mi sc mc p zd z)) := HK0.out.on hb1
  clear q0 q1 q2 hb1 c13 HK0 HW0
  have q0 : W1.cell? ⟨b, 0, none⟩ = some (.int .i64 (y : Int)) := HK1.out.m.cell (i := 0) (by omega)
  have q1 : W1.cell? ⟨b, 1, none⟩ = some (.int .i64 (m : Int)) := HK1.out.m.cell (i := 1) (by omega)
  have q3 : W1.cell? ⟨b, 3, none⟩ = some (.int .i64 3) := HK1.out.m.cell (i := 3) (by omega)
  have q8 : W1.cell? ⟨b, 8, none⟩ = some (.int .i64 (p : Int)) := HK1.out.m.cell (i := 8) (by omega)
  have q10 : W1.cell? ⟨b, 10, none⟩ = some (.int .i64 z) := HK1.out.m.cell (i := 10) (by omega)
  have z0 : W1.cell? ⟨b + 1, 0, none⟩ = some (.int .i64 0) := HK1.out.r.cell (i := 0) (by omega)
  have z1 : W1.cell? ⟨b + 1, 1, none⟩ = some (.int .i64 0) := HK1.out.r.cell (i := 1) (by omega)
  have zf := fun i => HK1.out.r.frozen i
  have q4 : W1.cell? ⟨b, 4, none⟩ = some (.int .i64 (h : Int)) := HK1.out.m.cell (i := 4) (by omega)
  have q5 : W1.cell? ⟨b, 5, none⟩ = some (.int .i64 (mi : Int)) := HK1.out.m.cell (i := 5) (by omega)
  have q6 : W1.cell? ⟨b, 6, none⟩ = some (.int .i64 (sc : Int)) := HK1.out.m.cell (i := 6) (by omega)
  have q7 : W1.cell? ⟨b, 7, none⟩ = some (.int .i64 (mc : Int)) := HK1.out.m.cell (i := 7) (by omega)
  have hpI : decide (0 < (p : Int)) = true := by simp; omega
  go_wp2_with first | (go_at_call 82; refine (c12 _).mono ?_; rintro e w' ⟨rfl, rfl⟩) | (go_at_call 85; refine Stop.mk ?_)
  refine Stop.out ((c15 _).mono ?_)
  rintro e W2 ⟨rfl, hb2⟩
  have HK2 : Hid _ := HK1.out.on hb2
  clear q0 q1 q3 q4 q5 q6 q7 q8 q10 z0 z1 zf hb2 c15 HK1
  have q10 : W2.cell? ⟨b, 10, none⟩ = some (.int .i64 z) := HK2.out.m.cell (i := 10) (by omega)
  have z0 : W2.cell? ⟨b + 1, 0, none⟩ = some (.int .i64 0) := HK2.out.r.cell (i := 0) (by omega)
  have z1 : W2.cell? ⟨b + 1, 1, none⟩ = some (.int .i64 0) := HK2.out.r.cell (i := 1) (by omega)
  have zf := fun i => HK2.out.r.frozen i
  go_wp2
  refine bodyPost_ret (v := sp ((F : Int) + (T : Int) - z * 61000000) ((F : Int) + (T : Int) - z * 61000000 + K - 1)) (by simp [results, Tryz.results87, go_sem, sp, z0, z1]) rfl ⟨rfl, ?_⟩
  rw [hb]
  repeat (refine Below.setCell ?_ (by exact Nat.le_succ _) _)
  exact HK2.out.b
theorem day_of {S : Mst} (h : Bo S) : Day S.y S.m S.d := by
  have := h.y1; have := h.y9; have := h.m1; have := h.m12; have := h.d1; have := h.dm
  unfold Day; omega
theorem ofMoment_any (w : World) (S : Mst) (h : Bo S) (hI : Iv S) : Calls Tryz.prog 87 #[mo11 S] w fun e w' => e = .returned (sp (fS S) (lS S)) ∧ Below w.heap.size w w' := by
  have hd := day_of h
  rcases hI with ⟨hp, e1, e2, e3, e4⟩ | ⟨hp, e1⟩
  · have c := ofMoment_day w S.y S.m S.d S.dp S.h S.mi S.sc S.mc S.zd S.z hd h.p1 h.p3 h.z1 h.z2 _ rfl
    have em : mo11 S = mV S.y S.m S.d S.dp S.h S.mi S.sc S.mc 0 S.zd S.z := by unfold mo11 mV; rw [hp]
    rw [em]
    refine c.mono fun e w' ⟨he, hb⟩ => ⟨?_, hb⟩
    rw [he]
    have ef : ((num S.y S.m S.d * 87840000000 : Nat) : Int) - S.z * 61000000 = fS S := by
      unfold fS fI
      rw [e1, e2, e3, e4]
      have : tt 0 0 0 0 = 0 := by decide
      rw [this]
      omega
    have el : (((if S.dp = 1 then yl S.y * 87840000000 else if S.dp = 2 then md S.y S.m * 87840000000 else 87840000000 : Nat)) : Int) = oT S.y S.m S.dp S.p := by
      unfold oT
      rw [yl_dA S.y h.y1, hp]
      split
      · omega
      · split
        · omega
        · rfl
    rw [el, ef]
    rfl
  · have c := ofMoment_time w S.y S.m S.d S.h S.mi S.sc S.mc S.p S.zd S.z hd h.h h.mi h.sc h.mc hp h.p9 h.z1 h.z2
    have em : mo11 S = mV S.y S.m S.d 3 S.h S.mi S.sc S.mc S.p S.zd S.z := by unfold mo11 mV; rw [e1]
    rw [em]
    refine c.mono fun e w' ⟨he, hb⟩ => ⟨?_, hb⟩
    rw [he]
    have ef : ((num S.y S.m S.d * 87840000000 : Nat) : Int) + ((tt S.h S.mi S.sc S.mc : Nat) : Int) - S.z * 61000000 = fS S := by
      unfold fS fI
      omega
    have el : oT S.y S.m S.dp S.p = tk S.p := by unfold oT; rw [e1, if_neg (by decide), if_neg (by decide)]
    unfold lS
    rw [ef, el]
end Go.Proofs.YtehgeninocbpeaaGreatDoor.Tm

namespace Go.Proofs.YtehgeninocbpeaaGreatDoor.Tm
open Go Go.Proofs Go.RowKit
def dzV (x H M : Nat) : Int := if x = 45 then - (60 * (H : Int) + (M : Int)) else 60 * (H : Int) + (M : Int)
def dzK (x H M : Nat) : Bool := if 59 < M then false else if x = 45 then decide (1 ≤ 60 * H + M) && decide (60 * H + M ≤ 720) else decide (60 * H + M ≤ 840)
def PostZ (w : World) (x H M : Nat) (e : Ending) (w' : World) : Prop := ∃ z : Int, e = .returned (.tuple #[.int .i64 z, .bool (dzK x H M)]) ∧ (dzK x H M = true → z = dzV x H M) ∧ w = w'
set_option maxRecDepth 100000 in
set_option maxHeartbeats 2000000 in
theorem zone48_any (w : World) (u : ByteArray) (h5 : u.size = 5) (hd : cnt u 1 4 = 4) (x : Nat) (hx : (u.get! 0).toNat = x) (hx2 : x = 43 ∨ x = 45) : Calls Tryz.prog 113 #[.string u] w (PostZ w x (nv u 1 2) (nv u 3 2)) := by
  have D1 : Digs (u.extract 1 3) ∧ (u.extract 1 3).size ≤ 8 := ⟨digs_ext u 1 2 2 (by have := cnt_sub (s := u) (i := 1) 4 0 2 (by omega); simp only [Nat.add_zero] at this; omega), by rw [ByteArray.size_extract]; omega⟩
  have D3 : Digs (u.extract 3 5) ∧ (u.extract 3 5).size ≤ 8 := ⟨digs_ext u 3 2 2 (by have := cnt_sub (s := u) (i := 1) 4 2 2 (by omega); simp only [Nat.reduceAdd] at this; omega), by rw [ByteArray.size_extract]; omega⟩
  have l1 : nv u 1 2 < 100 := nv_lt u 1 2 2 (by have := cnt_sub (s := u) (i := 1) 4 0 2 (by omega); simp only [Nat.add_zero] at this; omega)
  have l3 : nv u 3 2 < 100 := nv_lt u 3 2 2 (by have := cnt_sub (s := u) (i := 1) 4 2 2 (by omega); simp only [Nat.reduceAdd] at this; omega)
  have n1 := fun W => number47_any W (u.extract 1 3) D1.1 D1.2
  have n3 := fun W => number47_any W (u.extract 3 5) D3.1 D3.2
  have e1 : val (u.extract 1 3).data.toList = nv u 1 2 := rfl
  have e3 : val (u.extract 3 5).data.toList = nv u 3 2 := rfl
  rw [e1] at n1
  rw [e3] at n3
  generalize nv u 1 2 = H at *
  generalize nv u 3 2 = M at *
  have h0 : 0 < u.size := by omega
  have hx0 : u[0].toNat = x := by rw [get_get! u 0 h0, hx]
  have hS : (5 : Int) ≤ (u.size : Int) := by omega
  have hS0 : (0 : Int) < (u.size : Int) := by omega
  clear D1 D3 e1 e3 hd hx h5
  unfold PostZ
  obtain ⟨K, hK⟩ : ∃ K, dzK x H M = K := ⟨_, rfl⟩
  obtain ⟨V, hV⟩ : ∃ V, dzV x H M = V := ⟨_, rfl⟩
  rw [hK, hV]
  have HKV : Hid (dzK x H M = K ∧ dzV x H M = V) := ⟨hK, hV⟩
  unfold dzK at hK
  unfold dzV at hV
  by_cases hM : 59 < M
  · rw [if_pos hM] at hK
    subst hK
    have hMI : decide (59 < (M : Int)) = true := by simp; omega
    clear hM hV hx2
    go_enter Tryz.func113, Tryz.ntmps113
    go_wp2_with (first | (go_at_call 57; refine Stop.mk ?_))
    refine Stop.out ((n1 _).mono ?_)
    rintro e W3 ⟨rfl, rfl⟩
    go_wp2_with (first | (go_at_call 57; refine Stop.mk ?_))
    refine Stop.out ((n3 _).mono ?_)
    rintro e W3 ⟨rfl, rfl⟩
    go_wp2
    exact bodyPost_ret (v := .tuple #[.int .i64 0, .bool false]) (by simp [results, Tryz.results113, go_sem]) rfl ⟨0, rfl, by simp, rfl⟩
  · rw [if_neg hM] at hK
    have hMI : decide (59 < (M : Int)) = false := by simp; omega
    rcases hx2 with rfl | rfl
    · rw [if_neg (by decide)] at hK hV
      have hKI : decide (60 * (H : Int) + (M : Int) ≤ 840) = K := by rw [← hK, Bool.eq_iff_iff]; simp; omega
      subst hV
      clear hM hK
      go_enter Tryz.func113, Tryz.ntmps113
      go_wp2_with (first | (go_at_call 57; refine Stop.mk ?_))
      refine Stop.out ((n1 _).mono ?_)
      rintro e W3 ⟨rfl, rfl⟩
      go_wp2_with (first | (go_at_call 57; refine Stop.mk ?_))
      refine Stop.out ((n3 _).mono ?_)
      rintro e W3 ⟨rfl, rfl⟩
      go_wp2
      exact bodyPost_ret (v := .tuple #[.int .i64 (60 * (H : Int) + (M : Int)), .bool K]) (by simp [results, Tryz.results113, go_sem]) rfl ⟨_, rfl, fun _ => rfl, rfl⟩
    · rw [if_pos rfl] at hK hV
      subst hV
      by_cases hv : 1 ≤ 60 * H + M
      · have hvI : decide (1 ≤ 60 * (H : Int) + (M : Int)) = true := by simp; omega
        have hKI : decide (60 * (H : Int) + (M : Int) ≤ 720) = K := by rw [← hK, decide_eq_true hv, Bool.true_and, Bool.eq_iff_iff]; simp; omega
        clear hM hK hv
        go_enter Tryz.func113, Tryz.ntmps113
        go_wp2_with (first | (go_at_call 57; refine Stop.mk ?_))
        refine Stop.out ((n1 _).mono ?_)
        rintro e W3 ⟨rfl, rfl⟩
        go_wp2_with (first | (go_at_call 57; refine Stop.mk ?_))
        refine Stop.out ((n3 _).mono ?_)
        rintro e W3 ⟨rfl, rfl⟩
        go_wp2
        exact bodyPost_ret (v := .tuple #[.int .i64 (- (60 * (H : Int) + (M : Int))), .bool K]) (by simp [results, Tryz.results113, go_sem]) rfl ⟨_, rfl, fun _ => rfl, rfl⟩
      · have hvI : decide (1 ≤ 60 * (H : Int) + (M : Int)) = false := by simp; omega
        rw [decide_eq_false hv, Bool.false_and] at hK
        subst hK
        clear hM hv
        go_enter Tryz.func113, Tryz.ntmps113
        go_wp2_with (first | (go_at_call 57; refine Stop.mk ?_))
        refine Stop.out ((n1 _).mono ?_)
        rintro e W3 ⟨rfl, rfl⟩
        go_wp2_with (first | (go_at_call 57; refine Stop.mk ?_))
        refine Stop.out ((n3 _).mono ?_)
        rintro e W3 ⟨rfl, rfl⟩
        go_wp2
        exact bodyPost_ret (v := .tuple #[.int .i64 (- (60 * (H : Int) + (M : Int))), .bool false]) (by simp [results, Tryz.results113, go_sem]) rfl ⟨_, rfl, by simp, rfl⟩
theorem MN.set {w W : World} {t : TypeId} {n : Nat} {f : Nat → Value} {B : Nat} (h : MN w W t n f) (hB : w.heap.size + 2 ≤ B) (i : Nat) (v : Value) : MN w (W.setCell ⟨B, i, none⟩ v) t n f :=
  ⟨row_kept h.r (grown_set (grown_refl _ (some B)) i v) (by omega), row_kept h.e (grown_set (grown_refl _ (some B)) i v) (by omega), h.b.setCell (p := ⟨B, i, none⟩) (by show _ ≤ B; omega) v⟩
structure PM (w W : World) (B : Nat) (f : Nat → Value) : Prop where
  m : MN w W 130 11 zm0
  row : W.rowIs B 130 11 f
  hB : w.heap.size + 2 ≤ B
theorem PM.set {w W : World} {B : Nat} {f : Nat → Value} (h : PM w W B f) (i : Nat) (v : Value) : PM w (W.setCell ⟨B, i, none⟩ v) B (up f i v) := ⟨h.m.set h.hB i v, h.row.set i v, h.hB⟩
theorem PM.on {w W W' : World} {B : Nat} {f : Nat → Value} (h : PM w W B f) (hb : Below W.heap.size W W') : PM w W' B f := ⟨h.m.on hb, row_on h.row hb, h.hB⟩
theorem PM.drew {w W : World} {B : Nat} {f : Nat → Value} (h : PM w W B f) : PM w W.drew B f := ⟨⟨h.m.r, h.m.e, h.m.b.drew⟩, h.row, h.hB⟩
def m1 : Nat → Value := fun k => #[Value.int .i64 1, .int .i64 1, .int .i64 1, .int .i64 0, .int .i64 0, .int .i64 0, .int .i64 0, .int .i64 0, .int .i64 0, .bool false, .int .i64 0].getD k undef
theorem PM.start {w W : World} (h : MN w W 130 11 zm0) (hl : w.heap.size + 2 ≤ W.heap.size) : PM w (W.alloc (.cells #[.int .i64 1, .int .i64 1, .int .i64 1, .int .i64 0, .int .i64 0, .int .i64 0, .int .i64 0, .int .i64 0, .int .i64 0, .bool false, .int .i64 0] 130)) W.heap.size m1 :=
  ⟨h.on ((Below.refl _ _).alloc (Nat.le_refl _) _), World.rowIs_alloc W _ 130 _ (row_lit _), hl⟩
structure Sgn (s : ByteArray) (e : Nat) : Prop where
  le : e ≤ s.size
  no : ∀ k, k < e → (s.get! k).toNat ≠ 43 ∧ (s.get! k).toNat ≠ 45
  yes : e < s.size → (s.get! e).toNat = 43 ∨ (s.get! e).toNat = 45
theorem z13 {W : World} {q : Nat} (hR : W.rowIs q 130 11 zm0) (hE : W.rowIs (q + 1) 35 2 fN) : W.cell? ⟨q, 0, none⟩ = some (.int .i64 0) ∧ W.cell? ⟨q, 1, none⟩ = some (.int .i64 0) ∧ W.cell? ⟨q, 2, none⟩ = some (.int .i64 0) ∧ W.cell? ⟨q, 3, none⟩ = some (.int .i64 0) ∧ W.cell? ⟨q, 4, none⟩ = some (.int .i64 0) ∧ W.cell? ⟨q, 5, none⟩ = some (.int .i64 0) ∧ W.cell? ⟨q, 6, none⟩ = some (.int .i64 0) ∧ W.cell? ⟨q, 7, none⟩ = some (.int .i64 0) ∧ W.cell? ⟨q, 8, none⟩ = some (.int .i64 0) ∧ W.cell? ⟨q, 9, none⟩ = some (.bool false) ∧ W.cell? ⟨q, 10, none⟩ = some (.int .i64 0) ∧ W.cell? ⟨q + 1, 0, none⟩ = some (.slice none 0 0) ∧ W.cell? ⟨q + 1, 1, none⟩ = some (.int .i64 0) ∧ (∀ i, W.frozen? ⟨q, i, none⟩ = false) ∧ (∀ i, W.frozen? ⟨q + 1, i, none⟩ = false) :=
  ⟨hR.cell (i := 0) (by omega), hR.cell (i := 1) (by omega), hR.cell (i := 2) (by omega), hR.cell (i := 3) (by omega), hR.cell (i := 4) (by omega), hR.cell (i := 5) (by omega), hR.cell (i := 6) (by omega), hR.cell (i := 7) (by omega), hR.cell (i := 8) (by omega), hR.cell (i := 9) (by omega), hR.cell (i := 10) (by omega), hE.cell (i := 0) (by omega), hE.cell (i := 1) (by omega), fun i => hR.frozen i, fun i => hE.frozen i⟩
theorem b13 {w W : World} {q : Nat} {a0 a1 a2 a3 a4 a5 a6 a7 a8 a9 a10 a11 a12 : Value} (h : Below q w W) : Below q w (((((((((((((W.setCell ⟨q, 0, none⟩ a0).setCell ⟨q, 1, none⟩ a1).setCell ⟨q, 2, none⟩ a2).setCell ⟨q, 3, none⟩ a3).setCell ⟨q, 4, none⟩ a4).setCell ⟨q, 5, none⟩ a5).setCell ⟨q, 6, none⟩ a6).setCell ⟨q, 7, none⟩ a7).setCell ⟨q, 8, none⟩ a8).setCell ⟨q, 9, none⟩ a9).setCell ⟨q, 10, none⟩ a10).setCell ⟨q + 1, 0, none⟩ a11).setCell ⟨q + 1, 1, none⟩ a12) :=
  (((((((((((((h.setCell (p := ⟨q, 0, none⟩) (Nat.le_refl _) _).setCell (p := ⟨q, 1, none⟩) (Nat.le_refl _) _).setCell (p := ⟨q, 2, none⟩) (Nat.le_refl _) _).setCell (p := ⟨q, 3, none⟩) (Nat.le_refl _) _).setCell (p := ⟨q, 4, none⟩) (Nat.le_refl _) _).setCell (p := ⟨q, 5, none⟩) (Nat.le_refl _) _).setCell (p := ⟨q, 6, none⟩) (Nat.le_refl _) _).setCell (p := ⟨q, 7, none⟩) (Nat.le_refl _) _).setCell (p := ⟨q, 8, none⟩) (Nat.le_refl _) _).setCell (p := ⟨q, 9, none⟩) (Nat.le_refl _) _).setCell (p := ⟨q, 10, none⟩) (Nat.le_refl _) _).setCell (p := ⟨q + 1, 0, none⟩) (Nat.le_succ _) _).setCell (p := ⟨q + 1, 1, none⟩) (Nat.le_succ _) _)
theorem g13 {W : World} {v : Value} {o : Option (Int × Int)} {q : Nat} {a0 a1 a2 a3 a4 a5 a6 a7 a8 a9 a10 a11 a12 : Value} (h : RErr W v o) (n1 : Rne v q) (n2 : Rne v (q + 1)) : RErr (((((((((((((W.setCell ⟨q, 0, none⟩ a0).setCell ⟨q, 1, none⟩ a1).setCell ⟨q, 2, none⟩ a2).setCell ⟨q, 3, none⟩ a3).setCell ⟨q, 4, none⟩ a4).setCell ⟨q, 5, none⟩ a5).setCell ⟨q, 6, none⟩ a6).setCell ⟨q, 7, none⟩ a7).setCell ⟨q, 8, none⟩ a8).setCell ⟨q, 9, none⟩ a9).setCell ⟨q, 10, none⟩ a10).setCell ⟨q + 1, 0, none⟩ a11).setCell ⟨q + 1, 1, none⟩ a12) v o :=
  (h.grown n1 (grown_set (grown_set (grown_set (grown_set (grown_set (grown_set (grown_set (grown_set (grown_set (grown_set (grown_set (grown_refl _ _) 0 _) 1 _) 2 _) 3 _) 4 _) 5 _) 6 _) 7 _) 8 _) 9 _) 10 _)).grown n2 (grown_set (grown_set (grown_refl _ _) 0 _) 1 _)
end Go.Proofs.YtehgeninocbpeaaGreatDoor.Tm

namespace Go.Proofs.YtehgeninocbpeaaGreatDoor.Tm
open Go Go.Proofs Go.RowKit
theorem md_28 (y m : Nat) (h1 : 1 ≤ m) (h2 : m ≤ 12) : 28 ≤ md y m := by
  unfold md
  rw [if_neg (by omega)]
  split
  · omega
  · unfold mL
    have : m - 1 < 12 := by omega
    generalize m - 1 = k at *
    rcases (by omega : k = 0 ∨ k = 1 ∨ k = 2 ∨ k = 3 ∨ k = 4 ∨ k = 5 ∨ k = 6 ∨ k = 7 ∨ k = 8 ∨ k = 9 ∨ k = 10 ∨ k = 11) with rfl | rfl | rfl | rfl | rfl | rfl | rfl | rfl | rfl | rfl | rfl | rfl <;> decide
theorem sgn_from (s : ByteArray) : ∀ (m n : Nat), n + m = s.size → (∀ k, k < n → (s.get! k).toNat ≠ 43 ∧ (s.get! k).toNat ≠ 45) → ∃ e, Sgn s e
  | 0, n, h, hno => ⟨n, ⟨by omega, hno, fun h2 => by omega⟩⟩
  | m + 1, n, h, hno => by
    by_cases hx : (s.get! n).toNat = 43 ∨ (s.get! n).toNat = 45
    · exact ⟨n, ⟨by omega, hno, fun _ => hx⟩⟩
    · refine sgn_from s m (n + 1) (by omega) fun k hk => ?_
      rcases Nat.lt_or_eq_of_le (Nat.le_of_lt_succ hk) with h1 | rfl
      · exact hno k h1
      · exact ⟨fun h => hx (.inl h), fun h => hx (.inr h)⟩
theorem sgn_is (s : ByteArray) : ∃ e, Sgn s e := sgn_from s s.size 0 (by omega) (fun k hk => by omega)
theorem Sgn.dig {s : ByteArray} {e : Nat} (h : Sgn s e) : isD s e = false := by
  unfold isD
  by_cases hl : e < s.size
  · have := h.yes hl
    simp; omega
  · rw [decide_eq_false hl, Bool.false_and]
theorem Sgn.dot {s : ByteArray} {e : Nat} (h : Sgn s e) : nx s e false ≠ 46 := by
  by_cases hl : e < s.size
  · have := h.yes hl
    rw [nx_in hl]; omega
  · unfold nx; rw [if_pos (.inr hl)]; decide
theorem Sgn.nx_no {s : ByteArray} {e a : Nat} (h : Sgn s e) (ha : a < e) : ¬ (nx s a false = 43 ∨ nx s a false = 45) := by
  have h1 := h.no a ha
  have h2 := h.le
  rw [nx_in (by omega)]; omega
theorem zone_stop {s : ByteArray} {S : Mst} (h : ¬ (nx s S.a S.b = 43 ∨ nx s S.a S.b = 45)) : zoneS s S = S := by unfold zoneS; rw [if_neg h]
theorem zone_brk {s : ByteArray} {S : Mst} (h : S.b = true) : zoneS s S = S := zone_stop (by rw [h, nx_brk]; omega)
theorem rd_form {s : ByteArray} {S : Mst} {e p : Nat} (hg : Sgn s e) (ha : S.a = p) (hb : S.b = true ∨ p < e) : rdO s (zoneS s S) = some ((p : Int), 100) := by
  have h2 := hg.le
  have hz : zoneS s S = S := by
    cases hS : S.b with
    | true => exact zone_brk hS
    | false =>
      have hp : p < e := by rcases hb with h | h; · rw [hS] at h; cases h
                            · exact h
      exact zone_stop (by rw [hS, ha]; exact hg.nx_no hp)
  rw [hz]
  unfold rdO fmO
  rw [ha, if_pos (by rcases hb with h | h; · exact .inl h
                     · right; omega)]
  rfl
theorem rd_none {s : ByteArray} {S : Mst} (ha : S.a = s.size) (hb : S.b = false) : zoneS s S = S ∧ rdO s S = S.o := by
  refine ⟨zone_stop (by unfold nx; rw [if_pos (.inr (by omega))]; omega), ?_⟩
  unfold rdO fmO
  rw [if_neg (by rw [hb]; simp; omega)]
  rfl
theorem cnt4 (s : ByteArray) (a : Nat) : cnt s a 4 = zC1 s a + zC2 s a ∧ ((zC1 s a < 2 ∨ zC2 s a < 2) ↔ cnt s a 4 < 4) := by
  unfold zC2 zC1
  have h := cnt_split s 2 2 a
  rw [show 2 + 2 = 4 by omega] at h
  have k1 := cnt_le s 2 a
  have k2 := cnt_le s 2 (a + 2)
  by_cases h1 : cnt s a 2 < 2
  · rw [if_pos h1] at h
    rw [if_pos (by simpa using h1)]
    omega
  · rw [if_neg h1] at h
    rw [if_neg (by simpa using h1), show cnt s a 2 = 2 by omega]
    omega
theorem bad_is (x H M : Nat) (hx : x = 43 ∨ x = 45) : ((decide (59 < (M : Int)) || !(decide (-720 ≤ dzV x H M) && decide (dzV x H M ≤ 840))) || (decide (x = 45) && decide (dzV x H M = 0))) = !dzK x H M := by
  unfold dzK dzV
  by_cases hM : 59 < M
  · have : decide (59 < (M : Int)) = true := by simp; omega
    rw [this, if_pos hM]; simp
  · have : decide (59 < (M : Int)) = false := by simp; omega
    rw [this, if_neg hM, Bool.false_or]
    rcases hx with rfl | rfl
    · rw [if_neg (by decide), if_neg (by decide), Bool.eq_iff_iff]
      simp
      omega
    · rw [if_pos rfl, if_pos rfl, Bool.eq_iff_iff]
      simp
      omega
theorem rd_zbad {s : ByteArray} {S : Mst} {e x k : Nat} (hl : e < s.size) (hx : (s.get! e).toNat = x) (hx2 : x = 43 ∨ x = 45) (ha : S.a = e) (hb : S.b = false) (hk : cnt s (e + 1) 4 = k) (hbad : k < 4 ∨ e + 5 < s.size) : rdO s (zoneS s S) = some (((e + 1 + k : Nat) : Int), 100) := by
  have hn : nx s S.a S.b = x := by rw [ha, hb, nx_in hl, hx]
  unfold zoneS
  rw [hn, if_pos hx2]
  obtain ⟨c1, c2⟩ := cnt4 s (e + 1)
  rw [hk] at c1 c2
  have hk4 : k ≤ 4 := by rw [← hk]; exact cnt_le s 4 _
  unfold rdO fmO zoS
  simp only
  rw [ha, if_pos (by
    rcases hbad with h | h
    · left
      have := c2.2 h
      simp
      exact this
    · right; omega), show e + 1 + zC1 s (e + 1) + zC2 s (e + 1) = e + 1 + k by omega]
  rfl
theorem rd_zone {s : ByteArray} {S : Mst} {e x : Nat} (hl : e < s.size) (hx : (s.get! e).toNat = x) (hx2 : x = 43 ∨ x = 45) (ha : S.a = e) (hb : S.b = false) (hk : cnt s (e + 1) 4 = 4) (hsz : s.size = e + 5) :
    zoneS s S = { S with a := e + 5, b := false, o := S.o.or (bd (!dzK x (nv s (e + 1) 2) (nv s (e + 3) 2)) (e : Int)), zd := true, z := dzV x (nv s (e + 1) 2) (nv s (e + 3) 2) } ∧
    rdO s (zoneS s S) = S.o.or (bd (!dzK x (nv s (e + 1) 2) (nv s (e + 3) 2)) (e : Int)) := by
  have hn : nx s S.a S.b = x := by rw [ha, hb, nx_in hl, hx]
  obtain ⟨c1, c2⟩ := cnt4 s (e + 1)
  have hz1 : zC1 s (e + 1) ≤ 2 := cnt_le s 2 _
  have hz2 : zC2 s (e + 1) ≤ 2 := Nat.le_trans (zC2_le s _) (cnt_le s 2 _)
  have z1 : zC1 s (e + 1) = 2 := by omega
  have z2 : zC2 s (e + 1) = 2 := by omega
  have hH : zH s (e + 1) = nv s (e + 1) 2 := by unfold zH; rw [z1]
  have hM : zM s (e + 1) = nv s (e + 3) 2 := by unfold zM; rw [z1, z2, show e + 1 + 2 = e + 3 by omega]
  have hV : zV s (e + 1) x = dzV x (nv s (e + 1) 2) (nv s (e + 3) 2) := by unfold zV dzV; rw [hH, hM]
  have hB : zBad s (e + 1) x = !dzK x (nv s (e + 1) 2) (nv s (e + 3) 2) := by
    rw [← bad_is x _ _ hx2]
    unfold zBad
    rw [hV, hM]
  have heq : zoneS s S = { S with a := e + 5, b := false, o := S.o.or (bd (!dzK x (nv s (e + 1) 2) (nv s (e + 3) 2)) (e : Int)), zd := true, z := dzV x (nv s (e + 1) 2) (nv s (e + 3) 2) } := by
    unfold zoneS
    rw [hn, if_pos hx2]
    unfold zoS
    rw [ha, z1, z2, hV, hB, nextD_or]
    simp
  refine ⟨heq, ?_⟩
  rw [heq]
  unfold rdO fmO
  simp only
  rw [if_neg (by simp; omega)]
  rfl
def ufO (y m d : Nat) : Option (Int × Int) := if uf (y : Int) (m : Int) (d : Int) = -1 then none else some (pl (uf (y : Int) (m : Int) (d : Int)), 101)
theorem cnt8 (s : ByteArray) : cnt s 0 8 = if cnt s 0 4 < 4 then cnt s 0 4 else if cnt s 4 2 < 2 then 4 + cnt s 4 2 else 6 + cnt s 6 2 := by
  have a1 := cnt_split s 4 4 0
  have a2 := cnt_split s 2 2 4
  rw [show 4 + 4 = 8 by omega, show 0 + 4 = 4 by omega] at a1
  rw [show 2 + 2 = 4 by omega, show 4 + 2 = 6 by omega] at a2
  rw [a1]
  split
  · rfl
  · rw [a2]
    split
    · rfl
    · omega
theorem yearS_eq {s : ByteArray} {c : Nat} (hc : cnt s 0 4 = c) : yearS s st0 = { st0 with a := c, b := decide (c < 4), o := nextD none (decide ((nv s 0 c : Int) < 1) || decide (9999 < (nv s 0 c : Int))) 0, y := nv s 0 c, dp := 1 } := by
  have h1 : pcC s st0 4 = c := by unfold pcC; rw [show st0.b = false from rfl, if_neg (by decide)]; exact hc
  unfold yearS pcO pcN
  rw [h1]
  simp [st0]
  rfl
theorem monthS_eq {s : ByteArray} {S : Mst} {c : Nat} (hb : S.b = false) (hc : cnt s S.a 2 = c) : monthS s S = { S with a := S.a + c, b := decide (c < 2), o := nextD S.o (decide ((nv s S.a c : Int) < 1) || decide (12 < (nv s S.a c : Int))) S.a, m := nv s S.a c, dp := 2 } := by
  have h1 : pcC s S 2 = c := by unfold pcC; rw [hb, if_neg (by decide), hc]
  unfold monthS pcO pcN
  rw [h1, hb, Bool.false_or]
theorem dayS_eq {s : ByteArray} {S : Mst} {c : Nat} (hb : S.b = false) (hc : cnt s S.a 2 = c) : dayS s S = { S with a := S.a + c, b := decide (c < 2), o := nextD S.o (decide ((nv s S.a c : Int) < 1) || decide (((md S.y S.m : Nat) : Int) < (nv s S.a c : Int))) S.a, d := nv s S.a c, dp := 3 } := by
  have h1 : pcC s S 2 = c := by unfold pcC; rw [hb, if_neg (by decide), hc]
  unfold dayS pcO pcN
  rw [h1, hb, Bool.false_or]
theorem o8 (y m d : Nat) : nextD (nextD (nextD none (decide ((y : Int) < 1) || decide (9999 < (y : Int))) 0) (decide ((m : Int) < 1) || decide (12 < (m : Int))) 4) (decide ((d : Int) < 1) || decide (((md y m : Nat) : Int) < (d : Int))) 6 = ufO y m d := by
  unfold ufO uf nextD
  rw [Int.toNat_natCast, Int.toNat_natCast]
  generalize md y m = L
  by_cases p1 : (y : Int) < 1 ∨ 9999 < (y : Int)
  · have : (decide ((y : Int) < 1) || decide (9999 < (y : Int))) = true := by simpa using p1
    rw [this]
    simp [p1, pl]
  · have : (decide ((y : Int) < 1) || decide (9999 < (y : Int))) = false := by simpa using p1
    rw [this, if_neg p1]
    by_cases p2 : (m : Int) < 1 ∨ 12 < (m : Int)
    · have : (decide ((m : Int) < 1) || decide (12 < (m : Int))) = true := by simpa using p2
      rw [this, if_pos p2]
      simp [pl]
    · have : (decide ((m : Int) < 1) || decide (12 < (m : Int))) = false := by simpa using p2
      rw [this, if_neg p2]
      by_cases p3 : (d : Int) < 1 ∨ (L : Int) < (d : Int)
      · have : (decide ((d : Int) < 1) || decide ((L : Int) < (d : Int))) = true := by simpa using p3
        rw [this, if_pos p3]
        simp [pl]
      · have : (decide ((d : Int) < 1) || decide ((L : Int) < (d : Int))) = false := by simpa using p3
        rw [this, if_neg p3]
        simp
theorem o6 (y m : Nat) : nextD (nextD none (decide ((y : Int) < 1) || decide (9999 < (y : Int))) 0) (decide ((m : Int) < 1) || decide (12 < (m : Int))) 4 = ufO y m 1 := by
  rw [← o8 y m 1]
  unfold nextD
  by_cases p2 : (m : Int) < 1 ∨ 12 < (m : Int)
  · have : (decide ((m : Int) < 1) || decide (12 < (m : Int))) = true := by simpa using p2
    rw [this]
    by_cases p1 : (y : Int) < 1 ∨ 9999 < (y : Int)
    · have : (decide ((y : Int) < 1) || decide (9999 < (y : Int))) = true := by simpa using p1
      rw [this]; simp
    · have : (decide ((y : Int) < 1) || decide (9999 < (y : Int))) = false := by simpa using p1
      rw [this]; simp
  · have hm := md_28 y m (by omega) (by omega)
    have h3 : (decide (((1 : Nat) : Int) < 1) || decide (((md y m : Nat) : Int) < ((1 : Nat) : Int))) = false := by simp; omega
    rw [h3]; simp
theorem o4 (y : Nat) : nextD none (decide ((y : Int) < 1) || decide (9999 < (y : Int))) 0 = ufO y 1 1 := by
  rw [← o6 y 1]
  simp [nextD]
theorem more_all (s : ByteArray) {S : Mst} (h : S.p = 0) (hb : S.b = false) : fracS s (moreS s [hourS s, minuteS s, secondS s] S) = if 0 < cnt s S.a 2 then ck6 s S else S := by
  by_cases hc : 0 < cnt s S.a 2
  · rw [if_pos hc, more_go _ _ hb hc]
    rfl
  · rw [if_neg hc, more_stop _ (.inr (by omega)), frac_stop (.inl (by omega))]
end Go.Proofs.YtehgeninocbpeaaGreatDoor.Tm

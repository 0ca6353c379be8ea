import Derived.Test.YtehgeninocbpeaaDoorOb
/-
  DERIVED. The document's span of a moment.
-/
namespace Go.Proofs.YtehgeninocbpeaaDoor.Tm
open Go Go.Proofs Go.RowKit

structure Om (w W : World) (b : Nat) (f : Nat → Value) : Prop where
  m : W.rowIs b 51 11 f
  r : W.rowIs (b + 1) 23 2 (f2 0 0)
  b : Below b w W
theorem Om.on {w W W' : World} {b : Nat} {f : Nat → Value} (h : Om w W b f) (hb : Below W.heap.size W W') : Om w W' b f :=
  ⟨h.m.of_block (hb.block _ h.m.lt), h.r.of_block (hb.block _ h.r.lt), h.b.trans (hb.mono (Nat.le_of_lt h.m.lt))⟩
theorem Om.start (w : World) (y m d dp h mi sc mc p : Nat) (zd : Bool) (z : Int) : Om w ((w.alloc (.cells #[.int .i64 (y : Int), .int .i64 (m : Int), .int .i64 (d : Int), .int .i64 (dp : Int), .int .i64 (h : Int), .int .i64 (mi : Int), .int .i64 (sc : Int), .int .i64 (mc : Int), .int .i64 (p : Int), .bool zd, .int .i64 z] 51)).alloc (.cells #[.int .i64 0, .int .i64 0] 23)) w.heap.size (f11 y m d dp h mi sc mc p zd z) := by
  refine ⟨World.rowIs.alloc (World.rowIs_alloc w _ 51 _ (row_lit _)) _, ?_, ((Below.refl _ _).alloc (Nat.le_refl _) _).alloc (by simp) _⟩
  have := World.rowIs_alloc (w.alloc (.cells #[.int .i64 (y : Int), .int .i64 (m : Int), .int .i64 (d : Int), .int .i64 (dp : Int), .int .i64 (h : Int), .int .i64 (mi : Int), .int .i64 (sc : Int), .int .i64 (mc : Int), .int .i64 (p : Int), .bool zd, .int .i64 z] 51)) #[.int .i64 0, .int .i64 0] 23 _ (row_lit _)
  rw [World.size_alloc] at this
  exact this

theorem num_le {y m d : Nat} (hd : Day y m d) : num y m d ≤ 3700000 := by
  have := dA_le (y := y) (by unfold Day at hd; omega)
  have := cu_le y (m - 1)
  have := md_le y m
  unfold Day at hd
  unfold num
  omega
theorem yl_le (y : Nat) : yl y ≤ 366 := by unfold yl; split <;> omega

set_option maxRecDepth 100000 in
set_option maxHeartbeats 2000000 in
theorem ofMoment_day (w : World) (y m d dp h mi sc mc : Nat) (zd : Bool) (z : Int) (hd : Day y m d) (hdp1 : 1 ≤ dp) (hdp3 : dp ≤ 3) (hz1 : -720 ≤ z) (hz2 : z ≤ 840) (L : Nat) (hL : L = if dp = 1 then yl y * 87840000000 else if dp = 2 then md y m * 87840000000 else 87840000000) :
    Calls Tryd.prog 17 #[mV y m d dp h mi sc mc 0 zd z] w fun e w' => e = .returned (sp (((num y m d * 87840000000 : Nat) : Int) - z * 61000000) (((num y m d * 87840000000 : Nat) : Int) - z * 61000000 + (L : Int) - 1)) ∧ Below w.heap.size w w' := by
  have hm12 : 1 ≤ m ∧ m ≤ 12 := by unfold Day at hd; omega
  have c13 := fun W => count37_any W y m d hd
  have hN := num_le hd
  have c12 := fun W => ticks_any W (num y m d) hN
  have c34 := fun W => year38_any W y
  have c35 := fun W => month39_any W y m hm12.1 hm12.2
  have hyl := yl_le y
  have hml := md_le y m
  have hFb : num y m d * 87840000000 ≤ 400000000000000000 := by omega
  generalize num y m d * 87840000000 = F at c12 hFb ⊢
  generalize num y m d = N at c13 c12
  generalize yl y = Y at hL hyl c34
  generalize md y m = M at hL hml c35
  obtain ⟨b, hb⟩ : ∃ b, w.heap.size = b := ⟨_, rfl⟩
  obtain ⟨W0, hW0⟩ : ∃ W0, (w.alloc (.cells #[.int .i64 (y : Int), .int .i64 (m : Int), .int .i64 (d : Int), .int .i64 (dp : Int), .int .i64 (h : Int), .int .i64 (mi : Int), .int .i64 (sc : Int), .int .i64 (mc : Int), .int .i64 0, .bool zd, .int .i64 z] 51)).alloc (.cells #[.int .i64 0, .int .i64 0] 23) = W0 := ⟨_, rfl⟩
  have K0 : Om w W0 b (f11 y m d dp h mi sc mc 0 zd z) := by rw [← hW0, ← hb]; exact Om.start w y m d dp h mi sc mc 0 zd z
  have HK0 : Hid (Om w W0 b (f11 y m d dp h mi sc mc 0 zd z)) := K0
  have q0 : W0.cell? ⟨b, 0, none⟩ = some (.int .i64 (y : Int)) := K0.m.cell (i := 0) (by omega)
  have q1 : W0.cell? ⟨b, 1, none⟩ = some (.int .i64 (m : Int)) := K0.m.cell (i := 1) (by omega)
  have q2 : W0.cell? ⟨b, 2, none⟩ = some (.int .i64 (d : Int)) := K0.m.cell (i := 2) (by omega)
  have HW0 : Hid _ := hW0
  clear K0 hW0 hd
  unfold mV
  unfold dv at c13
  go_enter Tryd.func17, Tryd.ntmps17
  go_upto_region 1 with fail
  rw [HW0.out]
  go_wp2_with (go_at_call 13; refine Stop.mk ?_)
  refine Stop.out ((c13 _).mono ?_)
  rintro e W1 ⟨rfl, hb1⟩
  have HK1 : Hid (Om w W1 b (f11 y m d dp h mi sc mc 0 zd z)) := HK0.out.on hb1
  clear q0 q1 q2 hb1 c13 HK0 HW0
  have q0 : W1.cell? ⟨b, 0, none⟩ = some (.int .i64 (y : Int)) := HK1.out.m.cell (i := 0) (by omega)
  have q1 : W1.cell? ⟨b, 1, none⟩ = some (.int .i64 (m : Int)) := HK1.out.m.cell (i := 1) (by omega)
  have q3 : W1.cell? ⟨b, 3, none⟩ = some (.int .i64 (dp : Int)) := HK1.out.m.cell (i := 3) (by omega)
  have q8 : W1.cell? ⟨b, 8, none⟩ = some (.int .i64 0) := HK1.out.m.cell (i := 8) (by omega)
  have q10 : W1.cell? ⟨b, 10, none⟩ = some (.int .i64 z) := HK1.out.m.cell (i := 10) (by omega)
  have z0 : W1.cell? ⟨b + 1, 0, none⟩ = some (.int .i64 0) := HK1.out.r.cell (i := 0) (by omega)
  have z1 : W1.cell? ⟨b + 1, 1, none⟩ = some (.int .i64 0) := HK1.out.r.cell (i := 1) (by omega)
  have zf := fun i => HK1.out.r.frozen i
  rcases (by omega : dp = 1 ∨ dp = 2 ∨ dp = 3) with rfl | rfl | rfl
  · rw [if_pos rfl] at hL
    have hLI : (Y : Int) * 87840000000 = (L : Int) := by omega
    have hLb : L ≤ 40000000000000 := by omega
    clear hL
    go_wp2_with first | (go_at_call 12; refine (c12 _).mono ?_; rintro e w' ⟨rfl, rfl⟩) | (go_at_call 34; refine (c34 _).mono ?_; rintro e w' ⟨rfl, rfl⟩)
    refine bodyPost_ret (v := sp ((F : Int) - z * 61000000) ((F : Int) - z * 61000000 + (L : Int) - 1)) (by simp [results, Tryd.results17, go_sem, sp, z0, z1]) rfl ⟨rfl, ?_⟩
    rw [hb]
    repeat (refine Below.setCell ?_ (by exact Nat.le_succ _) _)
    exact HK1.out.b
  · rw [if_neg (by decide), if_pos rfl] at hL
    have hLI : (M : Int) * 87840000000 = (L : Int) := by omega
    have hLb : L ≤ 40000000000000 := by omega
    clear hL
    go_wp2_with first | (go_at_call 12; refine (c12 _).mono ?_; rintro e w' ⟨rfl, rfl⟩) | (go_at_call 35; refine (c35 _).mono ?_; rintro e w' ⟨rfl, rfl⟩)
    refine bodyPost_ret (v := sp ((F : Int) - z * 61000000) ((F : Int) - z * 61000000 + (L : Int) - 1)) (by simp [results, Tryd.results17, go_sem, sp, z0, z1]) rfl ⟨rfl, ?_⟩
    rw [hb]
    repeat (refine Below.setCell ?_ (by exact Nat.le_succ _) _)
    exact HK1.out.b
  · rw [if_neg (by decide), if_neg (by decide)] at hL
    subst hL
    go_wp2_with first | (go_at_call 12; refine (c12 _).mono ?_; rintro e w' ⟨rfl, rfl⟩)
    refine bodyPost_ret (v := sp ((F : Int) - z * 61000000) ((F : Int) - z * 61000000 + 87840000000 - 1)) (by simp [results, Tryd.results17, go_sem, sp, z0, z1]) rfl ⟨rfl, ?_⟩
    rw [hb]
    repeat (refine Below.setCell ?_ (by exact Nat.le_succ _) _)
    exact HK1.out.b

set_option maxRecDepth 100000 in
set_option maxHeartbeats 2000000 in
theorem ofMoment_time (w : World) (y m d h mi sc mc p : Nat) (zd : Bool) (z : Int) (hd : Day y m d) (h1 : h ≤ 23) (h2 : mi ≤ 59) (h3 : sc ≤ 60) (h4 : mc ≤ 999999) (hp1 : 1 ≤ p) (hp9 : p ≤ 9) (hz1 : -720 ≤ z) (hz2 : z ≤ 840) :
    Calls Tryd.prog 17 #[mV y m d 3 h mi sc mc p zd z] w fun e w' => e = .returned (sp (((num y m d * 87840000000 : Nat) : Int) + ((tt h mi sc mc : Nat) : Int) - z * 61000000) (((num y m d * 87840000000 : Nat) : Int) + ((tt h mi sc mc : Nat) : Int) - z * 61000000 + tk p - 1)) ∧ Below w.heap.size w w' := by
  have hm12 : 1 ≤ m ∧ m ≤ 12 := by unfold Day at hd; omega
  have c13 := fun W => count37_any W y m d hd
  have hN := num_le hd
  have c12 := fun W => ticks_any W (num y m d) hN
  have c15 := fun W => inDay_any W h mi sc mc p (by omega) (by omega) (by omega) h4 hp1 hp9
  have hk := tk_pos hp9
  have hTb : tt h mi sc mc ≤ 400000000000 := by unfold tt; omega
  have hFb : num y m d * 87840000000 ≤ 400000000000000000 := by omega
  generalize num y m d * 87840000000 = F at c12 hFb ⊢
  generalize num y m d = N at c13 c12
  generalize tt h mi sc mc = T at c15 hTb ⊢
  generalize tk p = K at c15 hk ⊢
  obtain ⟨b, hb⟩ : ∃ b, w.heap.size = b := ⟨_, rfl⟩
  obtain ⟨W0, hW0⟩ : ∃ W0, (w.alloc (.cells #[.int .i64 (y : Int), .int .i64 (m : Int), .int .i64 (d : Int), .int .i64 3, .int .i64 (h : Int), .int .i64 (mi : Int), .int .i64 (sc : Int), .int .i64 (mc : Int), .int .i64 (p : Int), .bool zd, .int .i64 z] 51)).alloc (.cells #[.int .i64 0, .int .i64 0] 23) = W0 := ⟨_, rfl⟩
  have K0 : Om w W0 b (f11 y m d 3 h mi sc mc p zd z) := by rw [← hW0, ← hb]; exact Om.start w y m d 3 h mi sc mc p zd z
  have HK0 : Hid (Om w W0 b (f11 y m d 3 h mi sc mc p zd z)) := K0
  have q0 : W0.cell? ⟨b, 0, none⟩ = some (.int .i64 (y : Int)) := K0.m.cell (i := 0) (by omega)
  have q1 : W0.cell? ⟨b, 1, none⟩ = some (.int .i64 (m : Int)) := K0.m.cell (i := 1) (by omega)
  have q2 : W0.cell? ⟨b, 2, none⟩ = some (.int .i64 (d : Int)) := K0.m.cell (i := 2) (by omega)
  have HW0 : Hid _ := hW0
  clear K0 hW0 hd
  unfold mV
  unfold dv at c13
  unfold v5 at c15
  go_enter Tryd.func17, Tryd.ntmps17
  go_upto_region 1 with fail
  rw [HW0.out]
  go_wp2_with (go_at_call 13; refine Stop.mk ?_)
  refine Stop.out ((c13 _).mono ?_)
  rintro e W1 ⟨rfl, hb1⟩
  have HK1 : Hid (Om w W1 b (f11 y m d 3 h mi sc mc p zd z)) := HK0.out.on hb1
  clear q0 q1 q2 hb1 c13 HK0 HW0
  have q0 : W1.cell? ⟨b, 0, none⟩ = some (.int .i64 (y : Int)) := HK1.out.m.cell (i := 0) (by omega)
  have q1 : W1.cell? ⟨b, 1, none⟩ = some (.int .i64 (m : Int)) := HK1.out.m.cell (i := 1) (by omega)
  have q3 : W1.cell? ⟨b, 3, none⟩ = some (.int .i64 3) := HK1.out.m.cell (i := 3) (by omega)
  have q8 : W1.cell? ⟨b, 8, none⟩ = some (.int .i64 (p : Int)) := HK1.out.m.cell (i := 8) (by omega)
  have q10 : W1.cell? ⟨b, 10, none⟩ = some (.int .i64 z) := HK1.out.m.cell (i := 10) (by omega)
  have z0 : W1.cell? ⟨b + 1, 0, none⟩ = some (.int .i64 0) := HK1.out.r.cell (i := 0) (by omega)
  have z1 : W1.cell? ⟨b + 1, 1, none⟩ = some (.int .i64 0) := HK1.out.r.cell (i := 1) (by omega)
  have zf := fun i => HK1.out.r.frozen i
  have q4 : W1.cell? ⟨b, 4, none⟩ = some (.int .i64 (h : Int)) := HK1.out.m.cell (i := 4) (by omega)
  have q5 : W1.cell? ⟨b, 5, none⟩ = some (.int .i64 (mi : Int)) := HK1.out.m.cell (i := 5) (by omega)
  have q6 : W1.cell? ⟨b, 6, none⟩ = some (.int .i64 (sc : Int)) := HK1.out.m.cell (i := 6) (by omega)
  have q7 : W1.cell? ⟨b, 7, none⟩ = some (.int .i64 (mc : Int)) := HK1.out.m.cell (i := 7) (by omega)
  have hpI : decide (0 < (p : Int)) = true := by simp; omega
  go_wp2_with first | (go_at_call 12; refine (c12 _).mono ?_; rintro e w' ⟨rfl, rfl⟩) | (go_at_call 15; refine Stop.mk ?_)
  refine Stop.out ((c15 _).mono ?_)
  rintro e W2 ⟨rfl, hb2⟩
  have HK2 : Hid _ := HK1.out.on hb2
  clear q0 q1 q3 q4 q5 q6 q7 q8 q10 z0 z1 zf hb2 c15 HK1
  have q10 : W2.cell? ⟨b, 10, none⟩ = some (.int .i64 z) := HK2.out.m.cell (i := 10) (by omega)
  have z0 : W2.cell? ⟨b + 1, 0, none⟩ = some (.int .i64 0) := HK2.out.r.cell (i := 0) (by omega)
  have z1 : W2.cell? ⟨b + 1, 1, none⟩ = some (.int .i64 0) := HK2.out.r.cell (i := 1) (by omega)
  have zf := fun i => HK2.out.r.frozen i
  go_wp2
  refine bodyPost_ret (v := sp ((F : Int) + (T : Int) - z * 61000000) ((F : Int) + (T : Int) - z * 61000000 + K - 1)) (by simp [results, Tryd.results17, go_sem, sp, z0, z1]) rfl ⟨rfl, ?_⟩
  rw [hb]
  repeat (refine Below.setCell ?_ (by exact Nat.le_succ _) _)
  exact HK2.out.b


theorem day_of {S : Mst} (h : Bo S) : Day S.y S.m S.d := by
  have := h.y1; have := h.y9; have := h.m1; have := h.m12; have := h.d1; have := h.dm
  unfold Day; omega
theorem ofMoment_any (w : World) (S : Mst) (h : Bo S) (hI : Iv S) : Calls Tryd.prog 17 #[mo11 S] w fun e w' => e = .returned (sp (fS S) (lS S)) ∧ Below w.heap.size w w' := by
  have hd := day_of h
  rcases hI with ⟨hp, e1, e2, e3, e4⟩ | ⟨hp, e1⟩
  · have c := ofMoment_day w S.y S.m S.d S.dp S.h S.mi S.sc S.mc S.zd S.z hd h.p1 h.p3 h.z1 h.z2 _ rfl
    have em : mo11 S = mV S.y S.m S.d S.dp S.h S.mi S.sc S.mc 0 S.zd S.z := by unfold mo11 mV; rw [hp]
    rw [em]
    refine c.mono fun e w' ⟨he, hb⟩ => ⟨?_, hb⟩
    rw [he]
    have ef : ((num S.y S.m S.d * 87840000000 : Nat) : Int) - S.z * 61000000 = fS S := by
      unfold fS fI
      rw [e1, e2, e3, e4]
      have : tt 0 0 0 0 = 0 := by decide
      rw [this]
      omega
    have el : (((if S.dp = 1 then yl S.y * 87840000000 else if S.dp = 2 then md S.y S.m * 87840000000 else 87840000000 : Nat)) : Int) = oT S.y S.m S.dp S.p := by
      unfold oT
      rw [yl_dA S.y h.y1, hp]
      split
      · omega
      · split
        · omega
        · rfl
    rw [el, ef]
    rfl
  · have c := ofMoment_time w S.y S.m S.d S.h S.mi S.sc S.mc S.p S.zd S.z hd h.h h.mi h.sc h.mc hp h.p9 h.z1 h.z2
    have em : mo11 S = mV S.y S.m S.d 3 S.h S.mi S.sc S.mc S.p S.zd S.z := by unfold mo11 mV; rw [e1]
    rw [em]
    refine c.mono fun e w' ⟨he, hb⟩ => ⟨?_, hb⟩
    rw [he]
    have ef : ((num S.y S.m S.d * 87840000000 : Nat) : Int) + ((tt S.h S.mi S.sc S.mc : Nat) : Int) - S.z * 61000000 = fS S := by
      unfold fS fI
      omega
    have el : oT S.y S.m S.dp S.p = tk S.p := by unfold oT; rw [e1, if_neg (by decide), if_neg (by decide)]
    unfold lS
    rw [ef, el]
end Go.Proofs.YtehgeninocbpeaaDoor.Tm

import Derived.Test.YtehgeninocbpeaaGreatDoorSa
namespace Go.Proofs.YtehgeninocbpeaaGreatDoor.Tm
open Go Go.Proofs Go.RowKit
def sp (f l : Int) : Value := .agg #[.int .i64 f, .int .i64 l]
def fI (y m d h mi sc mc : Nat) (z : Int) : Int := (num y m d : Int) * 87840000000 + (tt h mi sc mc : Int) - z * 61000000
def f2 (a b : Int) : Nat → Value := fun k => #[Value.int .i64 a, .int .i64 b].getD k undef
def f11 (y m d dp h mi sc mc p : Nat) (zd : Bool) (z : Int) : Nat → Value := fun k => #[Value.int .i64 (y : Int), .int .i64 (m : Int), .int .i64 (d : Int), .int .i64 (dp : Int), .int .i64 (h : Int), .int .i64 (mi : Int), .int .i64 (sc : Int), .int .i64 (mc : Int), .int .i64 (p : Int), .bool zd, .int .i64 z].getD k undef
structure Ow (w W : World) (r B : Nat) (f : Nat → Value) : Prop where
  zr : W.rowIs r 66 2 (f2 0 0)
  m : W.rowIs B 130 11 f
  b : Below r w W
  rB : r < B
  t : Mt W
  o : Ot W
theorem Ow.on {w W W' : World} {r B : Nat} {f : Nat → Value} (h : Ow w W r B f) (hb : Below W.heap.size W W') : Ow w W' r B f :=
  ⟨h.zr.of_block (hb.block _ h.zr.lt), h.m.of_block (hb.block _ h.m.lt), h.b.trans (hb.mono (Nat.le_of_lt h.zr.lt)), h.rB, h.t.on hb, h.o.on hb⟩
theorem Ow.drew {w W : World} {r B : Nat} {f : Nat → Value} (h : Ow w W r B f) : Ow w W.drew r B f := ⟨h.zr, h.m, h.b.drew, h.rB, ⟨h.t.p⟩, ⟨h.o.p⟩⟩
set_option maxRecDepth 100000 in
set_option maxHeartbeats 2000000 in
theorem own96 (w : World) (vr : Int) (s : ByteArray) (a : Nat) (y m d dp h mi sc mc p : Nat) (zd : Bool) (z : Int) (hT : Mt w) (hO : Ot w)
    (hd : Day y m d) (hdp1 : 1 ≤ dp) (hdp3 : dp ≤ 3) (h1 : h ≤ 23) (h2 : mi ≤ 59) (h3 : sc ≤ 60) (h4 : mc ≤ 999999) (hp : p ≤ 9) (hz1 : -720 ≤ z) (hz2 : z ≤ 840)
    (c23 : ∀ W, Mt W → Calls Tryz.prog 120 #[.int .i64 vr, .string s, .int .i64 (a : Int)] W (PostR W (mV y m d dp h mi sc mc p zd z) none)) :
    Calls Tryz.prog 96 #[.int .i64 vr, .string s, .int .i64 (a : Int)] w (PostR w (sp (fI y m d h mi sc mc z) (fI y m d h mi sc mc z + oT y m dp p - 1)) none) := by
  unfold mV at c23
  obtain ⟨r, hr⟩ : ∃ r, w.heap.size = r := ⟨_, rfl⟩
  obtain ⟨W0, hW0⟩ : ∃ W0, w.alloc (.cells #[.int .i64 0, .int .i64 0] 66) = W0 := ⟨_, rfl⟩
  have hb0 : Below r w W0 := by rw [← hW0, ← hr]; exact (Below.refl _ _).alloc (Nat.le_refl _) _
  have hs0 : W0.heap.size = r + 1 := by rw [← hW0, ← hr]; simp
  have HZ0 : Hid (W0.rowIs r 66 2 (f2 0 0)) := by
    show W0.rowIs _ _ _ _
    rw [← hW0, ← hr]
    exact World.rowIs_alloc w _ 66 _ (row_lit _)
  have c23 := c23 W0 (hT.on (hr ▸ hb0))
  have HB0 : Hid (Below r w W0) := hb0
  have HT : Hid (Mt W0) := hT.on (hr ▸ hb0)
  have HO : Hid (Ot W0) := hO.on (hr ▸ hb0)
  have c24 : ∀ W, Mt W → _ := fun W hM => number_any W y m d hd hM
  have c25 := fun W => tick_any W h mi sc mc p (by omega) (by omega) (by omega) h4
  have c26 : ∀ W, Ot W → Mt W → _ := fun W hO hM => ticksOf_any W y m d dp h mi sc mc p zd z hd.1 hd.2.1 hdp1 hdp3 hp hO hM
  unfold mV at c26
  have hk := oT_pos (dp := dp) hd.1 hd.2.2.1 hd.2.2.2.1 hp
  have hN : num y m d ≤ 3700000 := by
    have := dA_le (y := y) (by unfold Day at hd; omega)
    have := cu_le y (m - 1)
    have := md_le y m
    unfold Day at hd
    unfold num
    omega
  have hTt : tt h mi sc mc ≤ 90000000000 := by unfold tt; omega
  have hFI : (num y m d : Int) * 87840000000 + (tt h mi sc mc : Int) - z * 61000000 = fI y m d h mi sc mc z := rfl
  have hFb : -43920000000 - 1000000000000 ≤ fI y m d h mi sc mc z ∧ fI y m d h mi sc mc z ≤ 400000000000000000 := by rw [← hFI]; omega
  generalize fI y m d h mi sc mc z = F at *
  generalize num y m d = N at *
  generalize tt h mi sc mc = T at *
  generalize oT y m dp p = K at *
  clear hT hO hd h1 h2 h3 h4 hp hb0 hdp1 hdp3
  have HW0 : Hid _ := hW0
  clear hW0
  unfold v5 at c25
  unfold dv at c24
  go_enter Tryz.func96, Tryz.ntmps96
  go_wp2_with (go_at_call 120; refine Stop.mk ?_)
  rw [HW0.out]
  refine Stop.out (c23.mono ?_)
  rintro e W1 ⟨v, rfl, hv, hb1⟩
  obtain rfl : v = .nilIface := hv
  go_upto_region 2 with fail
  obtain ⟨B, hB⟩ : ∃ B, W1.heap.size = B := ⟨_, rfl⟩
  obtain ⟨W2, hW2⟩ : ∃ W2, W1.alloc (.cells #[.int .i64 (y : Int), .int .i64 (m : Int), .int .i64 (d : Int), .int .i64 (dp : Int), .int .i64 (h : Int), .int .i64 (mi : Int), .int .i64 (sc : Int), .int .i64 (mc : Int), .int .i64 (p : Int), .bool zd, .int .i64 z] 130) = W2 := ⟨_, rfl⟩
  have hb2 : Below W0.heap.size W0 W2 := by
    rw [← hW2]
    exact hb1.trans (((Below.refl _ W1).alloc (Nat.le_refl _) _).mono hb1.size)
  have K2 : Hid (Ow w W2 r B (f11 y m d dp h mi sc mc p zd z)) := by
    refine ⟨HZ0.out.of_block (hb2.block _ HZ0.out.lt), ?_, HB0.out.trans (hb2.mono (by omega)), by have := hb1.size; omega, HT.out.on hb2, HO.out.on hb2⟩
    rw [← hW2, ← hB]
    exact World.rowIs_alloc W1 _ 130 _ (row_lit _)
  clear c23 hb1 hb2 HZ0 HB0 HT HO HW0 hs0
  rw [hW2, hB]
  have q0 : W2.cell? ⟨B, 0, none⟩ = some (.int .i64 (y : Int)) := K2.out.m.cell (i := 0) (by omega)
  have q1 : W2.cell? ⟨B, 1, none⟩ = some (.int .i64 (m : Int)) := K2.out.m.cell (i := 1) (by omega)
  have q2 : W2.cell? ⟨B, 2, none⟩ = some (.int .i64 (d : Int)) := K2.out.m.cell (i := 2) (by omega)
  have q4 : W2.cell? ⟨B, 4, none⟩ = some (.int .i64 (h : Int)) := K2.out.m.cell (i := 4) (by omega)
  have q5 : W2.cell? ⟨B, 5, none⟩ = some (.int .i64 (mi : Int)) := K2.out.m.cell (i := 5) (by omega)
  have q6 : W2.cell? ⟨B, 6, none⟩ = some (.int .i64 (sc : Int)) := K2.out.m.cell (i := 6) (by omega)
  have q7 : W2.cell? ⟨B, 7, none⟩ = some (.int .i64 (mc : Int)) := K2.out.m.cell (i := 7) (by omega)
  have q8 : W2.cell? ⟨B, 8, none⟩ = some (.int .i64 (p : Int)) := K2.out.m.cell (i := 8) (by omega)
  have q10 : W2.cell? ⟨B, 10, none⟩ = some (.int .i64 z) := K2.out.m.cell (i := 10) (by omega)
  have HC24 : Hid _ := c24
  have HC26 : Hid _ := c26
  clear hW2 hB c24 c26
  go_upto_region 4 with fail
  have KD : Hid (Ow w W2.drew r B (f11 y m d dp h mi sc mc p zd z)) := K2.out.drew
  go_region_with (first
    | (go_at_call 121; refine (HC24.out _ (Ow.t (Hid.out (‹Hid (Ow w _ r B (f11 y m d dp h mi sc mc p zd z))›)))).mono ?_; rintro e W9 ⟨rfl, hb9⟩; have K9 : Hid (Ow w W9 r B (f11 y m d dp h mi sc mc p zd z)) := Ow.on (Hid.out (‹Hid (Ow w _ r B (f11 y m d dp h mi sc mc p zd z))›)) hb9; clear hb9; have g0 : W9.cell? ⟨B, 0, none⟩ = some (.int .i64 (y : Int)) := K9.out.m.cell (i := 0) (by omega); have g1 : W9.cell? ⟨B, 1, none⟩ = some (.int .i64 (m : Int)) := K9.out.m.cell (i := 1) (by omega); have g2 : W9.cell? ⟨B, 2, none⟩ = some (.int .i64 (d : Int)) := K9.out.m.cell (i := 2) (by omega); have g4 : W9.cell? ⟨B, 4, none⟩ = some (.int .i64 (h : Int)) := K9.out.m.cell (i := 4) (by omega); have g5 : W9.cell? ⟨B, 5, none⟩ = some (.int .i64 (mi : Int)) := K9.out.m.cell (i := 5) (by omega); have g6 : W9.cell? ⟨B, 6, none⟩ = some (.int .i64 (sc : Int)) := K9.out.m.cell (i := 6) (by omega); have g7 : W9.cell? ⟨B, 7, none⟩ = some (.int .i64 (mc : Int)) := K9.out.m.cell (i := 7) (by omega); have g8 : W9.cell? ⟨B, 8, none⟩ = some (.int .i64 (p : Int)) := K9.out.m.cell (i := 8) (by omega); have g3 : W9.cell? ⟨B, 3, none⟩ = some (.int .i64 (dp : Int)) := K9.out.m.cell (i := 3) (by omega); have g9 : W9.cell? ⟨B, 9, none⟩ = some (.bool zd) := K9.out.m.cell (i := 9) (by omega); have g10 : W9.cell? ⟨B, 10, none⟩ = some (.int .i64 z) := K9.out.m.cell (i := 10) (by omega))
    | (go_at_call 122; refine (c25 _).mono ?_; rintro e W9 ⟨rfl, hb9⟩; have K9 : Hid (Ow w W9 r B (f11 y m d dp h mi sc mc p zd z)) := Ow.on (Hid.out (‹Hid (Ow w _ r B (f11 y m d dp h mi sc mc p zd z))›)) hb9; clear hb9; have g0 : W9.cell? ⟨B, 0, none⟩ = some (.int .i64 (y : Int)) := K9.out.m.cell (i := 0) (by omega); have g1 : W9.cell? ⟨B, 1, none⟩ = some (.int .i64 (m : Int)) := K9.out.m.cell (i := 1) (by omega); have g2 : W9.cell? ⟨B, 2, none⟩ = some (.int .i64 (d : Int)) := K9.out.m.cell (i := 2) (by omega); have g4 : W9.cell? ⟨B, 4, none⟩ = some (.int .i64 (h : Int)) := K9.out.m.cell (i := 4) (by omega); have g5 : W9.cell? ⟨B, 5, none⟩ = some (.int .i64 (mi : Int)) := K9.out.m.cell (i := 5) (by omega); have g6 : W9.cell? ⟨B, 6, none⟩ = some (.int .i64 (sc : Int)) := K9.out.m.cell (i := 6) (by omega); have g7 : W9.cell? ⟨B, 7, none⟩ = some (.int .i64 (mc : Int)) := K9.out.m.cell (i := 7) (by omega); have g8 : W9.cell? ⟨B, 8, none⟩ = some (.int .i64 (p : Int)) := K9.out.m.cell (i := 8) (by omega); have g3 : W9.cell? ⟨B, 3, none⟩ = some (.int .i64 (dp : Int)) := K9.out.m.cell (i := 3) (by omega); have g9 : W9.cell? ⟨B, 9, none⟩ = some (.bool zd) := K9.out.m.cell (i := 9) (by omega); have g10 : W9.cell? ⟨B, 10, none⟩ = some (.int .i64 z) := K9.out.m.cell (i := 10) (by omega)) | fail)
  all_goals
    have HC9 := HC26.out W9 K9.out.o K9.out.t
    go_wp2_with (go_at_call 123; refine HC9.mono ?_; rintro e W10 ⟨rfl, hb10⟩; have K10 : Hid (Ow w W10 r B (f11 y m d dp h mi sc mc p zd z)) := K9.out.on hb10; have z0 : W10.cell? ⟨r, 0, none⟩ = some (.int .i64 0) := K10.out.zr.cell (i := 0) (by omega); have z1 : W10.cell? ⟨r, 1, none⟩ = some (.int .i64 0) := K10.out.zr.cell (i := 1) (by omega); have zf := fun i => K10.out.zr.frozen i)
    refine bodyPost_ret (v := .tuple #[sp F (F + K - 1), .nilIface]) (by simp [results, Tryz.results96, go_sem, sp, z0, z1]) rfl ⟨_, rfl, rfl, ?_⟩
    rw [hr]
    exact (K10.out.b.setCell (p := ⟨r, 0, none⟩) (Nat.le_refl _) _).setCell (p := ⟨r, 1, none⟩) (Nat.le_refl _) _
end Go.Proofs.YtehgeninocbpeaaGreatDoor.Tm

import Derived.Test.YtaingbnfalibjaaDoorDm
import Derived.Test.YtaingbnfalibjaaDoorDi
import Derived.Test.YtaingbnfalibjaaDoorDl
import Derived.Test.YtaingbnfalibjaaDoorEi
import Derived.Lib.QuietBelow
/-
  DERIVED. The law of numbers.
-/
namespace Go.Proofs.YtaingbnfalibjaaDoor
open Go Go.Proofs Go.RowKit NumLine Go.Sort

def f3 (a : Nm) : Nat → Value
  | 0 => .bool a.neg
  | 1 => .int .u64 (a.d : Int)
  | _ => .int .i64 a.e
theorem hmix : Tryd.prog.follows .mixedOrders = true := by kernel_rfl
structure Kst (w wx : World) (R : List (Nat × TypeId × Nat × (Nat → Value))) (P Q : List (Value × Option (Int × Int))) : Prop where
  r : ∀ x ∈ R, wx.rowIs x.1 x.2.1 x.2.2.1 x.2.2.2
  p : ∀ x ∈ P, PErr wx x.1 x.2
  q : ∀ x ∈ Q, RErr wx x.1 x.2
  b : Below w.heap.size w wx
variable {w wx wy : World} {R : List (Nat × TypeId × Nat × (Nat → Value))} {P Q : List (Value × Option (Int × Int))}
theorem Kst.on (h : Kst w wx R P Q) (hb : Below wx.heap.size wx wy) : Kst w wy R P Q :=
  ⟨fun x hx => (h.r x hx).of_block (hb.block _ (h.r x hx).lt), fun x hx => (h.p x hx).next hb, fun x hx => (h.q x hx).next hb, h.b.trans (hb.mono h.b.size)⟩
theorem Kst.addP {v : Value} {o : Option (Int × Int)} (h : Kst w wx R P Q) (hv : PErr wx v o) : Kst w wx R ((v, o) :: P) Q :=
  ⟨h.r, fun x hx => by rcases List.mem_cons.1 hx with rfl | hx; exact hv; exact h.p x hx, h.q, h.b⟩
theorem Kst.addQ {v : Value} {o : Option (Int × Int)} (h : Kst w wx R P Q) (hv : RErr wx v o) : Kst w wx R P ((v, o) :: Q) :=
  ⟨h.r, h.p, fun x hx => by rcases List.mem_cons.1 hx with rfl | hx; exact hv; exact h.q x hx, h.b⟩
theorem Kst.numb (h : Kst w wx R P Q) (a : Nm) : Kst w (wx.alloc (.cells #[.bool a.neg, .int .u64 (a.d : Int), .int .i64 a.e] 24)) ((wx.heap.size, 24, 3, f3 a) :: R) P Q := by
  have k := h.on ((Below.refl _ wx).alloc (Nat.le_refl _) (.cells #[.bool a.neg, .int .u64 (a.d : Int), .int .i64 a.e] 24))
  refine ⟨fun x hx => ?_, k.p, k.q, k.b⟩
  rcases List.mem_cons.1 hx with rfl | hx
  · exact World.rowIs_alloc wx _ 24 _ (fun i hi => by
      rcases (by simp at hi; omega : i = 0 ∨ i = 1 ∨ i = 2) with rfl | rfl | rfl <;> rfl)
  · exact k.r x hx
def f2 (a b : Value) : Nat → Value := fun k => if k = 0 then a else b
theorem Kst.fault (h : Kst w wx R P Q) (a b : Value) : Kst w (wx.alloc (.cells #[a, b] 35)) ((wx.heap.size, 35, 2, f2 a b) :: R) P Q := by
  have k := h.on ((Below.refl _ wx).alloc (Nat.le_refl _) (.cells #[a, b] 35))
  refine ⟨fun x hx => ?_, k.p, k.q, k.b⟩
  rcases List.mem_cons.1 hx with rfl | hx
  · exact World.rowIs_alloc wx _ 35 _ (fun i hi => by
      rcases (by simp at hi; omega : i = 0 ∨ i = 1) with rfl | rfl <;> rfl)
  · exact k.r x hx
theorem Kst.d3 {q : Nat} {a : Nm} (h : Kst w wx R P Q) (hx : (q, 24, 3, f3 a) ∈ R) : wx.cell? ⟨q, 0, none⟩ = some (.bool a.neg) ∧ wx.cell? ⟨q, 1, none⟩ = some (.int .u64 (a.d : Int)) ∧ wx.cell? ⟨q, 2, none⟩ = some (.int .i64 a.e) :=
  ⟨(h.r _ hx).cell (i := 0) (by simp), (h.r _ hx).cell (i := 1) (by simp), (h.r _ hx).cell (i := 2) (by simp)⟩
theorem Kst.f2c {q : Nat} {a b : Value} (h : Kst w wx R P Q) (hx : (q, 35, 2, f2 a b) ∈ R) : wx.cell? ⟨q, 0, none⟩ = some a ∧ wx.cell? ⟨q, 1, none⟩ = some b :=
  ⟨(h.r _ hx).cell (i := 0) (by simp), (h.r _ hx).cell (i := 1) (by simp)⟩
theorem RErr.shape {v : Value} {o : Option (Int × Int)} (h : RErr wx v o) : ∃ (p : Option Addr) (l k : Nat) (c : Int), v = .agg #[.slice p l k, .int .i64 c] := by
  cases o with
  | none => exact ⟨_, _, _, _, h⟩
  | some x => obtain ⟨g, k, rfl, _⟩ := h; exact ⟨_, _, _, _, rfl⟩


theorem Kst.start (w : World) : Kst w w [] [] [] := ⟨(fun _ h => by cases h), (fun _ h => by cases h), (fun _ h => by cases h), Below.refl _ _⟩
theorem Ex.one {neg : Bool} {d : Nat} {x : Int} {r q : Nm} (h : Ex neg d x r) (h' : Ex neg d x q) : r = q := by
  rcases h' with ⟨h0, rfl⟩ | ⟨h0, k, e1, e2, e3, e4⟩
  · rcases h with ⟨_, rfl⟩ | ⟨h1, _⟩
    · rfl
    · exact absurd h0 h1
  · exact ex_one h e3 k e1.symm e2.symm (by omega)
theorem PM.one {s : ByteArray} {r q : Nm} {o o' : Option (Int × Int)} (h : PM s r o) (h' : PM s q o') : r = q ∧ o = o' := by
  rcases h with ⟨h1, h2, rfl⟩ | ⟨h1, rfl, rfl⟩ <;> rcases h' with ⟨h1', h2', rfl⟩ | ⟨h1', rfl, rfl⟩
  · exact ⟨h2.one h2', rfl⟩
  · exact absurd h1 h1'
  · exact absurd h1' h1
  · exact ⟨rfl, rfl⟩
def nz (o : Option (Int × Int)) : Prop := ∀ a c, o = some (a, c) → (c != 0) = true
theorem nz_some (a c : Int) (h : (c != 0) = true) : nz (some (a, c)) := fun _ _ e => by cases e; exact h
theorem nz_none : nz none := fun _ _ e => by cases e
theorem nz_WR (s : ByteArray) : nz (WR s).2 := by
  unfold WR
  repeat (first | exact nz_none | exact nz_some _ _ rfl | split)
theorem nz_PW (n : Int) : nz (PW n).2 := by
  unfold PW
  repeat (first | exact nz_none | exact nz_some _ _ rfl | split)
theorem nz_PR (a : Nm) : nz (PR a).2 := by
  unfold PR
  repeat (first | exact nz_none | exact nz_some _ _ rfl | split)
theorem nz_PM {s : ByteArray} {r : Nm} {o : Option (Int × Int)} (h : PM s r o) : nz o := by
  rcases h with ⟨_, _, rfl⟩ | ⟨_, _, rfl⟩
  · exact nz_none
  · unfold erN
    split
    · exact nz_some _ _ rfl
    · exact nz_some _ _ rfl

set_option maxRecDepth 100000 in
set_option maxHeartbeats 4000000 in
theorem numbers_any (w : World) (s : ByteArray) (n : Int) (hn0 : -9223372036854775808 ≤ n) (hn1 : n ≤ 9223372036854775807) (a b : Nm) (ha : a.d < 18446744073709551616) (hb : b.d < 18446744073709551616)
    (he1 : -9223372036854775808 ≤ a.e) (he2 : a.e ≤ 9223372036854775807) (he3 : -9223372036854775808 ≤ b.e) (he4 : b.e ≤ 9223372036854775807) (hp : Pow w) :
    Calls Tryd.prog 4 #[.string s, .int .i64 n, nv a, nv b] w fun e w' => e = .returned (.bool true) ∧ Below w.heap.size w w' := by
  have HP : Hid (Pow w) := hp
  have cPP := fun W h => pprint_any W a ha he1 he2 h
  have cRP := fun W h => rprint_any W a ha he1 he2 h
  have cPC := fun W => compare_any W a b ha hb he1 he2 he3 he4
  have cRC := fun W h => rcompare_any W a b ha hb he1 he2 he3 he4 h
  have cPW := fun W h => pprintw_any W n hn0 hn1 h
  have cRW := fun W h => rprintw_any W n hn0 hn1 h
  have Z1 : Hid (nz (WR s).2) := nz_WR s
  have Z2 : Hid (nz (PW n).2) := nz_PW n
  have Z4 : Hid (nz (PR a).2) := nz_PR a
  have cPs := fun W => pwhole_any W s
  have cRs := fun W => rwhole_any W s
  generalize (WR s).1 = I1 at *
  generalize (WR s).2 = o1 at *
  generalize (PW n).1 = T2 at *
  generalize (PW n).2 = o2 at *
  generalize (PR a).1 = T4 at *
  generalize (PR a).2 = o4 at *
  generalize cmpN a b = C at *
  obtain ⟨B0, hB0⟩ : ∃ B0, w.heap.size = B0 := ⟨_, rfl⟩
  obtain ⟨W0, hW0⟩ : ∃ W0, (w.alloc (.cells #[.bool a.neg, .int .u64 (a.d : Int), .int .i64 a.e] 24)).alloc (.cells #[.bool b.neg, .int .u64 (b.d : Int), .int .i64 b.e] 24) = W0 := ⟨_, rfl⟩
  have K0 : Hid (Kst w W0 [(B0 + 1, 24, 3, f3 b), (B0, 24, 3, f3 a)] [] []) := by
    have h := ((Kst.start w).numb a).numb b
    rw [hW0, World.size_alloc, hB0] at h
    exact h
  unfold nv at *
  clear hp ha hb he1 he2 he3 he4 hn0 hn1
  go_enter Tryd.func4, Tryd.ntmps4
  go_wp2_with (go_at_call 10; refine Stop.mk ?_)
  refine Stop.out ((cPs _).mono ?_)
  rintro e W1 ⟨v1, rfl, hv1, hb1⟩
  have K1 : Hid _ := (K0.out.on hb1).addP hv1
  clear cPs hv1 hb1 K0 hW0
  go_wp2_with (go_at_call 11; refine Stop.mk ?_)
  refine Stop.out ((cRs _).mono ?_)
  rintro e W2 ⟨u1, rfl, hu1, hb2⟩
  have K2 : Hid _ := (K1.out.on hb2).addQ hu1
  obtain ⟨p1, l1, j1, e1, rfl⟩ := hu1.shape
  clear cRs hu1 hb2 K1
  go_upto_region 3 with fail
  obtain ⟨B2, hB2⟩ : ∃ B2, W2.heap.size = B2 := ⟨_, rfl⟩
  obtain ⟨Wa, hWa⟩ : ∃ Wa, W2.alloc (.cells #[.slice p1 l1 j1, .int .i64 e1] 35) = Wa := ⟨_, rfl⟩
  have Ka := K2.out.fault (.slice p1 l1 j1) (.int .i64 e1)
  rw [hWa, hB2] at Ka
  rw [hWa, hB2]
  have Ka' : Hid _ := Ka
  have c12 := cPW Wa (HP.out.on Ka.b)
  clear hWa hB2 K2 Ka cPW
  go_wp2_with (go_at_call 12; refine Stop.mk ?_)
  refine Stop.out (c12.mono ?_)
  rintro e W3 ⟨v2, rfl, hv2, hb3⟩
  have K3 := (Ka'.out.on hb3).addP hv2
  have K3' : Hid _ := K3
  have c13 := cRW W3 (HP.out.on K3.b)
  clear c12 hv2 hb3 Ka' K3 cRW
  go_wp2_with (go_at_call 13; refine Stop.mk ?_)
  refine Stop.out (c13.mono ?_)
  rintro e W4 ⟨u2, rfl, hu2, hb4⟩
  have K4 : Hid _ := (K3'.out.on hb4).addQ hu2
  obtain ⟨p2, l2, j2, e2, rfl⟩ := hu2.shape
  clear c13 hu2 hb4 K3'
  go_upto_region 5 with fail
  obtain ⟨B4, hB4⟩ : ∃ B4, W4.heap.size = B4 := ⟨_, rfl⟩
  obtain ⟨Wb, hWb⟩ : ∃ Wb, W4.alloc (.cells #[.slice p2 l2 j2, .int .i64 e2] 35) = Wb := ⟨_, rfl⟩
  have Kb := K4.out.fault (.slice p2 l2 j2) (.int .i64 e2)
  rw [hWb, hB4] at Kb
  rw [hWb, hB4]
  have Kb' : Hid _ := Kb
  clear hWb hB4 K4 Kb
  go_wp2_with (go_at_call 5; refine Stop.mk ?_)
  refine Stop.out ((parsem_any _ _).mono ?_)
  rintro e W5 ⟨v3, r3, o3, rfl, hv3, hm3, hb5⟩
  have K5 : Hid _ := (Kb'.out.on hb5).addP hv3
  have HM3 : Hid (PM s r3 o3) := hm3
  clear hv3 hm3 hb5 Kb'
  unfold nv
  go_upto_region 6 with fail
  obtain ⟨B5, hB5⟩ : ∃ B5, W5.heap.size = B5 := ⟨_, rfl⟩
  obtain ⟨Wc, hWc⟩ : ∃ Wc, W5.alloc (.cells #[.bool r3.neg, .int .u64 (r3.d : Int), .int .i64 r3.e] 24) = Wc := ⟨_, rfl⟩
  have Kc := K5.out.numb r3
  rw [hWc, hB5] at Kc
  rw [hWc, hB5]
  have Kc' : Hid _ := Kc
  clear hWc hB5 K5 Kc
  go_wp2_with (go_at_call 14; refine Stop.mk ?_)
  refine Stop.out ((rparse_any _ _).mono ?_)
  rintro e W6 ⟨u3, q3, o3', rfl, hu3, hm3, hb6⟩
  obtain ⟨rfl, rfl⟩ := PM.one hm3 HM3.out
  have K6 : Hid _ := (Kc'.out.on hb6).addQ hu3
  obtain ⟨p3, l3, j3, e3, rfl⟩ := hu3.shape
  clear hu3 hm3 hb6 Kc'
  unfold nv
  go_upto_region 7 with fail
  obtain ⟨B6, hB6⟩ : ∃ B6, W6.heap.size = B6 := ⟨_, rfl⟩
  obtain ⟨Wd, hWd⟩ : ∃ Wd, (W6.alloc (.cells #[.bool q3.neg, .int .u64 (q3.d : Int), .int .i64 q3.e] 24)).alloc (.cells #[.slice p3 l3 j3, .int .i64 e3] 35) = Wd := ⟨_, rfl⟩
  have Kd := (K6.out.numb q3).fault (.slice p3 l3 j3) (.int .i64 e3)
  rw [hWd, World.size_alloc, hB6] at Kd
  rw [hWd, hB6]
  have Kd' : Hid _ := Kd
  obtain ⟨k0, k1, k2⟩ := Kd.d3 (q := B0) (a := a) (by simp)
  have c7 := cPP Wd (HP.out.on Kd.b)
  clear hWd hB6 K6 Kd cPP
  go_wp2_with (go_at_call 7; refine Stop.mk ?_)
  refine Stop.out (c7.mono ?_)
  rintro e W7 ⟨v4, rfl, hv4, hb7⟩
  have K7 := (Kd'.out.on hb7).addP hv4
  have K7' : Hid _ := K7
  have c15 := cRP W7 (HP.out.on K7.b)
  clear c7 k0 k1 k2 hv4 hb7 Kd' cRP
  obtain ⟨k0, k1, k2⟩ := K7.d3 (q := B0) (a := a) (by simp)
  clear K7
  go_wp2_with (go_at_call 15; refine Stop.mk ?_)
  refine Stop.out (c15.mono ?_)
  rintro e W8 ⟨u4, rfl, hu4, hb8⟩
  have K8 : Hid _ := (K7'.out.on hb8).addQ hu4
  obtain ⟨p4, l4, j4, e4, rfl⟩ := hu4.shape
  clear c15 k0 k1 k2 hu4 hb8 K7'
  go_upto_region 9 with fail
  obtain ⟨B8, hB8⟩ : ∃ B8, W8.heap.size = B8 := ⟨_, rfl⟩
  obtain ⟨We, hWe⟩ : ∃ We, W8.alloc (.cells #[.slice p4 l4 j4, .int .i64 e4] 35) = We := ⟨_, rfl⟩
  have Ke := K8.out.fault (.slice p4 l4 j4) (.int .i64 e4)
  rw [hWe, hB8] at Ke
  rw [hWe, hB8]
  have Ke' : Hid _ := Ke
  obtain ⟨k0, k1, k2⟩ := Ke.d3 (q := B0) (a := a) (by simp)
  obtain ⟨m0, m1, m2⟩ := Ke.d3 (q := B0 + 1) (a := b) (by simp)
  obtain ⟨x0, x1, x2⟩ := Ke.d3 (q := B5) (a := q3) (by simp)
  obtain ⟨y0, y1, y2⟩ := Ke.d3 (q := B6) (a := q3) (by simp)
  have HPe : Hid (Pow We) := HP.out.on Ke.b
  clear hWe hB8 K8 Ke
  have K0a := fun d os => cell_regrown k0 d os
  have K1a := fun d os => cell_regrown k1 d os
  have K2a := fun d os => cell_regrown k2 d os
  have K0b := fun d os => cell_regrown m0 d os
  have K1b := fun d os => cell_regrown m1 d os
  have K2b := fun d os => cell_regrown m2 d os
  have K0c := fun d os => cell_regrown x0 d os
  have K1c := fun d os => cell_regrown x1 d os
  have K2c := fun d os => cell_regrown x2 d os
  have K0d := fun d os => cell_regrown y0 d os
  have K1d := fun d os => cell_regrown y1 d os
  have K2d := fun d os => cell_regrown y2 d os
  have cA : ∀ d os, Calls Tryd.prog 6 #[.agg #[.bool a.neg, .int .u64 (a.d : Int), .int .i64 a.e], .agg #[.bool b.neg, .int .u64 (b.d : Int), .int .i64 b.e]] (grow (redrawn We d) os) fun x w'' => x = .returned (.int .i64 C) ∧ ∃ p : Regrown, w'' = grow (redrawn We p.d) p.os := fun d os => Calls.regrown_of (cPC _)
  have cB : ∀ d os, Calls Tryd.prog 16 #[.agg #[.bool a.neg, .int .u64 (a.d : Int), .int .i64 a.e], .agg #[.bool b.neg, .int .u64 (b.d : Int), .int .i64 b.e]] (grow (redrawn We d) os) fun x w'' => x = .returned (.int .i64 C) ∧ ∃ p : Regrown, w'' = grow (redrawn We p.d) p.os := fun d os => Calls.regrown_of (cRC _ (HPe.out.on (below_regrown We d os)))
  clear k0 k1 k2 m0 m1 m2 x0 x1 x2 y0 y1 y2 cPC cRC
  refine wp_region_quiet_below hmix (by kernel_rfl) ?_
  repeat (quiet_step (first | exact cA _ _ | exact cB _ _))
  refine wpQuiet_nil ?_
  intro _ hw'
  obtain ⟨⟨dq, osq⟩, hw''⟩ := hw'
  subst hw''
  have Kg := Ke'.out.on (below_regrown We dq osq)
  have Kg' : Hid _ := Kg
  clear cA cB K0a K1a K2a K0b K1b K2b K0c K1c K2c K0d K1d K2d Ke' HPe
  obtain ⟨Wg, hWg⟩ : ∃ Wg, grow (redrawn We dq) osq = Wg := ⟨_, rfl⟩
  rw [hWg] at Kg Kg' ⊢
  clear hWg
  obtain ⟨g0, g1⟩ := Kg.f2c (q := B2) (a := .slice p1 l1 j1) (b := .int .i64 e1) (by simp)
  have i1 := is_yes (Kg.p (v1, o1) (by simp)) (Kg.q (.agg #[.slice p1 l1 j1, .int .i64 e1], o1) (by simp)) Z1.out
  clear Kg
  go_wp2_with (go_at_call 8; refine Stop.mk ?_)
  refine Stop.out (i1.mono ?_)
  rintro e W9 ⟨rfl, hb9⟩
  have K9 := Kg'.out.on hb9
  have K9' : Hid _ := K9
  clear i1 hb9 Kg' g0 g1
  obtain ⟨g0, g1⟩ := K9.f2c (q := B4) (a := .slice p2 l2 j2) (b := .int .i64 e2) (by simp)
  have i2 := is_yes (K9.p (v2, o2) (by simp)) (K9.q (.agg #[.slice p2 l2 j2, .int .i64 e2], o2) (by simp)) Z2.out
  clear K9
  go_wp2_with (go_at_call 8; refine Stop.mk ?_)
  refine Stop.out (i2.mono ?_)
  rintro e W10 ⟨rfl, hb10⟩
  have K10 := K9'.out.on hb10
  have K10' : Hid _ := K10
  clear i2 hb10 K9' g0 g1
  obtain ⟨g0, g1⟩ := K10.f2c (q := B6 + 1) (a := .slice p3 l3 j3) (b := .int .i64 e3) (by simp)
  have i3 := is_yes (K10.p (v3, o3') (by simp)) (K10.q (.agg #[.slice p3 l3 j3, .int .i64 e3], o3') (by simp)) (nz_PM HM3.out)
  clear K10
  go_wp2_with (go_at_call 8; refine Stop.mk ?_)
  refine Stop.out (i3.mono ?_)
  rintro e W11 ⟨rfl, hb11⟩
  have K11 := K10'.out.on hb11
  have K11' : Hid _ := K11
  clear i3 hb11 K10' g0 g1
  obtain ⟨g0, g1⟩ := K11.f2c (q := B8) (a := .slice p4 l4 j4) (b := .int .i64 e4) (by simp)
  have i4 := is_yes (K11.p (v4, o4) (by simp)) (K11.q (.agg #[.slice p4 l4 j4, .int .i64 e4], o4) (by simp)) Z4.out
  clear K11
  go_wp2_with (go_at_call 8; refine Stop.mk ?_)
  refine Stop.out (i4.mono ?_)
  rintro e W12 ⟨rfl, hb12⟩
  have K12 := (K11'.out.on hb12).b
  clear i4 hb12 K11' g0 g1
  go_wp2
  go_ret
  exact ⟨rfl, K12⟩
end Go.Proofs.YtaingbnfalibjaaDoor
